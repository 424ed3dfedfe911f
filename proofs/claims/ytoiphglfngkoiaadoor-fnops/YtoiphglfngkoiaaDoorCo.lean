/-
  laws.markCellS marks each place of a slice of cells of a call's own, and turns nothing else.
  laws.heldCellS finds the marks that are there. (Made by gen_cp.py.)
  Slices of cells of a call's own at the laws' helpers; what carries them over a write elsewhere.
-/
import Derived.Test.YtoiphglfngkoiaaDoorCe
import Derived.Test.YtoiphglfngkoiaaDoorDg
import Derived.Test.YtoiphglfngkoiaaDoorCc
namespace Go.Proofs.YtoiphglfngkoiaaDoor.Cl
open Go.RowKit Wd Rp Kp
set_option linter.unusedVariables false
theorem set_same {l : List Value} {i : Nat} {v : Value} (h : l[i]? = some v) : l.set i v = l := by
  apply List.ext_getElem?
  intro j
  by_cases e : i = j
  · subst e; rw [List.getElem?_set_self (List.getElem?_eq_some_iff.1 h).1, h]
  · rw [List.getElem?_set_ne e]
theorem flat_set0 (l : List Cel) (k : Nat) (d : Cel) (hd : l[k]? = some d) (x : ByteArray) : (flat l).set (k * 5) (.string x) = flat (l.set k ⟨x, d.b, d.t, d.v, d.g⟩) := by
  rw [← flat_set l k ⟨x, d.b, d.t, d.v, d.g⟩ (List.getElem?_eq_some_iff.1 hd).1]
  have h1 : ((flat l).set (k * 5) (.string x))[k * 5 + 1]? = some (.string d.b) := by rw [List.getElem?_set_ne (by omega)]; exact flat_get l k 1 d hd (by decide)
  have h2 : ((flat l).set (k * 5) (.string x))[k * 5 + 2]? = some (.int .i64 d.t) := by rw [List.getElem?_set_ne (by omega)]; exact flat_get l k 2 d hd (by decide)
  have h3 : ((flat l).set (k * 5) (.string x))[k * 5 + 3]? = some (.int .i64 d.v) := by rw [List.getElem?_set_ne (by omega)]; exact flat_get l k 3 d hd (by decide)
  have h4 : ((flat l).set (k * 5) (.string x))[k * 5 + 4]? = some (.bool d.g) := by rw [List.getElem?_set_ne (by omega)]; exact flat_get l k 4 d hd (by decide)
  rw [set_same h1, set_same h2, set_same h3, set_same h4]
theorem grown_of {w w' : World} {row : Option Nat} (h : Below w.heap.size w w') : w.grownBy w' row := ⟨h.os, h.tape, h.output, h.size, fun k hk _ => h.block k hk⟩
theorem grown_set {w : World} {g o : Nat} {v : Value} : w.grownBy (w.setCell ⟨g, o, none⟩ v) (some g) := ⟨rfl, rfl, rfl, by simp [World.setCell], fun k _ hk => Below.heap_setCell _ _ _ _ (fun e => hk (by rw [e]))⟩
/-- The mark of the k-th cell. -/
def mkC (s k : Nat) : Cel := ⟨tx (mtx (s + 5 * k)), tx (mtx (s + 5 * k + 1)), ((s + 5 * k : Nat) : Int) + 1 + 1, ((s + 5 * k : Nat) : Int) + 1 + 1 + 1, (((s + 5 * k : Nat) : Int) + 1 + 1 + 1 + 1) % 3 == 0⟩
def MkdC (s : Nat) (m : List Cel) : Prop := ∀ j, j < m.length → m[j]? = some (mkC s j)
theorem five_frozen {w : World} {g : Nat} (h : ∀ j, w.frozen? ⟨g, j, none⟩ = false) (k : Nat) : w.frozen? ⟨g, k * 5, none⟩ = false ∧ w.frozen? ⟨g, k * 5 + 1, none⟩ = false ∧ w.frozen? ⟨g, k * 5 + 2, none⟩ = false ∧ w.frozen? ⟨g, k * 5 + 3, none⟩ = false ∧ w.frozen? ⟨g, k * 5 + 4, none⟩ = false := ⟨h _, h _, h _, h _, h _⟩
end Go.Proofs.YtoiphglfngkoiaaDoor.Cl
namespace Go.Proofs.YtoiphglfngkoiaaDoor.Cl
open Go.RowKit Wd Rp Kp
set_option linter.unusedVariables false
end Go.Proofs.YtoiphglfngkoiaaDoor.Cl
namespace Go.Proofs.YtoiphglfngkoiaaDoor.Cl
open Go.RowKit Wd Rp Kp
set_option linter.unusedVariables false
end Go.Proofs.YtoiphglfngkoiaaDoor.Cl
