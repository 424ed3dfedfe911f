/-
  laws.markCellS marks each place of a slice of cells of a call's own, and turns nothing else.
  laws.heldCellS finds the marks that are there. (Made by gen_cp.py.)
  Slices of cells of a call's own at the laws' helpers; what carries them over a write elsewhere.
-/
import Derived.Test.YtcloejmakjdgcaaGreatCe
import Derived.Test.YtcloejmakjdgcaaGreatDg
import Derived.Test.YtcloejmakjdgcaaGreatCc
namespace Go.Proofs.YtcloejmakjdgcaaGreat.Cl
open Go.RowKit Wd Rp Kp
set_option linter.unusedVariables false
theorem set_same {l : List Value} {i : Nat} {v : Value} (h : l[i]? = some v) : l.set i v = l := by
  apply List.ext_getElem?
  intro j
  by_cases e : i = j
  · subst e; rw [List.getElem?_set_self (List.getElem?_eq_some_iff.1 h).1, h]
  · rw [List.getElem?_set_ne e]
theorem flat_set0 (l : List Cel) (k : Nat) (d : Cel) (hd : l[k]? = some d) (x : ByteArray) : (flat l).set (k * 5) (.string x) = flat (l.set k ⟨x, d.b, d.t, d.v, d.g⟩) := by
  rw [← flat_set l k ⟨x, d.b, d.t, d.v, d.g⟩ (List.getElem?_eq_some_iff.1 hd).1]
  have h1 : ((flat l).set (k * 5) (.string x))[k * 5 + 1]? = some (.string d.b) := by rw [List.getElem?_set_ne (by omega)]; exact flat_get l k 1 d hd (by decide)
  have h2 : ((flat l).set (k * 5) (.string x))[k * 5 + 2]? = some (.int .i64 d.t) := by rw [List.getElem?_set_ne (by omega)]; exact flat_get l k 2 d hd (by decide)
  have h3 : ((flat l).set (k * 5) (.string x))[k * 5 + 3]? = some (.int .i64 d.v) := by rw [List.getElem?_set_ne (by omega)]; exact flat_get l k 3 d hd (by decide)
  have h4 : ((flat l).set (k * 5) (.string x))[k * 5 + 4]? = some (.bool d.g) := by rw [List.getElem?_set_ne (by omega)]; exact flat_get l k 4 d hd (by decide)
  rw [set_same h1, set_same h2, set_same h3, set_same h4]
theorem OwC.set0 {B : Nat} {w : World} {g n cap : Nat} {l : List Cel} (h : OwC B w (.slice (some ⟨g, 0, none⟩) n cap) l) (hn : n = l.length) (k : Nat) (d : Cel) (hd : l[k]? = some d) (x : ByteArray) :
    OwC B (w.setCell ⟨g, k * 5, none⟩ (.string x)) (.slice (some ⟨g, 0, none⟩) n cap) (l.set k ⟨x, d.b, d.t, d.v, d.g⟩) := by
  subst hn
  unfold OwC
  rw [List.length_set, ← flat_set0 l k d hd]
  exact (World.ownsRow.stored h (k * 5) (.string x)).1
theorem OwC.set4 {B : Nat} {w : World} {g n cap : Nat} {l : List Cel} (h : OwC B w (.slice (some ⟨g, 0, none⟩) n cap) l) (hn : n = l.length) (k : Nat) (c : Cel) (d : Cel) (hd : l[k]? = some d) (hc : c.r = d.r) :
    OwC B ((((w.setCell ⟨g, k * 5 + 1, none⟩ (.string c.b)).setCell ⟨g, k * 5 + 2, none⟩ (.int .i64 c.t)).setCell ⟨g, k * 5 + 3, none⟩ (.int .i64 c.v)).setCell ⟨g, k * 5 + 4, none⟩ (.bool c.g)) (.slice (some ⟨g, 0, none⟩) n cap) (l.set k c) := by
  subst hn
  have h1 := (World.ownsRow.stored h (k * 5 + 1) (.string c.b)).1
  have h2 := (World.ownsRow.stored h1 (k * 5 + 2) (.int .i64 c.t)).1
  have h3 := (World.ownsRow.stored h2 (k * 5 + 3) (.int .i64 c.v)).1
  have h4 := (World.ownsRow.stored h3 (k * 5 + 4) (.bool c.g)).1
  unfold OwC
  have e0 : (flat l).set (k * 5) (.string c.r) = flat l := set_same (by rw [hc]; exact flat_get l k 0 d hd (by decide))
  rw [List.length_set, ← flat_set l k c (List.getElem?_eq_some_iff.1 hd).1, e0]; exact h4
theorem grown_of {w w' : World} {row : Option Nat} (h : Below w.heap.size w w') : w.grownBy w' row := ⟨h.os, h.tape, h.output, h.size, fun k hk _ => h.block k hk⟩
theorem grown_set {w : World} {g o : Nat} {v : Value} : w.grownBy (w.setCell ⟨g, o, none⟩ v) (some g) := ⟨rfl, rfl, rfl, by simp [World.setCell], fun k _ hk => Below.heap_setCell _ _ _ _ (fun e => hk (by rw [e]))⟩
/-- The mark of the k-th cell. -/
def mkC (s k : Nat) : Cel := ⟨tx (mtx (s + 5 * k)), tx (mtx (s + 5 * k + 1)), ((s + 5 * k : Nat) : Int) + 1 + 1, ((s + 5 * k : Nat) : Int) + 1 + 1 + 1, (((s + 5 * k : Nat) : Int) + 1 + 1 + 1 + 1) % 3 == 0⟩
def MkdC (s : Nat) (m : List Cel) : Prop := ∀ j, j < m.length → m[j]? = some (mkC s j)
theorem five_frozen {w : World} {g : Nat} (h : ∀ j, w.frozen? ⟨g, j, none⟩ = false) (k : Nat) : w.frozen? ⟨g, k * 5, none⟩ = false ∧ w.frozen? ⟨g, k * 5 + 1, none⟩ = false ∧ w.frozen? ⟨g, k * 5 + 2, none⟩ = false ∧ w.frozen? ⟨g, k * 5 + 3, none⟩ = false ∧ w.frozen? ⟨g, k * 5 + 4, none⟩ = false := ⟨h _, h _, h _, h _, h _⟩
theorem OwC.at {B : Nat} {w : World} {g n cap : Nat} {l : List Cel} (h : OwC B w (.slice (some ⟨g, 0, none⟩) n cap) l) {k : Nat} {d : Cel} (hd : l[k]? = some d) :
    At5 w g (k * 5) d ∧ (w.frozen? ⟨g, k * 5, none⟩ = false ∧ w.frozen? ⟨g, k * 5 + 1, none⟩ = false ∧ w.frozen? ⟨g, k * 5 + 2, none⟩ = false ∧ w.frozen? ⟨g, k * 5 + 3, none⟩ = false ∧ w.frozen? ⟨g, k * 5 + 4, none⟩ = false) ∧ B ≤ g ∧ g < w.heap.size := by
  obtain ⟨a, cap', e, hv, hf⟩ := h.view
  obtain ⟨g2, e2, hB, hfr⟩ := hf k (List.getElem?_eq_some_iff.1 hd).1
  obtain ⟨g3, o3, e3, hlt, h5⟩ := hv.2.2.2 k d hd
  cases e
  cases e2
  cases e3
  rw [Nat.zero_add] at h5
  exact ⟨h5, five_frozen hfr k, hB, hlt⟩
end Go.Proofs.YtcloejmakjdgcaaGreat.Cl
namespace Go.Proofs.YtcloejmakjdgcaaGreat.Cl
open Go.RowKit Wd Rp Kp
set_option linter.unusedVariables false
end Go.Proofs.YtcloejmakjdgcaaGreat.Cl
namespace Go.Proofs.YtcloejmakjdgcaaGreat.Cl
open Go.RowKit Wd Rp Kp
set_option linter.unusedVariables false
theorem OwC.vw {B : Nat} {w : World} {a : Option Addr} {n cap : Nat} {l : List Cel} (h : OwC B w (.slice a n cap) l) : Vw w a cap l := by
  obtain ⟨a', cap', e, hv, -⟩ := h.view
  cases e
  exact hv
theorem OwC.grown {B : Nat} {w w' : World} {v : Value} {l : List Cel} {row : Option Nat} (h : OwC B w v l) (hg : w.grownBy w' row) (hne : ∀ k, v.ownBlock = some k → row ≠ some k) : OwC B w' v l :=
  row_next h fun g hb hlt => hg.block g hlt (fun e => hne g hb e.symm)
theorem OwC.low {B : Nat} {w : World} {v : Value} {l : List Cel} (h : OwC B w v l) : ∀ k, v.ownBlock = some k → k < w.heap.size := fun k hk => (World.ownsRow.lt h k hk).2
end Go.Proofs.YtcloejmakjdgcaaGreat.Cl
