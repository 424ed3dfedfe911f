/-
  Where an expression ends: contracts of spec.l8End, SumEnd, and of impl.operatorOf, signOf, SumEnd.
-/
import Derived.Test.YtoiphglfngkoiaaDoorYc
namespace Go.Proofs.YtoiphglfngkoiaaDoor.Cl
open Go.RowKit Wd Rp Kp
set_option linter.unusedVariables false
theorem en_step_op {l : List Tk} {k m : Nat} {c : Tk} (hc : l[k]? = some c) (h : isO c = true) : en (l.drop k) (m + 1) = (en (l.drop (k + 1)) (m + 2)).map (· + 1) := by
  rw [List.drop_eq_getElem_cons (List.getElem?_eq_some_iff.1 hc).1, (List.getElem?_eq_some_iff.1 hc).2, en_op h]
theorem en_step_leaf {l : List Tk} {k m : Nat} {c : Tk} (hc : l[k]? = some c) (h : isL c = true) : en (l.drop k) (m + 1) = (en (l.drop (k + 1)) m).map (· + 1) := by
  rw [List.drop_eq_getElem_cons (List.getElem?_eq_some_iff.1 hc).1, (List.getElem?_eq_some_iff.1 hc).2, en_leaf h]
theorem en_step_bad {l : List Tk} {k m : Nat} {c : Tk} (hc : l[k]? = some c) (h : isO c = false) (h2 : isL c = false) : en (l.drop k) (m + 1) = none := by
  rw [List.drop_eq_getElem_cons (List.getElem?_eq_some_iff.1 hc).1, (List.getElem?_eq_some_iff.1 hc).2, en_bad h h2]
/-- So far: from k on, m expressions are open at j. -/
def Opn (l : List Tk) (k j m : Nat) : Prop := k ≤ j ∧ m ≤ j - k + 1 ∧ en (l.drop k) 1 = (en (l.drop j) m).map (· + (j - k))
theorem Opn.start (l : List Tk) (k : Nat) : Opn l k k 1 := ⟨Nat.le_refl _, by omega, by simp⟩
theorem Opn.op {l : List Tk} {k j m : Nat} {c : Tk} (h : Opn l k j (m + 1)) (hc : l[j]? = some c) (ho : isO c = true) : Opn l k (j + 1) (m + 2) := by
  obtain ⟨h1, h2, h3⟩ := h
  refine ⟨by omega, by omega, ?_⟩
  rw [h3, en_step_op hc ho, Option.map_map]
  congr 1; funext x; show x + 1 + (j - k) = x + (j + 1 - k); omega
theorem Opn.leaf {l : List Tk} {k j m : Nat} {c : Tk} (h : Opn l k j (m + 1)) (hc : l[j]? = some c) (ho : isL c = true) : Opn l k (j + 1) m := by
  obtain ⟨h1, h2, h3⟩ := h
  refine ⟨by omega, by omega, ?_⟩
  rw [h3, en_step_leaf hc ho, Option.map_map]
  congr 1; funext x; show x + 1 + (j - k) = x + (j + 1 - k); omega
theorem Opn.bad {l : List Tk} {k j m : Nat} {c : Tk} (h : Opn l k j (m + 1)) (hc : l[j]? = some c) (h1 : isO c = false) (h2 : isL c = false) : edV l (k : Int) = -1 := by
  unfold edV; rw [enA_nat, h.2.2, en_step_bad hc h1 h2]; rfl
theorem Opn.out {l : List Tk} {k j m : Nat} (h : Opn l k j (m + 1)) (hj : l.length ≤ j) : edV l (k : Int) = -1 := by
  unfold edV; rw [enA_nat, h.2.2, List.drop_eq_nil_of_le hj, en_nil]; rfl
theorem Opn.done {l : List Tk} {k j : Nat} (h : Opn l k j 0) : edV l (k : Int) = (j : Int) := by
  unfold edV; rw [enA_nat, h.2.2, en_zero]
  have := h.1
  show (k : Int) + ((0 + (j - k) : Nat) : Int) = j
  omega
theorem isL_of {c : Tk} (ho : isO c = false) (h : rdB c = true ∨ gvN c ≠ 0 ∨ nmB c = true) : isL c = true := by
  unfold isO at ho; unfold isL
  have e : opN c = 0 := by simpa using ho
  rcases h with h | h | h <;> simp [e, h]
theorem isL_not {c : Tk} (h1 : rdB c = false) (h2 : gvN c = 0) (h3 : nmB c = false) : isL c = false := by unfold isL; simp [h1, h2, h3]
theorem edV_neg {l : List Tk} {i : Int} (h : i < 0) : edV l i = -1 := by unfold edV; rw [enA_neg h]
theorem isO_ne {s : Tk} (h : isO s = true) : opN s ≠ 0 := by unfold isO at h; simpa using h
theorem isL_0 {s : Tk} (h : isL s = true) : opN s = 0 := by
  have := isL_O h
  unfold isO at this; simpa using this
theorem rd_word {s : Tk} (h : rdB s = true) : isW (rdV s) = true := by
  unfold rdB at h; unfold rdV
  cases e : rd s with
  | none => rw [e] at h; cases h
  | some v => exact ((rd_iff s v).1 e).1
theorem wrap32_w {n : Int} (h : isW n = true) : wrap32 n = n := by
  obtain ⟨h1, h2⟩ := (isW_iff n).1 h
  unfold wrap32; omega
theorem tx_neL {a b : Tk} (h : ¬ a = b) : ((tx a).toList == b) = false := by rw [Lib.toList_data, tx_data, beq_eq_false_iff_ne]; exact h
theorem lib3_below {w w' : World} (h : Lib3 w) (hb : Below w.heap.size w w') : Lib3 w' := h.carry hb ⟨h.2.2.2.1, h.2.2.2.2.1, h.2.2.2.2.2⟩
end Go.Proofs.YtoiphglfngkoiaaDoor.Cl
