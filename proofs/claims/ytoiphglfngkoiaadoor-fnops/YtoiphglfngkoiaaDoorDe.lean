/-
  impl.Did and spec.Did, joined from their cases: both give 'didV' and 'didB' for every three int64, and the world is untouched.
-/
import Derived.Test.YtoiphglfngkoiaaDoorDd
namespace Go.Proofs.YtoiphglfngkoiaaDoor.Wd
open Go.RowKit
def BothW (a b : Int) : Prop := isW a = true ∧ isW b = true ∧ -2147483648 ≤ a ∧ a ≤ 2147483647 ∧ -2147483648 ≤ b ∧ b ≤ 2147483647
theorem bothW_of {a b : Int} (ha : isW a = true) (hb : isW b = true) : BothW a b :=
  ⟨ha, hb, ((isW_iff a).1 ha).1, ((isW_iff a).1 ha).2, ((isW_iff b).1 hb).1, ((isW_iff b).1 hb).2⟩
theorem did_all (C : Int → Int → Int → Int → Bool → Prop)
    (na : ∀ op a b, isW a = false → C op a b 0 false) (nb : ∀ op a b, isW a = true → isW b = false → C op a b 0 false)
    (zero : ∀ a, isW a = true → C 4 a 0 0 false)
    (c1 : ∀ a b, BothW a b → C 1 a b (wr (a + b)) true) (c2 : ∀ a b, BothW a b → C 2 a b (wr (a - b)) true) (c3 : ∀ a b, BothW a b → C 3 a b (wr (a * b)) true)
    (c4 : ∀ a b, BothW a b → ¬ b = 0 → C 4 a b (wr (a.tdiv b)) true)
    (c5t : ∀ a b, BothW a b → a < b → C 5 a b 1 true) (c5f : ∀ a b, BothW a b → ¬ a < b → C 5 a b 0 true)
    (c6t : ∀ a b, BothW a b → a = b → C 6 a b 1 true) (c6f : ∀ a b, BothW a b → ¬ a = b → C 6 a b 0 true)
    (c7t : ∀ a b, BothW a b → ¬ a = 0 → ¬ b = 0 → C 7 a b 1 true) (c7a : ∀ a b, BothW a b → a = 0 → C 7 a b 0 true) (c7b : ∀ a b, BothW a b → ¬ a = 0 → b = 0 → C 7 a b 0 true)
    (x : ∀ op a b, BothW a b → ¬ op = 1 → ¬ op = 2 → ¬ op = 3 → ¬ op = 4 → ¬ op = 5 → ¬ op = 6 → ¬ op = 7 → C op a b 0 false)
    (op a b : Int) : C op a b (didV op a b) (didB op a b) := by
  cases ha : isW a
  · have e1 : didV op a b = 0 := by simp [didV, ha]
    have e2 : didB op a b = false := by simp [didB, ha]
    rw [e1, e2]; exact na op a b ha
  cases hb : isW b
  · have e1 : didV op a b = 0 := by simp [didV, hb]
    have e2 : didB op a b = false := by simp [didB, hb]
    rw [e1, e2]; exact nb op a b ha hb
  have B := bothW_of ha hb
  by_cases h1 : op = 1
  · subst h1
    rw [show didV 1 a b = wr (a + b) by simp [didV, ha, hb], show didB 1 a b = true by simp [didB, ha, hb]]; exact c1 a b B
  by_cases h2 : op = 2
  · subst h2
    rw [show didV 2 a b = wr (a - b) by simp [didV, ha, hb], show didB 2 a b = true by simp [didB, ha, hb]]; exact c2 a b B
  by_cases h3 : op = 3
  · subst h3
    rw [show didV 3 a b = wr (a * b) by simp [didV, ha, hb], show didB 3 a b = true by simp [didB, ha, hb]]; exact c3 a b B
  by_cases h4 : op = 4
  · subst h4
    by_cases h0 : b = 0
    · subst h0
      rw [show didV 4 a 0 = 0 by simp [didV], show didB 4 a 0 = false by simp [didB]]; exact zero a ha
    · rw [show didV 4 a b = wr (a.tdiv b) by simp [didV, ha, hb, h0], show didB 4 a b = true by simp [didB, ha, hb, h0]]; exact c4 a b B h0
  by_cases h5 : op = 5
  · subst h5
    by_cases h0 : a < b
    · rw [show didV 5 a b = 1 by simp [didV, ha, hb, h0], show didB 5 a b = true by simp [didB, ha, hb]]; exact c5t a b B h0
    · rw [show didV 5 a b = 0 by simp [didV, h0], show didB 5 a b = true by simp [didB, ha, hb]]; exact c5f a b B h0
  by_cases h6 : op = 6
  · subst h6
    by_cases h0 : a = b
    · rw [show didV 6 a b = 1 by simp [didV, hb, h0], show didB 6 a b = true by simp [didB, ha, hb]]; exact c6t a b B h0
    · rw [show didV 6 a b = 0 by simp [didV, h0], show didB 6 a b = true by simp [didB, ha, hb]]; exact c6f a b B h0
  by_cases h7 : op = 7
  · subst h7
    by_cases h0 : a = 0
    · rw [show didV 7 a b = 0 by simp [didV, h0], show didB 7 a b = true by simp [didB, ha, hb]]; exact c7a a b B h0
    by_cases h0' : b = 0
    · rw [show didV 7 a b = 0 by simp [didV, h0'], show didB 7 a b = true by simp [didB, ha, hb]]; exact c7b a b B h0 h0'
    · rw [show didV 7 a b = 1 by simp [didV, ha, hb, h0, h0'], show didB 7 a b = true by simp [didB, ha, hb]]; exact c7t a b B h0 h0'
  · rw [show didV op a b = 0 by simp [didV, h1, h2, h3, h4, h5, h6, h7], show didB op a b = false by simp [didB]; omega]
    exact x op a b B h1 h2 h3 h4 h5 h6 h7

end Go.Proofs.YtoiphglfngkoiaaDoor.Wd
