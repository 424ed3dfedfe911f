/-
  Plain facts on 'didV', 'didB' (chapter 1) that the law FnWords asks.
-/
import Derived.Test.YtjnmoaigggobkaaDe
namespace Go.Proofs.Ytjnmoaigggobkaa.Wd
theorem wr_isW (n : Int) : isW (wr n) = true := (isW_iff _).2 ⟨wr_lo n, wr_hi n⟩
theorem wr_id (n : Int) (h : isW n = true) : wr n = n := by have := (isW_iff n).1 h; unfold wr; omega
theorem wr_wr (n : Int) : wr (wr n) = wr n := wr_id _ (wr_isW n)
theorem wr_mod (n : Int) : (wr n - n).tmod 4294967296 = 0 := by
  have : (4294967296 : Int) ∣ (wr n - n) := by unfold wr; omega
  exact Int.tmod_eq_zero_of_dvd this
theorem did_false {o x y : Int} (h : didB o x y = false) : didV o x y = 0 ∧ (o < 1 ∨ 7 < o ∨ isW x = false ∨ isW y = false ∨ (o = 4 ∧ y = 0)) := by
  unfold didB at h
  unfold didV
  cases hx : isW x
  · simp
  cases hy : isW y
  · simp
  simp [hx, hy] at h ⊢
  by_cases h4 : o = 4
  · subst h4
    have := (h (by decide) (by decide)).2
    simp [this]
  · by_cases a1 : o < 1
    · refine ⟨?_, Or.inl a1⟩
      rw [if_neg (by omega), if_neg (by omega), if_neg (by omega), if_neg (by omega), if_neg (by omega), if_neg (by omega), if_neg (by omega)]
    · by_cases a2 : 7 < o
      · refine ⟨?_, Or.inr (Or.inl a2)⟩
        rw [if_neg (by omega), if_neg (by omega), if_neg (by omega), if_neg (by omega), if_neg (by omega), if_neg (by omega), if_neg (by omega)]
      · exact absurd (h (by omega) (by omega)).1 h4
theorem did_true {o x y : Int} (h : didB o x y = true) : 1 ≤ o ∧ o ≤ 7 ∧ isW x = true ∧ isW y = true ∧ (o = 4 → ¬ y = 0) := by
  unfold didB at h
  simp at h
  obtain ⟨⟨⟨h1, h2⟩, h3, h4⟩, h5⟩ := h
  exact ⟨h3, h4, h1, h2, fun e => by omega⟩
theorem did_add {x y : Int} (hx : isW x = true) (hy : isW y = true) : didV 2 (didV 1 x y) y = x := by
  have e1 : didV 1 x y = wr (x + y) := by simp [didV, hx, hy]
  have e2 : didV 2 (wr (x + y)) y = wr (wr (x + y) - y) := by simp [didV, hy, wr_isW]
  rw [e1, e2]
  have := (isW_iff x).1 hx
  unfold wr; omega
theorem did_times {x y : Int} (hx : isW x = true) (hy : isW y = true) : didV 3 y x = didV 3 x y := by simp [didV, hx, hy, Int.mul_comm]
theorem did_by {x y : Int} (hx : isW x = true) (hy : isW y = true) (h0 : ¬ y = 0) :
    (x = -2147483648 ∧ y = -1) ∨ (didV 2 x (didV 3 (didV 4 x y) y) < y ∧ -y < didV 2 x (didV 3 (didV 4 x y) y)) ∨ (didV 2 x (didV 3 (didV 4 x y) y) < -y ∧ y < didV 2 x (didV 3 (didV 4 x y) y)) := by
  by_cases hc : x = -2147483648 ∧ y = -1
  · exact Or.inl hc
  right
  have bx := (isW_iff x).1 hx
  have bY := (isW_iff y).1 hy
  have e4 : didV 4 x y = wr (x.tdiv y) := by simp [didV, hx, hy, h0]
  have hq : isW (x.tdiv y) = true := by
    rw [isW_iff]
    have h1 : (x.tdiv y).natAbs = x.natAbs / y.natAbs := Int.natAbs_tdiv ..
    by_cases hy1 : y.natAbs = 1
    · by_cases hm : x = -2147483648
      · have : y = 1 := by omega
        subst this; rw [Int.tdiv_one]; omega
      · rw [hy1, Nat.div_one] at h1; omega
    · have h2 : x.natAbs / y.natAbs ≤ x.natAbs / 2 := Nat.div_le_div_left (by omega) (by decide)
      omega
  rw [wr_id _ hq] at e4
  have e3 : didV 3 (x.tdiv y) y = wr (x.tdiv y * y) := by simp [didV, hq, hy]
  have hmul : x.tdiv y * y = x - x.tmod y := by have := Int.mul_tdiv_add_tmod x y; rw [Int.mul_comm] at this; omega
  have hr1 : (x.tmod y).natAbs < y.natAbs := by rw [Int.natAbs_tmod]; exact Nat.mod_lt _ (by omega)
  have hr2 : (x.tmod y).natAbs ≤ x.natAbs := by rw [Int.natAbs_tmod]; exact Nat.mod_le _ _
  have hs : 0 ≤ x → 0 ≤ x.tmod y := fun h => Int.tmod_nonneg _ h
  have hs' : x ≤ 0 → x.tmod y ≤ 0 := fun h => by
    have := Int.tmod_nonneg y (show 0 ≤ -x by omega)
    rw [Int.neg_tmod] at this; omega
  have hp : isW (x - x.tmod y) = true := by
    rw [isW_iff]
    by_cases h : 0 ≤ x
    · have := hs h; omega
    · have := hs' (by omega); omega
  rw [e4, e3, hmul, wr_id _ hp]
  have e2 : didV 2 x (x - x.tmod y) = wr (x - (x - x.tmod y)) := by simp [didV, hx, hp]
  have e5 : x - (x - x.tmod y) = x.tmod y := by omega
  have hw : isW (x.tmod y) = true := by rw [isW_iff]; omega
  rw [e2, e5, wr_id _ hw]
  omega
theorem did_word (o x y : Int) : isW (didV o x y) = true := by
  unfold didV
  repeat' (first | exact wr_isW _ | decide | split)
theorem did_bit {o x y : Int} (h : 5 ≤ o) : didV o x y = 0 ∨ didV o x y = 1 := by
  unfold didV
  rw [if_neg (show ¬ o = 1 by omega), if_neg (show ¬ o = 2 by omega), if_neg (show ¬ o = 3 by omega), if_neg (show ¬ o = 4 by omega)]
  repeat' (first | exact Or.inl rfl | exact Or.inr rfl | split)
end Go.Proofs.Ytjnmoaigggobkaa.Wd
