/-
  ReadOp as the program does it, plain: 'icP' (the instruction that a text's head and rest give) and its tie to 'rdO'.
-/
import Derived.Test.YtoiphglfngkoiaaDoorKg
namespace Go.Proofs.YtoiphglfngkoiaaDoor.Cl
open Go.RowKit Wd Rp Kp
set_option linter.unusedVariables false
/-- Which operand a kind has: none, a number, a name. -/
def odK (k : Int) : Int := if isNm k then 2 else if isNu k && decide (1 ≤ k) then 1 else 0
/-- What the program's ReadOp tries. -/
def icO (h r : Tk) : Ov := ⟨atI wdO h + 1, if odK (atI wdO h + 1) = 1 then rdV r else 0, if odK (atI wdO h + 1) = 2 then r else []⟩
def icP (s : Tk) : Ov := icO (Lib.cut s [32]).1 (Lib.cut s [32]).2.1
theorem ic_num {w : Tk} {k n : Int} (hw : (32 : UInt8) ∉ w) (hk : atI wdO w + 1 = k) (hu : odK k = 1) (hn : isW n = true) : icP (w ++ 32 :: Lib.itoa n) = ⟨k, n, []⟩ := by
  obtain ⟨h1, h2⟩ := itoa_bl hn
  unfold icP icO
  rw [cut_app hw]
  simp [hk, hu, h2]
theorem ic_nam {w m : Tk} {k : Int} (hw : (32 : UInt8) ∉ w) (hk : atI wdO w + 1 = k) (hu : odK k = 2) : icP (w ++ 32 :: m) = ⟨k, 0, m⟩ := by
  unfold icP icO
  rw [cut_app hw]
  simp [hk, hu]
theorem ic_non {w : Tk} {k : Int} (hw : (32 : UInt8) ∉ w) (hk : atI wdO w + 1 = k) (hu : odK k = 0) : icP w = ⟨k, 0, []⟩ := by
  unfold icP icO
  rw [cut_none hw]
  simp [hk, hu]
theorem icP_sh {o : Ov} (h : opB o = true) : icP (shO o) = o := by
  rw [shO_yes h]
  obtain ⟨k, n, m⟩ := o
  unfold opB at h
  dsimp only at h ⊢
  split at h
  · rename_i e; subst e
    rw [Bool.and_eq_true] at h
    rw [mt_of h.2]
    exact ic_num (w := [112, 117, 115, 104]) (by decide) (by decide) (by decide) h.1
  · split at h
    · rename_i e; subst e
      rw [Bool.and_eq_true, inB_11] at h
      rw [mt_of h.2]
      exact ic_num (w := [103, 105, 118, 101, 110]) (by decide) (by decide) (by decide) ((isW_iff n).2 (by omega))
    · split at h
      · rename_i e
        rw [Bool.and_eq_true, decide_eq_true_eq] at h
        obtain ⟨h1, rfl⟩ := h
        unfold isNm at e
        rw [Bool.or_eq_true, Bool.or_eq_true, decide_eq_true_eq, decide_eq_true_eq, decide_eq_true_eq] at e
        rcases e with rfl | rfl | rfl
        · exact ic_nam (w := [108, 111, 97, 100]) (by decide) (by decide) (by decide)
        · exact ic_nam (w := [115, 101, 116]) (by decide) (by decide) (by decide)
        · exact ic_nam (w := [99, 117, 116]) (by decide) (by decide) (by decide)
      · split at h
        · rename_i e; subst e
          rw [Bool.and_eq_true, inB_11] at h
          rw [mt_of h.2]
          exact ic_num (w := [100, 111]) (by decide) (by decide) (by decide) ((isW_iff n).2 (by omega))
        · split at h
          · rename_i e
            rw [Bool.and_eq_true, inB_11] at h
            rw [mt_of h.2]
            rcases e with rfl | rfl
            · exact ic_num (w := [103, 111]) (by decide) (by decide) (by decide) ((isW_iff n).2 (by omega))
            · exact ic_num (w := [117, 110, 108, 101, 115, 115]) (by decide) (by decide) (by decide) ((isW_iff n).2 (by omega))
          · rw [Bool.and_eq_true, Bool.and_eq_true, inB_11, decide_eq_true_eq] at h
            obtain ⟨h1, rfl, h2⟩ := h
            rw [mt_of h2]
            have : k = 9 ∨ k = 10 ∨ k = 11 := by omega
            rcases this with rfl | rfl | rfl
            · exact ic_non (w := [116, 105, 99, 107]) (by decide) (by decide) (by decide)
            · exact ic_non (w := [115, 116, 111, 112]) (by decide) (by decide) (by decide)
            · exact ic_non (w := [101, 110, 100]) (by decide) (by decide) (by decide)
/-- What the program's ReadOp gives is what the specification's gives. -/
theorem ic_yes {s : Tk} {o : Ov} (h0 : icP s = o) (h1 : opB o = true) (h2 : shO o = s) : rdO s = some o := by
  rw [← h2]; exact rdO_yes h1
theorem ic_no {s : Tk} {o : Ov} (h0 : icP s = o) (h1 : opB o = false ∨ shO o ≠ s) : rdO s = none := by
  cases e : rdO s with
  | none => rfl
  | some x =>
    have h3 := rdO_sh e
    have h4 := rdO_ok e
    have h5 := icP_sh h4
    rw [h3, h0] at h5
    subst h5
    rcases h1 with h1 | h1
    · rw [h4] at h1; cases h1
    · exact absurd h3 h1
/-- .. and what it tries, as the specification does it. -/
theorem rdP_yes {s : Tk} {o : Ov} (h0 : rdP s = o) (h1 : o.k ≠ 0) (h2 : shO o = s) : rdO s = some o := by
  subst h0; unfold rdO; rw [if_pos ⟨h1, h2⟩]
theorem rdP_no {s : Tk} {o : Ov} (h0 : rdP s = o) (h1 : o.k = 0 ∨ shO o ≠ s) : rdO s = none := by
  subst h0; unfold rdO; rw [if_neg]
  rintro ⟨h2, h3⟩
  rcases h1 with h1 | h1
  · exact h2 h1
  · exact h1 h3
theorem wd_len (k : Nat) : (wdO.getD k []).length ≤ 6 := by
  match k with
  | 0 | 1 | 2 | 3 | 4 | 5 | 6 | 7 | 8 | 9 | 10 => decide
  | n + 11 => rw [List.getD_eq_getElem?_getD, List.getElem?_eq_none (show wdO.length ≤ n + 11 by show 11 ≤ n + 11; omega)]; exact Nat.zero_le _
end Go.Proofs.YtoiphglfngkoiaaDoor.Cl
