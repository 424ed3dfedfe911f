/-
  Plain facts for FnSumOf: a value is a word, a truth value is 0 or 1, the value of an operator is that of Did on those of its operands.
-/
import Derived.Test.YtfnnoehpahdgcaaGreatDoorYg
namespace Go.Proofs.YtfnnoehpahdgcaaGreatDoor.Cl
open Go.RowKit Wd Rp Kp
set_option linter.unusedVariables false
theorem isW_c {x : Int} (h : x = 0 ∨ x = 1) : isW x = true := by rcases h with rfl | rfl <;> decide
theorem wr_w (n : Int) : isW (wr n) = true := (isW_iff _).2 ⟨wr_lo n, wr_hi n⟩
theorem did_w (o a b : Int) : isW (didV o a b) = true := by
  unfold didV
  repeat (first | exact wr_w _ | decide | split)
theorem did_01 {o a b : Int} (h : 5 ≤ o) : didV o a b = 0 ∨ didV o a b = 1 := by
  unfold didV
  by_cases hw : (isW a && isW b) = true
  · rw [if_pos hw, if_neg (by omega), if_neg (by omega), if_neg (by omega), if_neg (by omega)]
    repeat (first | exact Or.inl rfl | exact Or.inr rfl | split)
  · rw [if_neg hw]; exact Or.inl rfl
theorem vlG_w (o : Nat) (a b : Int × Bool) : isW (vlG o a b).1 = true := by
  unfold vlG; split
  · exact did_w _ _ _
  · show isW 0 = true; decide
theorem vlG_01 {o : Nat} (h : 5 ≤ o) (a b : Int × Bool) : (vlG o a b).1 = 0 ∨ (vlG o a b).1 = 1 := by
  unfold vlG; split
  · exact did_01 (by omega)
  · exact Or.inl rfl
theorem valL_w {n : ByteArray} : ∀ {l : List Bi}, (∀ c ∈ l, isW c.v = true) → isW (valL n l).1 = true
  | [], _ => by show isW 0 = true; decide
  | c :: r, h => by
    unfold valL
    split
    · exact h c (by simp)
    · exact valL_w fun d hd => h d (by simp [hd])
theorem thB_mem {gs : List Int} (h : thB gs = true) : ∀ x ∈ gs, isW x = true := by
  unfold thB at h
  rw [Bool.and_eq_true] at h
  exact List.all_eq_true.1 h.1
theorem vlF_w {gs : List Int} {bs : List Bi} {s : Tk} (h1 : okI bs = true) (h2 : thB gs = true) (hs : isL s = true) : isW (vlF gs bs s).1 = true := by
  by_cases hg : gvN s = 0
  · cases hn : nmB s
    · have hr : rdB s = true := by
        cases e : rdB s with
        | true => rfl
        | false => rw [isL_nm hs hg e] at hn; cases hn
      rw [vlF_rd hg hr]; exact rd_word hr
    · rw [vlF_nm hg hn]
      exact valL_w fun c hc => by
        have := (okI_iff.1 h1).2.2 c hc
        unfold Bi.ok at this
        rw [Bool.and_eq_true] at this
        exact this.2
  · rw [vlF_gv hg]
    have h3 := gvN_le s
    have h4 := thB_len h2
    have hlt : gvN s - 1 < gs.length := by omega
    show isW (gs.getD (gvN s - 1) 0) = true
    rw [List.getD_eq_getElem?_getD, List.getElem?_eq_getElem hlt]
    exact thB_mem h2 _ (List.getElem_mem hlt)
theorem fo_w {gs : List Int} {bs : List Bi} (h1 : okI bs = true) (h2 : thB gs = true) : ∀ u : Su, u.ok → isW (u.fo (vlF gs bs) vlG).1 = true
  | .one s, hu => vlF_w h1 h2 hu
  | .two s a b, _ => vlG_w _ _ _
theorem fo_kd : ∀ u : Su, u.fo kdF kdG = 0 ∨ u.fo kdF kdG = 1 ∨ u.fo kdF kdG = 2
  | .one s => Or.inr (Or.inl rfl)
  | .two s a b => by
    show kdG _ _ _ = 0 ∨ kdG _ _ _ = 1 ∨ kdG _ _ _ = 2
    unfold kdG ylK; split
    · split
      · exact Or.inr (Or.inr rfl)
      · exact Or.inr (Or.inl rfl)
    · exact Or.inl rfl
theorem tkK_ne (o : Nat) : tkK o ≠ 0 := by unfold tkK; split <;> decide
theorem vlV_of {l : List Tk} {k : Nat} {u : Su} {r : List Tk} {bs : List Bi} {gs : List Int} (h1 : okI bs = true) (h2 : thB gs = true) (hu : u.ok) (e : l.drop k = u.fl ++ r) (hk : u.fo kdF kdG ≠ 0) : vlV l (k : Int) bs gs = u.fo (vlF gs bs) vlG := by
  have hk2 : kdV l (k : Int) ≠ 0 := by unfold kdV; rw [foV_of kdF kdG 0 hu e]; exact hk
  rw [vlV_3 hk2 h1 h2]
  exact foV_of _ _ _ hu e
theorem sum_word {l : List Tk} {i : Int} {bs : List Bi} {gs : List Int} (hk : kdV l i ≠ 0) (h1 : okI bs = true) (h2 : thB gs = true) : isW (vlV l i bs gs).1 = true := by
  obtain ⟨m, he⟩ := kdV_some hk
  obtain ⟨u, hu, h0, hm2, hd, hf⟩ := foV_tree (vlF gs bs) vlG (0, false) he
  rw [vlV_3 hk h1 h2, hf]
  exact fo_w h1 h2 u hu
theorem sum_truth {l : List Tk} {i : Int} {bs : List Bi} {gs : List Int} (hk : kdV l i = 2) (h1 : okI bs = true) (h2 : thB gs = true) : (vlV l i bs gs).1 = 0 ∨ (vlV l i bs gs).1 = 1 := by
  have hk0 : kdV l i ≠ 0 := by omega
  obtain ⟨m, he⟩ := kdV_some hk0
  obtain ⟨u, hu, h0, hm2, hd, hf⟩ := foV_tree (vlF gs bs) vlG (0, false) he
  rw [vlV_3 hk0 h1 h2, hf]
  obtain ⟨k, rfl⟩ : ∃ k : Nat, i = k := ⟨i.toNat, by omega⟩
  have hku : u.fo kdF kdG = 2 := by rw [← hk]; exact (foV_of kdF kdG 0 hu hd).symm
  cases u with
  | one s => exact absurd hku (by show ¬ (1 : Int) = 2; decide)
  | two s a b =>
    refine vlG_01 ?_ _ _
    have : kdG (opN s) (a.fo kdF kdG) (b.fo kdF kdG) = 2 := hku
    unfold kdG at this
    split at this
    · unfold ylK at this
      split at this
      · assumption
      · cases this
    · cases this
theorem sum_leaf {l : List Tk} {k : Nat} {c : Tk} {bs : List Bi} {gs : List Int} (hk : kdV l (k : Int) ≠ 0) (h1 : okI bs = true) (h2 : thB gs = true) (hc : l[k]? = some c) (ho : isO c = false) : (vlV l (k : Int) bs gs).2 = true := by
  obtain ⟨m, he⟩ := kdV_some hk
  obtain ⟨u, hu, h0, hm2, hd, hf⟩ := foV_tree (vlF gs bs) vlG (0, false) he
  rw [vlV_3 hk h1 h2, hf]
  cases u with
  | one s => rfl
  | two s a b =>
    exfalso
    rw [Su.fl, List.cons_append] at hd
    obtain ⟨h3, -, -⟩ := drop_head hd
    rw [Int.toNat_natCast] at h3
    rw [hc] at h3; cases h3
    rw [hu.1] at ho; cases ho
theorem sum_parts {l : List Tk} {k : Nat} {c : Tk} {bs : List Bi} {gs : List Int} (hk : kdV l (k : Int) ≠ 0) (h1 : okI bs = true) (h2 : thB gs = true) (hc : l[k]? = some c) (ho : isO c = true) :
    ∃ (p : Nat) (x y : Int × Bool), edV l ((k : Int) + 1) = (k : Int) + 1 + (p : Int) ∧ vlV l ((k : Int) + 1) bs gs = x ∧ vlV l ((k : Int) + 1 + (p : Int)) bs gs = y ∧ vlV l (k : Int) bs gs = vlG (opN c) x y ∧ k + 1 + p ≤ l.length := by
  obtain ⟨m, he⟩ := kdV_some hk
  obtain ⟨u, hu, h0, hm2, hd, hf⟩ := foV_tree (vlF gs bs) vlG (0, false) he
  rw [Int.toNat_natCast] at hd
  cases u with
  | one s =>
    exfalso
    rw [Su.fl, List.cons_append] at hd
    obtain ⟨h3, -, -⟩ := drop_head hd
    rw [hc] at h3; cases h3
    have : isO c = false := isL_O hu
    rw [this] at ho; cases ho
  | two s x y =>
    have hkd : kdV l (k : Int) = kdG (opN s) (x.fo kdF kdG) (y.fo kdF kdG) := foV_of kdF kdG 0 hu hd
    have hd' := hd
    rw [Su.fl, List.cons_append, List.append_assoc] at hd
    obtain ⟨h3, h4, h5⟩ := drop_head hd
    rw [hc] at h3; cases h3
    have h6 := drop_more h5
    have hxy : x.fo kdF kdG = tkK (opN c) ∧ y.fo kdF kdG = tkK (opN c) := by
      rw [hkd] at hk
      unfold kdG at hk
      split at hk
      · assumption
      · exact absurd rfl hk
    have hx : x.fo kdF kdG ≠ 0 := by rw [hxy.1]; exact tkK_ne _
    have hy : y.fo kdF kdG ≠ 0 := by rw [hxy.2]; exact tkK_ne _
    have ex : vlV l ((k + 1 : Nat) : Int) bs gs = x.fo (vlF gs bs) vlG := vlV_of h1 h2 hu.2.1 h5 hx
    have ey : vlV l ((k + 1 + x.fl.length : Nat) : Int) bs gs = y.fo (vlF gs bs) vlG := vlV_of h1 h2 hu.2.2 h6 hy
    have ee : edV l ((k + 1 : Nat) : Int) = ((k + 1 : Nat) : Int) + x.fl.length := edV_some (enA_of hu.2.1 h5)
    have hln := congrArg List.length h5
    rw [List.length_drop, List.length_append] at hln
    refine ⟨x.fl.length, _, _, ee, ex, ey, ?_, by omega⟩
    rw [vlV_3 hk h1 h2, hf]; rfl
end Go.Proofs.YtfnnoehpahdgcaaGreatDoor.Cl
