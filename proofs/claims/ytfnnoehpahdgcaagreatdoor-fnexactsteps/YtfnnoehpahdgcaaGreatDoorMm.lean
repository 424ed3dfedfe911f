/-
  Recipes as trees: a recipe is a tree's text ('rc_tree'), what is read of it is what the tree gives ('rd_tree'), where its statements and blocks end ('Sm.det', 'blk_det').
-/
import Derived.Test.YtfnnoehpahdgcaaGreatDoorMj
namespace Go.Proofs.YtfnnoehpahdgcaaGreatDoor.Cl
open Go.RowKit Wd Rp Kp
set_option linter.unusedVariables false
theorem tkA_drop {l : List Tk} {i : Int} {s : Tk} (h : tkA l i = some s) : 0 ≤ i ∧ l.drop i.toNat = s :: l.drop (i + 1).toNat := by
  obtain ⟨h0, h1, h2⟩ := tkA_some h
  obtain ⟨h3, rfl⟩ := List.getElem?_eq_some_iff.1 h2
  refine ⟨h0, ?_⟩
  rw [List.drop_eq_getElem_cons h3, show (i + 1).toNat = i.toNat + 1 by omega]
theorem sm_tree {l : List Tk} {kind i : Int} (hk : kind ≠ 0) (h : smV l kind i ≠ -1) : ∃ e, eK kind e ∧ 0 ≤ i ∧ l.drop i.toNat = e ++ l.drop (smV l kind i).toNat := by
  unfold smV at h ⊢
  split at h
  · exact absurd rfl h
  · rename_i hn
    rw [if_neg hn]
    have h1 : kdV l i = kind := by apply Decidable.byContradiction; intro e; exact hn (Or.inr (Or.inl e))
    have h2 : ¬ 5 < dpV l i := fun e => hn (Or.inr (Or.inr e))
    obtain ⟨m, he⟩ := kdV_some (l := l) (i := i) (by rw [h1]; exact hk)
    obtain ⟨u, hu, h0, hm, hd, hf⟩ := foV_tree kdF kdG 0 he
    obtain ⟨k, rfl⟩ : ∃ k : Nat, i = k := ⟨i.toNat, by omega⟩
    rw [Int.toNat_natCast] at hd
    refine ⟨u.fl, ⟨u, hu, rfl, by rw [← h1]; exact hf.symm, by rw [← foV_of dpF dpG 0 hu hd]; exact h2⟩, h0, ?_⟩
    rw [edV_some he, Int.toNat_natCast, hd, show ((k : Int) + (m : Int)).toNat = k + m by omega]
theorem sm_det {l : List Tk} {kind : Int} {k : Nat} {e r : List Tk} (h : eK kind e) (hd : l.drop k = e ++ r) : smV l kind (k : Int) = ((k + e.length : Nat) : Int) ∧ smT l (k : Int) = e := by
  obtain ⟨u, hu, rfl, h1, h2⟩ := h
  have he := enA_of hu hd
  have h3 : edV l (k : Int) = ((k + u.fl.length : Nat) : Int) := by rw [edV_some he]; omega
  have h4 : kdV l (k : Int) = kind := by rw [← h1]; exact foV_of kdF kdG 0 hu hd
  have h5 : dpV l (k : Int) = u.fo dpF dpG := foV_of dpF dpG 0 hu hd
  constructor
  · rw [sm_yes (by rw [h3]; omega) h4 (by rw [h5]; exact h2), h3]
  · unfold smT
    rw [he]
    show (l.drop k).take u.fl.length = _
    rw [hd, List.take_left]
/-- The shape of a statement, W of its blocks. -/
def Sm.shape (W : Sl → Prop) : Sm → Prop
  | .set n e => nmB n = true ∧ eK 1 e
  | .cut n => nmB n = true
  | .stop => True
  | .ifs e a b => eK 2 e ∧ W a ∧ W b
  | .whl e a => eK 2 e ∧ W a
theorem Sm.wf_shape {d : Nat} {s : Sm} (h : s.shape (Sl.wf d)) : s.wf (d + 1) := by
  cases s <;> rw [Sm.wf] <;> first | exact h | trivial
theorem Sm.wf_shape0 {s : Sm} (h : s.shape (fun _ => False)) : s.wf 0 := by
  cases s with
  | set n e => rw [Sm.wf]; exact h
  | cut n => rw [Sm.wf]; exact h
  | stop => rw [Sm.wf]; trivial
  | ifs e a b => exact h.2.1.elim
  | whl e a => exact h.2.elim
def IsBlok (l : List Tk) (B : Int → Int) (W : Sl → Prop) : Prop := ∀ i, B i ≠ -1 → ∃ a : Sl, W a ∧ l.drop i.toNat = [91] :: (a.fl ++ ([93] :: l.drop (B i).toNat))
def IsDeed (l : List Tk) (f : Int → Int) (W : Sm → Prop) : Prop := ∀ i, f i ≠ -1 → ∃ s : Sm, W s ∧ l.drop i.toNat = s.fl ++ l.drop (f i).toNat
theorem nmA_some {l : List Tk} {i : Int} (h : nmA l i = true) : ∃ n, tkA l i = some n ∧ nmB n = true := by
  unfold nmA at h
  cases e : tkA l i with
  | none => rw [e] at h; cases h
  | some n => rw [e] at h; exact ⟨n, rfl, h⟩
theorem dd_tree {l : List Tk} {B : Int → Int} {W : Sl → Prop} (hA : ∀ i, Ahd l i (B i)) (hB : IsBlok l B W) : IsDeed l (ddG l B) (Sm.shape W) := by
  intro i hn
  cases h : tkA l i with
  | none => unfold ddG at hn; rw [h] at hn; exact absurd rfl hn
  | some s =>
    obtain ⟨h0, hd⟩ := tkA_drop h
    rw [ddG_some h] at hn ⊢
    by_cases h1 : s = setT
    · subst h1
      rw [if_pos rfl] at hn ⊢
      by_cases hm : nmA l (i + 1) = true
      · rw [if_pos hm] at hn ⊢
        obtain ⟨n, hn1, hn2⟩ := nmA_some hm
        obtain ⟨-, hd2⟩ := tkA_drop hn1
        obtain ⟨e, he, -, hd3⟩ := sm_tree (by decide) hn
        rw [show i + 1 + 1 = i + 2 by omega] at hd2
        exact ⟨.set n e, ⟨hn2, he⟩, by rw [hd, hd2, hd3]; simp [Sm.fl]⟩
      · rw [if_neg hm] at hn; exact absurd rfl hn
    · rw [if_neg h1] at hn ⊢
      by_cases h2 : s = cutT
      · subst h2
        rw [if_pos rfl] at hn ⊢
        by_cases hm : nmA l (i + 1) = true
        · rw [if_pos hm] at hn ⊢
          obtain ⟨n, hn1, hn2⟩ := nmA_some hm
          obtain ⟨-, hd2⟩ := tkA_drop hn1
          rw [show i + 1 + 1 = i + 2 by omega] at hd2
          exact ⟨.cut n, hn2, by rw [hd, hd2]; simp [Sm.fl]⟩
        · rw [if_neg hm] at hn; exact absurd rfl hn
      · rw [if_neg h2] at hn ⊢
        by_cases h3 : s = stopT
        · subst h3
          rw [if_pos rfl]
          exact ⟨.stop, trivial, by rw [hd]; simp [Sm.fl]⟩
        · rw [if_neg h3] at hn ⊢
          by_cases h4 : s = ifT
          · subst h4
            rw [if_pos rfl] at hn ⊢
            have k1 : B (smV l 2 (i + 1)) ≠ -1 := fun e => hn (by rw [e]; exact ahd_neg hA)
            have k2 : smV l 2 (i + 1) ≠ -1 := fun e => k1 (by rw [e]; exact ahd_neg hA)
            obtain ⟨e, he, -, hd2⟩ := sm_tree (by decide) k2
            obtain ⟨a, ha, hd3⟩ := hB _ k1
            obtain ⟨b, hb, hd4⟩ := hB _ hn
            exact ⟨.ifs e a b, ⟨he, ha, hb⟩, by rw [hd, hd2, hd3, hd4]; simp [Sm.fl]⟩
          · rw [if_neg h4] at hn ⊢
            by_cases h5 : s = whT
            · subst h5
              rw [if_pos rfl] at hn ⊢
              have k2 : smV l 2 (i + 1) ≠ -1 := fun e => hn (by rw [e]; exact ahd_neg hA)
              obtain ⟨e, he, -, hd2⟩ := sm_tree (by decide) k2
              obtain ⟨a, ha, hd3⟩ := hB _ hn
              exact ⟨.whl e a, ⟨he, ha⟩, by rw [hd, hd2, hd3]; simp [Sm.fl]⟩
            · rw [if_neg h5] at hn; exact absurd rfl hn
theorem ble_tree {l : List Tk} {f : Int → Int} {d : Nat} (hf : IsDeed l f (Sm.wf d)) : ∀ (n : Nat) (i : Int), blE l f n i ≠ -1 → ∃ a : Sl, a.wf d ∧ l.drop i.toNat = a.fl ++ ([93] :: l.drop (blE l f n i).toNat)
  | 0, i, h => absurd rfl h
  | n + 1, i, h => by
    cases e : tkA l i with
    | none => rw [blE, e] at h; exact absurd rfl h
    | some s =>
      by_cases hs : s = [93]
      · subst hs
        have e1 : blE l f (n + 1) i = i + 1 := by rw [blE, e]; exact if_pos rfl
        rw [e1]
        exact ⟨.nil, by rw [Sl.wf]; trivial, by rw [(tkA_drop e).2]; simp [Sl.fl]⟩
      · have e1 : blE l f (n + 1) i = blE l f n (f i) := by rw [blE, e]; exact if_neg hs
        rw [e1] at h ⊢
        have k1 : f i ≠ -1 := fun g => h (by rw [g]; exact ble_neg l f n (by omega))
        obtain ⟨t, ht, hd⟩ := hf i k1
        obtain ⟨a, ha, hd2⟩ := ble_tree hf n _ h
        exact ⟨.cons t a, by rw [Sl.wf]; exact ⟨ht, ha⟩, by rw [hd, hd2]; simp [Sl.fl]⟩
theorem bls_tree {l : List Tk} {f : Int → Int} {d : Nat} (hf : IsDeed l f (Sm.wf d)) : IsBlok l (blS l f) (Sl.wf d) := by
  intro i h
  by_cases hb : tkA l i = some [91]
  · have e : blS l f i = blE l f (l.length + 1) (i + 1) := by unfold blS; rw [if_pos hb]
    rw [e] at h ⊢
    obtain ⟨a, ha, hd⟩ := ble_tree hf _ _ h
    exact ⟨a, ha, by rw [(tkA_drop hb).2, hd]⟩
  · exact absurd (by unfold blS; rw [if_neg hb]) h
theorem ddE_tree (l : List Tk) : ∀ d : Nat, IsDeed l (ddE l d) (Sm.wf d)
  | 0 => fun i h => by
    obtain ⟨s, hs, hd⟩ := dd_tree (l := l) (B := fun _ => -1) (W := fun _ => False) (fun _ => Or.inl rfl) (fun i h => absurd rfl h) i h
    exact ⟨s, Sm.wf_shape0 hs, hd⟩
  | d + 1 => fun i h => by
    obtain ⟨s, hs, hd⟩ := dd_tree (bls_ahd (ddE_ahd l d)) (bls_tree (ddE_tree l d)) i h
    exact ⟨s, Sm.wf_shape hs, hd⟩
theorem dl_tree {l : List Tk} {f : Int → Int} {d : Nat} (hf : IsDeed l f (Sm.wf d)) : ∀ (n : Nat) (i : Int), dlE l f n i = l.length → ∃ a : Sl, a.wf d ∧ l.drop i.toNat = a.fl
  | 0, i, h => ⟨.nil, by rw [Sl.wf]; trivial, by have : i = l.length := h; subst this; simp [Sl.fl]⟩
  | n + 1, i, h => by
    cases e : tkA l i with
    | none => rw [dlE, e] at h; exact ⟨.nil, by rw [Sl.wf]; trivial, by have : i = l.length := h; subst this; simp [Sl.fl]⟩
    | some s =>
      by_cases hs : s = [93]
      · have e1 : dlE l f (n + 1) i = i := by rw [dlE, e]; exact if_pos hs
        have := tkA_some e
        omega
      · have e1 : dlE l f (n + 1) i = dlE l f n (f i) := by rw [dlE, e]; exact if_neg hs
        rw [e1] at h
        have k1 : f i ≠ -1 := fun g => by rw [g, dlE_neg l f n (by omega)] at h; omega
        obtain ⟨t, ht, hd⟩ := hf i k1
        obtain ⟨a, ha, hd2⟩ := dl_tree hf n _ h
        exact ⟨.cons t a, by rw [Sl.wf]; exact ⟨ht, ha⟩, by rw [hd, hd2]; simp [Sl.fl]⟩
/-- A recipe is a tree's text. -/
theorem rc_tree {l : List Tk} (h : rcB l = true) : ∃ t : Sl, t.wf 5 ∧ l = t.fl := by
  rw [rcB_dl, Bool.and_eq_true, decide_eq_true_eq, decide_eq_true_eq] at h
  obtain ⟨a, ha, hd⟩ := dl_tree (ddE_tree l 5) _ 0 h.2
  exact ⟨a, ha, hd⟩
end Go.Proofs.YtfnnoehpahdgcaaGreatDoor.Cl
