/-
  Recipes, plain: a statement stays what it is where the same tokens stand elsewhere ('Mv'); a recipe is statements up to its end ('Run'); two recipes one after the other; pieces of a recipe.
-/
import Derived.Test.YtkhmbmcomgclaaaGreatDoorZa
namespace Go.Proofs.YtkhmbmcomgclaaaGreatDoor.Cl
open Go.RowKit Wd Rp Kp
set_option linter.unusedVariables false
/-- The tokens from lo on and before hi stand in m too, k places on. -/
def Agr (l m : List Tk) (k lo hi : Int) : Prop := ∀ x, lo ≤ x → x < hi → tkA m (x + k) = tkA l x
theorem tkA_in {l : List Tk} {i : Int} (h0 : 0 ≤ i) (h1 : i < l.length) : ∃ s, tkA l i = some s := by
  unfold tkA
  rw [if_neg (by omega)]
  exact ⟨l[i.toNat]'(by omega), List.getElem?_eq_getElem _⟩
theorem Agr.pos {l m : List Tk} {k lo hi i : Int} (h : Agr l m k lo hi) (h1 : lo ≤ i) (h2 : i < hi) (h0 : 0 ≤ i) (h3 : i < l.length) : 0 ≤ i + k ∧ i + k < m.length := by
  obtain ⟨s, hs⟩ := tkA_in h0 h3
  have := tkA_some ((h i h1 h2).trans hs)
  omega
theorem agr_piece {l m : List Tk} {k lo hi i : Int} {n : Nat} (h : Agr l m k lo hi) (h0 : 0 ≤ i) (h1 : lo ≤ i) (hn : i + n ≤ hi) (hk : 0 ≤ i + k) : (m.drop (i + k).toNat).take n = (l.drop i.toNat).take n := by
  apply List.ext_getElem?
  intro x
  by_cases hx : x < n
  · rw [List.getElem?_take_of_lt hx, List.getElem?_take_of_lt hx, List.getElem?_drop, List.getElem?_drop]
    have := h (i + x) (by omega) (by omega)
    unfold tkA at this
    rw [if_neg (by omega), if_neg (by omega), show (i + (x : Int) + k).toNat = (i + k).toNat + x by omega, show (i + (x : Int)).toNat = i.toNat + x by omega] at this
    exact this
  · rw [List.getElem?_take_eq_none (by omega), List.getElem?_take_eq_none (by omega)]
/-- Where f ends in l, g ends in m, k places on. -/
def Mv (k lo hi : Int) (f g : Int → Int) : Prop := ∀ i, lo ≤ i → f i ≠ -1 → f i ≤ hi → g (i + k) = f i + k
theorem sm_parts {l : List Tk} {kind i : Int} (h : smV l kind i ≠ -1) : ∃ n : Nat, enA l i = some n ∧ smV l kind i = i + n ∧ 1 ≤ n ∧ 0 ≤ i ∧ i + n ≤ l.length ∧ kdV l i = kind ∧ ¬ 5 < dpV l i := by
  have h2 := sm_ahd l kind i
  unfold Ahd at h2
  have he : ¬ (edV l i < 0 ∨ kdV l i ≠ kind ∨ 5 < dpV l i) := fun e => h (by unfold smV; rw [if_pos e])
  have hv : smV l kind i = edV l i := by unfold smV; rw [if_neg he]
  cases e : enA l i with
  | none => rw [hv, edV_none e] at h; exact absurd rfl h
  | some n =>
    rw [hv, edV_some e] at h h2 ⊢
    exact ⟨n, rfl, rfl, by omega, by omega, by omega, Decidable.byContradiction fun g => he (Or.inr (Or.inl g)), fun g => he (Or.inr (Or.inr g))⟩
theorem en_agr {l m : List Tk} {i j : Int} {n : Nat} (h : enA l i = some n) (hj : 0 ≤ j) (hp : (m.drop j.toNat).take n = (l.drop i.toNat).take n) : enA m j = some n := by
  unfold enA at h ⊢
  split at h
  · cases h
  · rw [if_neg (by omega)]
    have h1 := en_take h
    rw [← hp] at h1
    have := en_app ((m.drop j.toNat).drop n) h1
    rwa [List.take_append_drop] at this
theorem mv_sm {l m : List Tk} {k lo hi : Int} (h : Agr l m k lo hi) (kind : Int) : Mv k lo hi (smV l kind) (smV m kind) := by
  intro i h1 hn h2
  obtain ⟨n, e, hv, n1, h0, hl, hk, hd⟩ := sm_parts hn
  have hp := h.pos h1 (by omega) h0 (by omega)
  have hq := agr_piece (n := n) h h0 h1 (by omega) hp.1
  have e2 := en_agr e hp.1 hq
  have k2 : kdV m (i + k) = kind := (foV_agr kdF kdG 0 e e2 hq).trans hk
  have d2 : dpV m (i + k) = dpV l i := foV_agr dpF dpG 0 e e2 hq
  rw [hv, sm_yes (by rw [edV_some e2]; omega) k2 (by rw [d2]; exact hd), edV_some e2]
  omega
theorem agr_nm {l m : List Tk} {k lo hi i : Int} (h : Agr l m k lo hi) (h1 : lo ≤ i) (h2 : i < hi) : nmA m (i + k) = nmA l i := by
  unfold nmA
  rw [h i h1 h2]
theorem nm_in {l : List Tk} {i : Int} (h : nmA l i = true) : 0 ≤ i ∧ i < l.length := by
  unfold nmA at h
  cases e : tkA l i with
  | none => rw [e] at h; cases h
  | some s => have := tkA_some e; omega
theorem mv_dd {l m : List Tk} {k lo hi : Int} (h : Agr l m k lo hi) {B C : Int → Int} (hA : ∀ i, Ahd l i (B i)) (hB : Mv k lo hi B C) : Mv k lo hi (ddG l B) (ddG m C) := by
  intro i h1 hn h2
  have ha := dd_ahd hA i
  unfold Ahd at ha
  obtain ⟨s, hs⟩ := tkA_in (l := l) (i := i) (by omega) (by omega)
  have hs2 : tkA m (i + k) = some s := (h i h1 (by omega)).trans hs
  rw [ddG_some hs] at hn h2 ⊢
  rw [ddG_some hs2]
  clear ha
  by_cases b0 : s = setT
  · rw [if_pos b0] at hn h2 ⊢
    rw [if_pos b0]
    by_cases hm : nmA l (i + 1) = true
    · rw [if_pos hm] at hn h2 ⊢
      obtain ⟨n, e, hv, n1, h0, hl, -⟩ := sm_parts hn
      have := agr_nm (i := i + 1) h (by omega) (by omega)
      rw [show i + k + 1 = i + 1 + k by omega, this, if_pos hm, show i + k + 2 = i + 2 + k by omega]
      exact mv_sm h 1 (i + 2) (by omega) hn h2
    · rw [if_neg hm] at hn; exact absurd rfl hn
  rw [if_neg b0] at hn h2 ⊢
  rw [if_neg b0]
  by_cases b1 : s = cutT
  · rw [if_pos b1] at hn h2 ⊢
    rw [if_pos b1]
    by_cases hm : nmA l (i + 1) = true
    · rw [if_pos hm] at hn h2 ⊢
      have := agr_nm (i := i + 1) h (by omega) (by omega)
      rw [show i + k + 1 = i + 1 + k by omega, this, if_pos hm]
      omega
    · rw [if_neg hm] at hn; exact absurd rfl hn
  rw [if_neg b1] at hn h2 ⊢
  rw [if_neg b1]
  by_cases b2 : s = stopT
  · rw [if_pos b2] at hn h2 ⊢
    rw [if_pos b2]
    omega
  rw [if_neg b2] at hn h2 ⊢
  rw [if_neg b2]
  by_cases b3 : s = ifT
  · rw [if_pos b3] at hn h2 ⊢
    rw [if_pos b3]
    have k1 : B (smV l 2 (i + 1)) ≠ -1 := fun e => hn (by rw [e]; exact ahd_neg hA)
    have k2 : smV l 2 (i + 1) ≠ -1 := fun e => k1 (by rw [e]; exact ahd_neg hA)
    have a1 := hA (smV l 2 (i + 1))
    have a2 := hA (B (smV l 2 (i + 1)))
    have a0 := sm_ahd l 2 (i + 1)
    unfold Ahd at a0 a1 a2
    rw [show i + k + 1 = i + 1 + k by omega, mv_sm h 2 (i + 1) (by omega) k2 (by omega), hB _ (by omega) k1 (by omega)]
    exact hB _ (by omega) hn h2
  rw [if_neg b3] at hn h2 ⊢
  rw [if_neg b3]
  by_cases b4 : s = whT
  · rw [if_pos b4] at hn h2 ⊢
    rw [if_pos b4]
    have k2 : smV l 2 (i + 1) ≠ -1 := fun e => hn (by rw [e]; exact ahd_neg hA)
    have a1 := hA (smV l 2 (i + 1))
    have a0 := sm_ahd l 2 (i + 1)
    unfold Ahd at a0 a1
    rw [show i + k + 1 = i + 1 + k by omega, mv_sm h 2 (i + 1) (by omega) k2 (by omega)]
    exact hB _ (by omega) hn h2
  rw [if_neg b4] at hn
  exact absurd rfl hn
theorem mv_ble {l m : List Tk} {k lo hi : Int} (h : Agr l m k lo hi) {f g : Int → Int} (hA : ∀ i, Ahd l i (f i)) (hf : Mv k lo hi f g) : ∀ (n : Nat) (i : Int), lo ≤ i → blE l f n i ≠ -1 → blE l f n i ≤ hi → ∀ n' : Nat, (m.length : Int) - (i + k) < n' → blE m g n' (i + k) = blE l f n i + k
  | 0, i, _, hn, _, _, _ => absurd rfl hn
  | n + 1, i, h1, hn, h2, n', hn' => by
    have ha := ble_ahd hA (n + 1) i
    unfold Ahd at ha
    obtain ⟨s, hs⟩ := tkA_in (l := l) (i := i) (by omega) (by omega)
    have hs2 : tkA m (i + k) = some s := (h i h1 (by omega)).trans hs
    have := tkA_some hs2
    obtain ⟨n', rfl⟩ : ∃ j, n' = j + 1 := ⟨n' - 1, by omega⟩
    by_cases hb : s = [93]
    · have e1 : blE l f (n + 1) i = i + 1 := by rw [blE, hs]; exact if_pos hb
      have e2 : blE m g (n' + 1) (i + k) = i + k + 1 := by rw [blE, hs2]; exact if_pos hb
      rw [e1, e2]
      omega
    · have e1 : blE l f (n + 1) i = blE l f n (f i) := by rw [blE, hs]; exact if_neg hb
      have e2 : blE m g (n' + 1) (i + k) = blE m g n' (g (i + k)) := by rw [blE, hs2]; exact if_neg hb
      rw [e1] at hn h2 ⊢
      have k1 : f i ≠ -1 := fun e => hn (by rw [e]; exact ble_neg _ _ _ (by omega))
      have a1 := hA i
      have a2 := ble_ahd hA n (f i)
      unfold Ahd at a1 a2
      rw [e2, hf i h1 k1 (by omega)]
      exact mv_ble h hA hf n (f i) (by omega) hn h2 n' (by omega)
theorem mv_bls {l m : List Tk} {k lo hi : Int} (h : Agr l m k lo hi) {f g : Int → Int} (hA : ∀ i, Ahd l i (f i)) (hf : Mv k lo hi f g) : Mv k lo hi (blS l f) (blS m g) := by
  intro i h1 hn h2
  have ha := bls_ahd hA i
  unfold Ahd at ha
  by_cases hb : tkA l i = some [91]
  · have e1 : blS l f i = blE l f (l.length + 1) (i + 1) := by unfold blS; rw [if_pos hb]
    have hb2 : tkA m (i + k) = some [91] := (h i h1 (by omega)).trans hb
    have e2 : blS m g (i + k) = blE m g (m.length + 1) (i + 1 + k) := by unfold blS; rw [if_pos hb2, show i + k + 1 = i + 1 + k by omega]
    have := tkA_some hb2
    rw [e1] at hn h2 ⊢
    rw [e2]
    exact mv_ble h hA hf _ (i + 1) (by omega) hn h2 _ (by omega)
  · exact absurd (by unfold blS; rw [if_neg hb]) hn
theorem mv_ddE {l m : List Tk} {k lo hi : Int} (h : Agr l m k lo hi) : ∀ d : Nat, Mv k lo hi (ddE l d) (ddE m d)
  | 0 => mv_dd h (fun _ => Or.inl rfl) (fun i _ hn _ => absurd rfl hn)
  | d + 1 => mv_dd h (bls_ahd (ddE_ahd l d)) (mv_bls h (ddE_ahd l d) (mv_ddE h d))
/-- Statements one behind the other lead from here to there. -/
inductive Run (l : List Tk) : Int → Int → Prop
  | here (i : Int) : Run l i i
  | step {i j : Int} : ddE l 5 i ≠ -1 → Run l (ddE l 5 i) j → Run l i j
theorem Run.trans {l : List Tk} {i j k : Int} (h : Run l i j) (h2 : Run l j k) : Run l i k := by
  induction h with
  | here i => exact h2
  | step h _ ih => exact Run.step h (ih h2)
theorem Run.le {l : List Tk} {i j : Int} (h : Run l i j) : i ≤ j := by
  induction h with
  | here i => exact Int.le_refl _
  | @step i j h _ ih =>
    have := ddE_ahd l 5 i
    unfold Ahd at this
    omega
theorem mv_run {l m : List Tk} {k lo hi : Int} (h : Agr l m k lo hi) {i j : Int} (hr : Run l i j) (h1 : lo ≤ i) (h2 : j ≤ hi) : Run m (i + k) (j + k) := by
  induction hr with
  | here i => exact Run.here _
  | @step i j hn hr ih =>
    have hle := hr.le
    have ha := ddE_ahd l 5 i
    unfold Ahd at ha
    have e := mv_ddE h 5 i h1 hn (by omega)
    obtain ⟨s, hs⟩ := tkA_in (l := l) (i := i) (by omega) (by omega)
    have := tkA_some ((h i h1 (by omega)).trans hs)
    refine Run.step (by rw [e]; omega) ?_
    rw [e]
    exact ih (by omega) h2
theorem dd_br {l : List Tk} {d : Nat} {i : Int} (h : tkA l i = some [93]) : ddE l d i = -1 := by
  cases d with
  | zero => show ddG l _ i = -1; rw [ddG_some h]; simp [setT, cutT, stopT, ifT, whT]
  | succ d => show ddG l _ i = -1; rw [ddG_some h]; simp [setT, cutT, stopT, ifT, whT]
theorem dl_run {l : List Tk} : ∀ (n : Nat) (i : Int), dlE l (ddE l 5) n i = l.length → Run l i l.length
  | 0, i, h => by have : i = l.length := h; rw [this]; exact Run.here _
  | n + 1, i, h => by
    cases e : tkA l i with
    | none => rw [dlE, e] at h; have : i = l.length := h; rw [this]; exact Run.here _
    | some s =>
      by_cases hb : s = [93]
      · have e2 : dlE l (ddE l 5) (n + 1) i = i := by rw [dlE, e]; exact if_pos hb
        have := tkA_some e
        omega
      · have e2 : dlE l (ddE l 5) (n + 1) i = dlE l (ddE l 5) n (ddE l 5 i) := by rw [dlE, e]; exact if_neg hb
        rw [e2] at h
        refine Run.step (fun g => ?_) (dl_run n _ h)
        rw [g, dlE_neg _ _ _ (by omega)] at h
        omega
theorem run_dl {l : List Tk} {i j : Int} (h : Run l i j) (hj : j = l.length) : ∀ n : Nat, (l.length : Int) - i < n → dlE l (ddE l 5) n i = l.length := by
  induction h with
  | here i =>
    intro n _
    subst hj
    cases n with
    | zero => rfl
    | succ n => rw [dlE, tkA_out (by omega)]
  | @step i j hn hr ih =>
    intro n hlt
    have ha := ddE_ahd l 5 i
    unfold Ahd at ha
    obtain ⟨n, rfl⟩ : ∃ k, n = k + 1 := ⟨n - 1, by omega⟩
    obtain ⟨s, hs⟩ := tkA_in (l := l) (i := i) (by omega) (by omega)
    have hb : s ≠ [93] := fun e => hn (dd_br (by rw [hs, e]))
    have e2 : dlE l (ddE l 5) (n + 1) i = dlE l (ddE l 5) n (ddE l 5 i) := by rw [dlE, hs]; exact if_neg hb
    rw [e2]
    exact ih hj n (by omega)
theorem rcB_run (l : List Tk) : rcB l = true ↔ l.length ≤ 120 ∧ Run l 0 l.length := by
  rw [rcB_dl, Bool.and_eq_true, decide_eq_true_eq, decide_eq_true_eq]
  exact ⟨fun h => ⟨h.1, dl_run _ _ h.2⟩, fun h => ⟨h.1, run_dl h.2 rfl _ (by omega)⟩⟩
/-- Two recipes one after the other form one, if it isn't too long. -/
theorem rcB_both {l : List Tk} (h : rcB l = true) : rcB (l ++ l) = decide ((l ++ l).length ≤ 120) := by
  obtain ⟨-, hr⟩ := (rcB_run l).1 h
  by_cases hl : (l ++ l).length ≤ 120
  · rw [decide_eq_true hl]
    refine (rcB_run _).2 ⟨hl, ?_⟩
    have a1 : Agr l (l ++ l) 0 0 l.length := fun x h0 h1 => by
      unfold tkA
      rw [Int.add_zero, if_neg (by omega), if_neg (by omega), List.getElem?_append_left (by omega)]
    have a2 : Agr l (l ++ l) l.length 0 l.length := fun x h0 h1 => by
      unfold tkA
      rw [if_neg (by omega), if_neg (by omega), List.getElem?_append_right (by omega), show (x + (l.length : Int)).toNat - l.length = x.toNat by omega]
    have r1 := mv_run a1 hr (Int.le_refl _) (Int.le_refl _)
    have r2 := mv_run a2 hr (Int.le_refl _) (Int.le_refl _)
    rw [Int.add_zero, Int.add_zero] at r1
    rw [Int.zero_add] at r2
    have := r1.trans r2
    rw [List.length_append]
    simpa using this
  · rw [decide_eq_false hl]
    unfold rcB
    rw [if_neg hl]
/-- A statement of its own is a recipe. -/
theorem rcB_piece {l : List Tk} {i : Int} (h : ddE l 5 i ≠ -1) (hl : l.length ≤ 120) : rcB ((l.drop i.toNat).take (ddE l 5 i - i).toNat) = true := by
  have ha := ddE_ahd l 5 i
  unfold Ahd at ha
  have hlen : ((l.drop i.toNat).take (ddE l 5 i - i).toNat).length = (ddE l 5 i - i).toNat := by rw [List.length_take, List.length_drop]; omega
  refine (rcB_run _).2 ⟨by rw [hlen]; omega, ?_⟩
  have ag : Agr l ((l.drop i.toNat).take (ddE l 5 i - i).toNat) (-i) i (ddE l 5 i) := fun x h0 h1 => by
    unfold tkA
    rw [if_neg (by omega), if_neg (by omega), List.getElem?_take_of_lt (by omega), List.getElem?_drop, show i.toNat + (x + -i).toNat = x.toNat by omega]
  have := mv_run ag (Run.step h (Run.here _)) (Int.le_refl _) (Int.le_refl _)
  rw [hlen]
  rwa [show i + -i = 0 by omega, show ddE l 5 i + -i = ((ddE l 5 i - i).toNat : Int) by omega] at this
/-- A statement reads one thing at least. -/
theorem ddR_pos {l : List Tk} {d : Nat} {i : Int} (h : ddE l d i ≠ -1) : 1 ≤ (ddR l d i).length := by
  have ha := ddE_ahd l d i
  unfold Ahd at ha
  obtain ⟨s, hs⟩ := tkA_in (l := l) (i := i) (by omega) (by omega)
  have key : ∀ (B : Int → Int) (R : Int → List Rc), ddG l B i ≠ -1 → 1 ≤ (ddQ l B R i).length := fun B R h => by
    rw [ddG_some hs] at h
    rw [ddQ_some hs]
    split
    · simp
    · rename_i b0
      rw [if_neg b0] at h
      split
      · simp
      · rename_i b1
        rw [if_neg b1] at h
        split
        · simp
        · rename_i b2
          rw [if_neg b2] at h
          split
          · simp
          · rename_i b3
            rw [if_neg b3] at h
            split
            · simp
            · rename_i b4
              rw [if_neg b4] at h
              exact absurd rfl h
  cases d with
  | zero => exact key _ _ h
  | succ d => exact key _ _ h
end Go.Proofs.YtkhmbmcomgclaaaGreatDoor.Cl
