/-
  Recipes, plain: what a scan of a valid recipe reads ('ScR'), how many statements it counts.
-/
import Derived.Test.YtkhmbmcomgclaaaDoorLw
import Derived.Test.YtkhmbmcomgclaaaDoorLo
namespace Go.Proofs.YtkhmbmcomgclaaaDoor.Cl
open Go.RowKit Wd Rp Kp
set_option linter.unusedVariables false
/-- From this place on a scan meets brackets and statements alone: what it reads of them. -/
inductive ScR (l : List Tk) : Int → List Rc → Prop
  | fin : ScR l (l.length : Int) []
  | br {i : Int} {s : Tk} {F : List Rc} : tkA l i = some s → (s = [91] ∨ s = [93]) → ScR l (i + 1) F → ScR l i F
  | set {i : Int} {F : List Rc} : tkA l i = some setT → nmA l (i + 1) = true → smV l 1 (i + 2) ≠ -1 → ScR l (smV l 1 (i + 2)) F → ScR l i ((tkN l (i + 1), smT l (i + 2)) :: F)
  | cut {i : Int} {F : List Rc} : tkA l i = some cutT → nmA l (i + 1) = true → ScR l (i + 2) F → ScR l i ((tkN l (i + 1), []) :: F)
  | stop {i : Int} {F : List Rc} : tkA l i = some stopT → ScR l (i + 1) F → ScR l i (([], []) :: F)
  | iw {i : Int} {s : Tk} {F : List Rc} : tkA l i = some s → (s = ifT ∨ s = whT) → smV l 2 (i + 1) ≠ -1 → ScR l (smV l 2 (i + 1)) F → ScR l i (([], smT l (i + 1)) :: F)
/-- What is read where it ends goes ahead of what a scan reads from there on. -/
def KeepR (l : List Tk) (f : Int → Int) (R : Int → List Rc) : Prop := ∀ (i : Int) (F : List Rc), f i ≠ -1 → ScR l (f i) F → ScR l i (R i ++ F)
theorem dd_scr {l : List Tk} {B : Int → Int} {R : Int → List Rc} (hA : ∀ i, Ahd l i (B i)) (hB : KeepR l B R) : KeepR l (ddG l B) (ddQ l B R) := by
  intro i F hn hs
  cases h : tkA l i with
  | none => unfold ddG at hn; rw [h] at hn; exact absurd rfl hn
  | some s =>
    rw [ddG_some h] at hn hs
    rw [ddQ_some h]
    by_cases h1 : s = setT
    · subst h1
      rw [if_pos rfl] at hn hs
      rw [if_pos rfl]
      by_cases hm : nmA l (i + 1) = true
      · rw [if_pos hm] at hn hs
        exact ScR.set h hm hn hs
      · rw [if_neg hm] at hn; exact absurd rfl hn
    · rw [if_neg h1] at hn hs
      rw [if_neg h1]
      by_cases h2 : s = cutT
      · subst h2
        rw [if_pos rfl] at hn hs
        rw [if_pos rfl]
        by_cases hm : nmA l (i + 1) = true
        · rw [if_pos hm] at hs
          exact ScR.cut h hm hs
        · rw [if_neg hm] at hn; exact absurd rfl hn
      · rw [if_neg h2] at hn hs
        rw [if_neg h2]
        by_cases h3 : s = stopT
        · subst h3
          rw [if_pos rfl] at hs
          rw [if_pos rfl]
          exact ScR.stop h hs
        · rw [if_neg h3] at hn hs
          rw [if_neg h3]
          by_cases h4 : s = ifT
          · rw [if_pos h4] at hn hs
            rw [if_pos h4]
            have k1 : B (smV l 2 (i + 1)) ≠ -1 := fun e => hn (by rw [e]; exact ahd_neg hA)
            have k2 : smV l 2 (i + 1) ≠ -1 := fun e => k1 (by rw [e]; exact ahd_neg hA)
            have := ScR.iw h (Or.inl h4) k2 (hB _ _ k1 (hB _ _ hn hs))
            rw [List.cons_append, List.append_assoc]
            exact this
          · rw [if_neg h4] at hn hs
            rw [if_neg h4]
            by_cases h5 : s = whT
            · rw [if_pos h5] at hn hs
              rw [if_pos h5]
              have k2 : smV l 2 (i + 1) ≠ -1 := fun e => hn (by rw [e]; exact ahd_neg hA)
              exact ScR.iw h (Or.inr h5) k2 (hB _ _ hn hs)
            · rw [if_neg h5] at hn; exact absurd rfl hn
theorem ble_scr {l : List Tk} {f : Int → Int} {R : Int → List Rc} (hA : ∀ i, Ahd l i (f i)) (hf : KeepR l f R) : ∀ n : Nat, KeepR l (blE l f n) (dlR l f R n)
  | 0 => fun i F hn _ => absurd rfl hn
  | n + 1 => fun i F hn hs => by
    cases h : tkA l i with
    | none => rw [blE, h] at hn; exact absurd rfl hn
    | some s =>
      rw [dlR, h]
      dsimp only
      by_cases hb : s = [93]
      · have he : blE l f (n + 1) i = i + 1 := by rw [blE, h]; exact if_pos hb
        rw [he] at hs
        rw [if_pos hb]
        exact ScR.br h (Or.inr hb) hs
      · have he : blE l f (n + 1) i = blE l f n (f i) := by rw [blE, h]; exact if_neg hb
        rw [he] at hn hs
        rw [if_neg hb, List.append_assoc]
        have k1 : f i ≠ -1 := fun e => hn (by rw [e]; have := ble_ahd hA n (-1); unfold Ahd at this; omega)
        exact hf i _ k1 (ble_scr hA hf n _ _ hn hs)
theorem bls_scr {l : List Tk} {f : Int → Int} {R : Int → List Rc} (hA : ∀ i, Ahd l i (f i)) (hf : KeepR l f R) : KeepR l (blS l f) (blR l f R) := by
  intro i F hn hs
  by_cases h : tkA l i = some [91]
  · have he : blS l f i = blE l f (l.length + 1) (i + 1) := by unfold blS; rw [if_pos h]
    rw [he] at hn hs
    exact ScR.br h (Or.inl rfl) (ble_scr hA hf _ _ _ hn hs)
  · have he : blS l f i = -1 := by unfold blS; rw [if_neg h]
    exact absurd he hn
theorem ddE_scr (l : List Tk) : ∀ d : Nat, KeepR l (ddE l d) (ddR l d)
  | 0 => dd_scr (fun _ => Or.inl rfl) (fun i F hn _ => absurd rfl hn)
  | d + 1 => dd_scr (bls_ahd (ddE_ahd l d)) (bls_scr (ddE_ahd l d) (ddE_scr l d))
theorem dlE_scr (l : List Tk) : ∀ (n : Nat) (i : Int), dlE l (ddE l 5) n i = l.length → ScR l i (dlR l (ddE l 5) (ddR l 5) n i)
  | 0, i, h => by have : i = l.length := h; rw [this]; exact ScR.fin
  | n + 1, i, h => by
    cases e : tkA l i with
    | none => rw [dlE, e] at h; rw [dlR, e]; have : i = l.length := h; rw [this]; exact ScR.fin
    | some s =>
      by_cases hb : s = [93]
      · have e2 : dlE l (ddE l 5) (n + 1) i = i := by rw [dlE, e]; exact if_pos hb
        have := tkA_some e
        omega
      · have e2 : dlE l (ddE l 5) (n + 1) i = dlE l (ddE l 5) n (ddE l 5 i) := by rw [dlE, e]; exact if_neg hb
        rw [e2] at h
        have e3 : dlR l (ddE l 5) (ddR l 5) (n + 1) i = ddR l 5 i ++ dlR l (ddE l 5) (ddR l 5) n (ddE l 5 i) := by rw [dlR, e]; exact if_neg hb
        rw [e3]
        refine ddE_scr l 5 i _ (fun g => ?_) (dlE_scr l n _ h)
        rw [g, dlE_neg _ _ _ (by omega)] at h
        omega
theorem rcB_scr {l : List Tk} (h : rcB l = true) : ScR l 0 (rcR l) := by
  rw [rcB_dl] at h
  simp only [Bool.and_eq_true, decide_eq_true_eq] at h
  exact dlE_scr l _ 0 h.2
theorem ScR.at {l : List Tk} {i : Int} {F : List Rc} (h : ScR l i F) : 0 ≤ i ∧ i ≤ l.length := by
  cases h with
  | fin => omega
  | br h _ _ => have := tkA_some h; omega
  | set h _ _ _ => have := tkA_some h; omega
  | cut h _ _ => have := tkA_some h; omega
  | stop h _ => have := tkA_some h; omega
  | iw h _ _ _ => have := tkA_some h; omega
theorem sm_ahead {l : List Tk} {kind i : Int} (h : smV l kind i ≠ -1) : i < smV l kind i ∧ edV l i = smV l kind i := by
  have := sm_ahd l kind i
  unfold Ahd at this
  exact ⟨by omega, sm_ed h⟩
theorem scr_cn {l : List Tk} {i : Int} {F : List Rc} (h : ScR l i F) : ∀ (n : Nat) (c : Int), (l.length : Int) - i < n → cnD l n i c = c + (F.length : Int) := by
  induction h with
  | fin =>
    intro n c _
    cases n with
    | zero => simp [cnD]
    | succ n => rw [cnD, tkA_out (by omega)]; simp
  | @br i s F h hs hr ih =>
    intro n c hn
    have := tkA_some h
    obtain ⟨n, rfl⟩ : ∃ k, n = k + 1 := ⟨n - 1, by omega⟩
    rw [cnD, h]
    dsimp only
    rw [← ih n c (by omega)]
    rcases hs with rfl | rfl <;> simp [setT, cutT, stopT, ifT, whT]
  | @set i F h hm hn2 hr ih =>
    intro n c hn
    have := tkA_some h
    obtain ⟨n, rfl⟩ : ∃ k, n = k + 1 := ⟨n - 1, by omega⟩
    obtain ⟨h1, h2⟩ := sm_ahead hn2
    rw [cnD, h]
    dsimp only
    rw [if_pos rfl, h2, ih n (c + 1) (by omega), List.length_cons]
    omega
  | @cut i F h hm hr ih =>
    intro n c hn
    have := tkA_some h
    obtain ⟨n, rfl⟩ : ∃ k, n = k + 1 := ⟨n - 1, by omega⟩
    rw [cnD, h]
    dsimp only
    rw [if_neg (by decide), if_pos rfl, ih n (c + 1) (by omega), List.length_cons]
    omega
  | @stop i F h hr ih =>
    intro n c hn
    have := tkA_some h
    obtain ⟨n, rfl⟩ : ∃ k, n = k + 1 := ⟨n - 1, by omega⟩
    rw [cnD, h]
    dsimp only
    rw [if_neg (by decide), if_neg (by decide), if_pos rfl, ih n (c + 1) (by omega), List.length_cons]
    omega
  | @iw i s F h hs hn2 hr ih =>
    intro n c hn
    have := tkA_some h
    obtain ⟨n, rfl⟩ : ∃ k, n = k + 1 := ⟨n - 1, by omega⟩
    obtain ⟨h1, h2⟩ := sm_ahead hn2
    rw [cnD, h]
    dsimp only
    rw [if_neg (by rcases hs with rfl | rfl <;> decide), if_neg (by rcases hs with rfl | rfl <;> decide), if_neg (by rcases hs with rfl | rfl <;> decide), if_pos hs, h2, ih n (c + 1) (by omega), List.length_cons]
    omega
/-- What DeedsIn gives is how many statements are read. -/
theorem dn_is (l : List Tk) : dnR l = if rcB l then ((rcR l).length : Int) else -1 := by
  unfold dnR
  split
  · rename_i h
    rw [scr_cn (rcB_scr h) _ 0 (by omega)]
    omega
  · rfl
end Go.Proofs.YtkhmbmcomgclaaaDoor.Cl
