/-
  Recipes, plain: what a scan of a valid recipe meets ('Scn'): from statement to statement, over the brackets.
-/
import Derived.Test.YtkhmbmcomgclaaaDoorLa
namespace Go.Proofs.YtkhmbmcomgclaaaDoor.Cl
open Go.RowKit Wd Rp Kp
set_option linter.unusedVariables false
/-- From this place on a scan meets brackets and beginnings of statements alone. -/
inductive Scn (l : List Tk) : Int → Prop
  | fin : Scn l (l.length : Int)
  | br {i : Int} {s : Tk} : tkA l i = some s → (s = [91] ∨ s = [93]) → Scn l (i + 1) → Scn l i
  | set {i : Int} : tkA l i = some setT → nmA l (i + 1) = true → smV l 1 (i + 2) ≠ -1 → Scn l (smV l 1 (i + 2)) → Scn l i
  | cut {i : Int} : tkA l i = some cutT → nmA l (i + 1) = true → Scn l (i + 2) → Scn l i
  | stop {i : Int} : tkA l i = some stopT → Scn l (i + 1) → Scn l i
  | iw {i : Int} {s : Tk} : tkA l i = some s → (s = ifT ∨ s = whT) → smV l 2 (i + 1) ≠ -1 → Scn l (smV l 2 (i + 1)) → Scn l i
theorem ahd_neg {l : List Tk} {f : Int → Int} (hf : ∀ i, Ahd l i (f i)) : f (-1) = -1 := by
  have := hf (-1)
  unfold Ahd at this
  omega
/-- A function that, where it ends, keeps a scan going. -/
def Keeps (l : List Tk) (f : Int → Int) : Prop := ∀ i, f i ≠ -1 → Scn l (f i) → Scn l i
theorem dd_scn {l : List Tk} {B : Int → Int} (hA : ∀ i, Ahd l i (B i)) (hB : Keeps l B) : Keeps l (ddG l B) := by
  intro i hn hs
  cases h : tkA l i with
  | none => unfold ddG at hn; rw [h] at hn; exact absurd rfl hn
  | some s =>
    have he : ddG l B i = (if s = setT then (if nmA l (i + 1) then smV l 1 (i + 2) else -1) else if s = cutT then (if nmA l (i + 1) then i + 2 else -1) else if s = stopT then i + 1
      else if s = ifT then B (B (smV l 2 (i + 1))) else if s = whT then B (smV l 2 (i + 1)) else -1) := by unfold ddG; rw [h]
    rw [he] at hn hs
    by_cases h1 : s = setT
    · subst h1
      rw [if_pos rfl] at hn hs
      by_cases hm : nmA l (i + 1) = true
      · rw [if_pos hm] at hn hs
        exact Scn.set h hm hn hs
      · rw [if_neg hm] at hn; exact absurd rfl hn
    · rw [if_neg h1] at hn hs
      by_cases h2 : s = cutT
      · subst h2
        rw [if_pos rfl] at hn hs
        by_cases hm : nmA l (i + 1) = true
        · rw [if_pos hm] at hs
          exact Scn.cut h hm hs
        · rw [if_neg hm] at hn; exact absurd rfl hn
      · rw [if_neg h2] at hn hs
        by_cases h3 : s = stopT
        · subst h3
          rw [if_pos rfl] at hs
          exact Scn.stop h hs
        · rw [if_neg h3] at hn hs
          by_cases h4 : s = ifT
          · rw [if_pos h4] at hn hs
            have k1 : B (smV l 2 (i + 1)) ≠ -1 := fun e => hn (by rw [e]; exact ahd_neg hA)
            have k2 : smV l 2 (i + 1) ≠ -1 := fun e => k1 (by rw [e]; exact ahd_neg hA)
            exact Scn.iw h (Or.inl h4) k2 (hB _ k1 (hB _ hn hs))
          · rw [if_neg h4] at hn hs
            by_cases h5 : s = whT
            · rw [if_pos h5] at hn hs
              have k2 : smV l 2 (i + 1) ≠ -1 := fun e => hn (by rw [e]; exact ahd_neg hA)
              exact Scn.iw h (Or.inr h5) k2 (hB _ hn hs)
            · rw [if_neg h5] at hn; exact absurd rfl hn
theorem ble_scn {l : List Tk} {f : Int → Int} (hA : ∀ i, Ahd l i (f i)) (hf : Keeps l f) : ∀ n : Nat, Keeps l (blE l f n)
  | 0 => fun i hn _ => absurd rfl hn
  | n + 1 => fun i hn hs => by
    cases h : tkA l i with
    | none => rw [blE, h] at hn; exact absurd rfl hn
    | some s =>
      by_cases hb : s = [93]
      · have he : blE l f (n + 1) i = i + 1 := by rw [blE, h]; exact if_pos hb
        rw [he] at hs
        exact Scn.br h (Or.inr hb) hs
      · have he : blE l f (n + 1) i = blE l f n (f i) := by rw [blE, h]; exact if_neg hb
        rw [he] at hn hs
        have k1 : f i ≠ -1 := fun e => hn (by rw [e]; have := ble_ahd hA n (-1); unfold Ahd at this; omega)
        exact hf i k1 (ble_scn hA hf n _ hn hs)
theorem bls_scn {l : List Tk} {f : Int → Int} (hA : ∀ i, Ahd l i (f i)) (hf : Keeps l f) : Keeps l (blS l f) := by
  intro i hn hs
  by_cases h : tkA l i = some [91]
  · have he : blS l f i = blE l f (l.length + 1) (i + 1) := by unfold blS; rw [if_pos h]
    rw [he] at hn hs
    exact Scn.br h (Or.inl rfl) (ble_scn hA hf _ _ hn hs)
  · have he : blS l f i = -1 := by unfold blS; rw [if_neg h]
    exact absurd he hn
theorem ddE_scn (l : List Tk) : ∀ d : Nat, Keeps l (ddE l d)
  | 0 => dd_scn (fun _ => Or.inl rfl) (fun i hn _ => absurd rfl hn)
  | d + 1 => dd_scn (bls_ahd (ddE_ahd l d)) (bls_scn (ddE_ahd l d) (ddE_scn l d))
theorem dsE_scn (l : List Tk) : ∀ (n : Nat) (i : Int), dsE l n i = l.length → Scn l i
  | 0, i, h => by have : i = l.length := h; rw [this]; exact Scn.fin
  | n + 1, i, h => by
    by_cases hc : 0 ≤ i ∧ i < l.length
    · rw [dsE, if_pos hc] at h
      have hs := dsE_scn l n _ h
      refine ddE_scn l 5 i (fun e => ?_) hs
      rw [e] at h
      cases n with
      | zero => have : (-1 : Int) = l.length := h; omega
      | succ n => rw [dsE, if_neg (by omega)] at h; omega
    · rw [dsE, if_neg hc] at h
      rw [h]; exact Scn.fin
/-- A valid recipe is scanned from its beginning to its end. -/
theorem rcB_scn {l : List Tk} (h : rcB l = true) : Scn l 0 := by
  unfold rcB at h
  split at h
  · exact dsE_scn l _ _ (by simpa using h)
  · cases h
/-- Two recipes one after the other: statements go on where the first ends. -/
theorem rcB_len {l : List Tk} (h : rcB l = true) : l.length ≤ 120 := by
  unfold rcB at h
  split at h
  · assumption
  · cases h
/-- How many statements a scan from here on counts. -/
def cnD (l : List Tk) : Nat → Int → Int → Int
  | 0, _, c => c
  | n + 1, i, c => match tkA l i with
    | none => c
    | some s => if s = setT then cnD l n (edV l (i + 2)) (c + 1) else if s = cutT then cnD l n (i + 2) (c + 1) else if s = stopT then cnD l n (i + 1) (c + 1)
      else if s = ifT ∨ s = whT then cnD l n (edV l (i + 1)) (c + 1) else cnD l n (i + 1) c
/-- What DeedsIn gives. -/
def dnR (l : List Tk) : Int := if rcB l then cnD l (l.length + 1) 0 0 else -1
end Go.Proofs.YtkhmbmcomgclaaaDoor.Cl
