/-
  Recipes, plain: where a statement ends ('ddE', brackets so deep), where a block ends ('blS'), recipes ('rcB').
-/
import Derived.Test.YtkhmbmcomgclaaaDoorYa
namespace Go.Proofs.YtkhmbmcomgclaaaDoor.Cl
open Go.RowKit Wd Rp Kp
set_option linter.unusedVariables false
/-- The token at a place. -/
def tkA (l : List Tk) (i : Int) : Option Tk := if i < 0 then none else l[i.toNat]?
theorem tkA_nat (l : List Tk) (k : Nat) : tkA l (k : Int) = l[k]? := by unfold tkA; rw [if_neg (by omega)]; rfl
theorem tkA_neg {l : List Tk} {i : Int} (h : i < 0) : tkA l i = none := by unfold tkA; rw [if_pos h]
theorem tkA_out {l : List Tk} {i : Int} (h : (l.length : Int) ≤ i) : tkA l i = none := by
  unfold tkA
  rw [if_neg (by omega)]
  exact List.getElem?_eq_none (by omega)
theorem tkA_some {l : List Tk} {i : Int} {s : Tk} (h : tkA l i = some s) : 0 ≤ i ∧ i < l.length ∧ l[i.toNat]? = some s := by
  unfold tkA at h
  split at h
  · cases h
  · have := (List.getElem?_eq_some_iff.1 h).1
    exact ⟨by omega, by omega, h⟩
/-- A name at a place. -/
def nmA (l : List Tk) (i : Int) : Bool := match tkA l i with | some s => nmB s | none => false
/-- Where the expression of a kind at a place ends, not too deep. -/
def smV (l : List Tk) (kind i : Int) : Int := if edV l i < 0 ∨ kdV l i ≠ kind ∨ 5 < dpV l i then -1 else edV l i
def setT : Tk := [115, 101, 116]
def cutT : Tk := [99, 117, 116]
def stopT : Tk := [115, 116, 111, 112]
def ifT : Tk := [105, 102]
def whT : Tk := [119, 104, 105, 108, 101]
/-- Where the statement at a place ends, B being where a block ends. -/
def ddG (l : List Tk) (B : Int → Int) (i : Int) : Int := match tkA l i with
  | none => -1
  | some s => if s = setT then (if nmA l (i + 1) then smV l 1 (i + 2) else -1) else if s = cutT then (if nmA l (i + 1) then i + 2 else -1) else if s = stopT then i + 1
    else if s = ifT then B (B (smV l 2 (i + 1))) else if s = whT then B (smV l 2 (i + 1)) else -1
/-- Statements up to ], at most n. -/
def blE (l : List Tk) (f : Int → Int) : Nat → Int → Int
  | 0, _ => -1
  | n + 1, i => match tkA l i with | none => -1 | some s => if s = [93] then i + 1 else blE l f n (f i)
def blS (l : List Tk) (f : Int → Int) (i : Int) : Int := if tkA l i = some [91] then blE l f (l.length + 1) (i + 1) else -1
def ddE (l : List Tk) : Nat → Int → Int
  | 0 => ddG l (fun _ => -1)
  | d + 1 => ddG l (blS l (ddE l d))
/-- -1 or a place behind, in the list. -/
def Ahd (l : List Tk) (i r : Int) : Prop := r = -1 ∨ (0 ≤ i ∧ i < r ∧ r ≤ l.length)
theorem Ahd.trans {l : List Tk} {i j r : Int} (h : Ahd l i j) (k : Ahd l j r) : Ahd l i r := by unfold Ahd at *; omega
theorem ed_ahd (l : List Tk) (i : Int) : Ahd l i (edV l i) := by
  unfold edV
  cases h : enA l i with
  | none => exact Or.inl rfl
  | some n =>
    right
    unfold enA at h
    split at h
    · cases h
    · have h1 := en_le h
      have h2 := en_pos h
      rw [List.length_drop] at h1
      show 0 ≤ i ∧ i < i + (n : Int) ∧ i + (n : Int) ≤ l.length
      omega
theorem sm_ahd (l : List Tk) (kind i : Int) : Ahd l i (smV l kind i) := by
  unfold smV
  split
  · exact Or.inl rfl
  · exact ed_ahd l i
theorem dd_ahd {l : List Tk} {B : Int → Int} (hB : ∀ i, Ahd l i (B i)) (i : Int) : Ahd l i (ddG l B i) := by
  unfold ddG
  cases h : tkA l i with
  | none => exact Or.inl rfl
  | some s =>
    obtain ⟨h0, h1, -⟩ := tkA_some h
    dsimp only
    split
    · split
      · have := sm_ahd l 1 (i + 2)
        unfold Ahd at *; omega
      · exact Or.inl rfl
    · split
      · split
        · rename_i hn
          unfold nmA at hn
          cases h2 : tkA l (i + 1) with
          | none => rw [h2] at hn; cases hn
          | some t => have := tkA_some h2; right; omega
        · exact Or.inl rfl
      · split
        · right; omega
        · split
          · have h2 := sm_ahd l 2 (i + 1)
            have h3 := (h2.trans (hB _)).trans (hB _)
            unfold Ahd at *; omega
          · split
            · have h2 := sm_ahd l 2 (i + 1)
              have h3 := h2.trans (hB _)
              unfold Ahd at *; omega
            · exact Or.inl rfl
theorem ble_ahd {l : List Tk} {f : Int → Int} (hf : ∀ i, Ahd l i (f i)) : ∀ (n : Nat) (i : Int), Ahd l i (blE l f n i)
  | 0, i => Or.inl rfl
  | n + 1, i => by
    unfold blE
    cases h : tkA l i with
    | none => exact Or.inl rfl
    | some s =>
      obtain ⟨h0, h1, -⟩ := tkA_some h
      dsimp only
      split
      · right; omega
      · exact (hf i).trans (ble_ahd hf n _)
theorem bls_ahd {l : List Tk} {f : Int → Int} (hf : ∀ i, Ahd l i (f i)) (i : Int) : Ahd l i (blS l f i) := by
  unfold blS
  split
  · rename_i h
    have := tkA_some h
    have := ble_ahd hf (l.length + 1) (i + 1)
    unfold Ahd at *; omega
  · exact Or.inl rfl
theorem ddE_ahd (l : List Tk) : ∀ (d : Nat) (i : Int), Ahd l i (ddE l d i)
  | 0, i => dd_ahd (fun _ => Or.inl rfl) i
  | d + 1, i => dd_ahd (bls_ahd (ddE_ahd l d)) i
/-- Where statements one behind the other lead, at most n of them, while none fails and the end is not reached. -/
def dsE (l : List Tk) : Nat → Int → Int
  | 0, i => i
  | n + 1, i => if 0 ≤ i ∧ i < l.length then dsE l n (ddE l 5 i) else i
/-- A recipe. -/
def rcB (l : List Tk) : Bool := if l.length ≤ 120 then decide (dsE l l.length 0 = l.length) else false
end Go.Proofs.YtkhmbmcomgclaaaDoor.Cl
