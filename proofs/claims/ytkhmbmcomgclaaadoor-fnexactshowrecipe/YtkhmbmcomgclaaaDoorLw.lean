/-
  Recipes, plain: what is read of each statement ('ddR': its name, the tokens of its expression), in the order of a scan.
-/
import Derived.Test.YtkhmbmcomgclaaaDoorLp
import Derived.Test.YtkhmbmcomgclaaaDoorLk
namespace Go.Proofs.YtkhmbmcomgclaaaDoor.Cl
open Go.RowKit Wd Rp Kp
set_option linter.unusedVariables false
/-- What is read of a statement: the name behind its head, the tokens of its expression; empty where it has none. -/
abbrev Rc := Tk × List Tk
def tkN (l : List Tk) (i : Int) : Tk := (tkA l i).getD []
def smT (l : List Tk) (i : Int) : List Tk := match enA l i with | some n => (l.drop i.toNat).take n | none => []
def ddQ (l : List Tk) (B : Int → Int) (R : Int → List Rc) (i : Int) : List Rc := match tkA l i with
  | none => []
  | some s => if s = setT then [(tkN l (i + 1), smT l (i + 2))] else if s = cutT then [(tkN l (i + 1), [])] else if s = stopT then [([], [])]
    else if s = ifT then ([], smT l (i + 1)) :: (R (smV l 2 (i + 1)) ++ R (B (smV l 2 (i + 1)))) else if s = whT then ([], smT l (i + 1)) :: R (smV l 2 (i + 1)) else []
/-- Statements up to ] or to the end: where they lead, what is read of them. -/
def dlE (l : List Tk) (f : Int → Int) : Nat → Int → Int
  | 0, i => i
  | n + 1, i => match tkA l i with | none => i | some s => if s = [93] then i else dlE l f n (f i)
def dlR (l : List Tk) (f : Int → Int) (R : Int → List Rc) : Nat → Int → List Rc
  | 0, _ => []
  | n + 1, i => match tkA l i with | none => [] | some s => if s = [93] then [] else R i ++ dlR l f R n (f i)
def blR (l : List Tk) (f : Int → Int) (R : Int → List Rc) (i : Int) : List Rc := dlR l f R (l.length + 1) (i + 1)
def ddR (l : List Tk) : Nat → Int → List Rc
  | 0 => ddQ l (fun _ => -1) (fun _ => [])
  | d + 1 => ddQ l (blS l (ddE l d)) (blR l (ddE l d) (ddR l d))
/-- All that is read of a recipe. -/
def rcR (l : List Tk) : List Rc := dlR l (ddE l 5) (ddR l 5) (l.length + 1) 0
theorem ble_neg (l : List Tk) (f : Int → Int) (n : Nat) {i : Int} (h : i < 0) : blE l f n i = -1 := by
  cases n with
  | zero => rfl
  | succ n => rw [blE, tkA_neg h]
theorem dlE_neg (l : List Tk) (f : Int → Int) (n : Nat) {i : Int} (h : i < 0) : dlE l f n i = i := by
  cases n with
  | zero => rfl
  | succ n => rw [dlE, tkA_neg h]
/-- A block ends behind the ] to which its statements lead. -/
theorem ble_dl {l : List Tk} {f : Int → Int} (hf : ∀ i, Ahd l i (f i)) : ∀ (n : Nat) (i : Int), (i < 0 ∨ (l.length : Int) - i < n) → blE l f n i = if tkA l (dlE l f n i) = some [93] then dlE l f n i + 1 else -1
  | 0, i, h => by
    have e1 : blE l f 0 i = -1 := rfl
    have e2 : dlE l f 0 i = i := rfl
    rw [e1, e2]
    cases e : tkA l i with
    | none => simp
    | some s => have := tkA_some e; omega
  | n + 1, i, h => by
    cases e : tkA l i with
    | none =>
      have e1 : blE l f (n + 1) i = -1 := by rw [blE, e]
      have e2 : dlE l f (n + 1) i = i := by rw [dlE, e]
      rw [e1, e2, e]; simp
    | some s =>
      by_cases hs : s = [93]
      · have e1 : blE l f (n + 1) i = i + 1 := by rw [blE, e]; exact if_pos hs
        have e2 : dlE l f (n + 1) i = i := by rw [dlE, e]; exact if_pos hs
        rw [e1, e2, e, hs, if_pos rfl]
      · have e1 : blE l f (n + 1) i = blE l f n (f i) := by rw [blE, e]; exact if_neg hs
        have e2 : dlE l f (n + 1) i = dlE l f n (f i) := by rw [dlE, e]; exact if_neg hs
        rw [e1, e2]
        have := tkA_some e
        have := hf i
        unfold Ahd at this
        exact ble_dl hf n (f i) (by omega)
/-- A list is a recipe if its statements lead to its end. -/
theorem dsE_dl (l : List Tk) : ∀ (n : Nat) (i : Int), (i < 0 ∨ (l.length : Int) - i ≤ n) → ∀ m : Nat, n ≤ m → (dsE l n i = l.length ↔ dlE l (ddE l 5) m i = l.length)
  | 0, i, h, m, _ => by
    have e : dsE l 0 i = i := rfl
    rw [e]
    have : dlE l (ddE l 5) m i = i := by
      cases m with
      | zero => rfl
      | succ m =>
        rw [dlE]
        cases e : tkA l i with
        | none => rfl
        | some s => have := tkA_some e; omega
    rw [this]
  | n + 1, i, h, m, hm => by
    obtain ⟨m, rfl⟩ : ∃ k, m = k + 1 := ⟨m - 1, by omega⟩
    by_cases hi : 0 ≤ i ∧ i < l.length
    · rw [dsE, if_pos hi]
      obtain ⟨s, hs⟩ : ∃ s, tkA l i = some s := by
        unfold tkA
        rw [if_neg (by omega)]
        exact ⟨l[i.toNat]'(by omega), List.getElem?_eq_getElem _⟩
      by_cases hb : s = [93]
      · have e1 : ddE l 5 i = -1 := by
          show ddG l _ i = -1
          unfold ddG
          rw [hs, hb]
          simp [setT, cutT, stopT, ifT, whT]
        have e2 : dlE l (ddE l 5) (m + 1) i = i := by rw [dlE, hs]; exact if_pos hb
        rw [e1, e2, dsE_out (Or.inl (by omega))]
        omega
      · have e2 : dlE l (ddE l 5) (m + 1) i = dlE l (ddE l 5) m (ddE l 5 i) := by rw [dlE, hs]; exact if_neg hb
        rw [e2]
        have := ddE_ahd l 5 i
        unfold Ahd at this
        exact dsE_dl l n (ddE l 5 i) (by omega) m (by omega)
    · rw [dsE, if_neg hi]
      have : dlE l (ddE l 5) (m + 1) i = i := by
        rw [dlE]
        cases e : tkA l i with
        | none => rfl
        | some s => have := tkA_some e; omega
      rw [this]
theorem rcB_dl (l : List Tk) : rcB l = (decide (l.length ≤ 120) && decide (dlE l (ddE l 5) (l.length + 1) 0 = l.length)) := by
  unfold rcB
  split
  · rename_i h
    rw [decide_eq_true h, Bool.true_and]
    exact decide_eq_decide.2 (dsE_dl l l.length 0 (by omega) _ (by omega))
  · rename_i h
    rw [decide_eq_false h, Bool.false_and]
theorem ddQ_some {l : List Tk} {B : Int → Int} {R : Int → List Rc} {i : Int} {s : Tk} (h : tkA l i = some s) : ddQ l B R i = if s = setT then [(tkN l (i + 1), smT l (i + 2))] else if s = cutT then [(tkN l (i + 1), [])] else if s = stopT then [([], [])]
    else if s = ifT then ([], smT l (i + 1)) :: (R (smV l 2 (i + 1)) ++ R (B (smV l 2 (i + 1)))) else if s = whT then ([], smT l (i + 1)) :: R (smV l 2 (i + 1)) else [] := by unfold ddQ; rw [h]
theorem foV_agr {R : Type} (f : Tk → R) (g : Nat → R → R → R) (z : R) {l m : List Tk} {i j : Int} {n : Nat} (h : enA l i = some n) (h2 : enA m j = some n) (hp : (m.drop j.toNat).take n = (l.drop i.toNat).take n) : foV f g z m j = foV f g z l i := by
  unfold foV
  rw [h, h2]
  dsimp only
  rw [hp]
theorem nmB_nil : nmB [] = false := by decide
end Go.Proofs.YtkhmbmcomgclaaaDoor.Cl
