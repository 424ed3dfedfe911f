/-
  Recipes, plain: no token of a recipe has a blank; the text of a recipe is read as that recipe, an accepted text is its recipe's.
-/
import Derived.Test.YtkhmbmcomgclaaaGreatDoorLy
import Derived.Test.YtkhmbmcomgclaaaGreatDoorZa
import Derived.Test.YtkhmbmcomgclaaaGreatDoorZf
namespace Go.Proofs.YtkhmbmcomgclaaaGreatDoor.Cl
open Go.RowKit Wd Rp Kp
set_option linter.unusedVariables false
theorem dig_b32 {l : List UInt8} (h : l.all isDig = true) : (32 : UInt8) ∉ l := fun hm => by
  have := List.all_eq_true.1 h 32 hm
  revert this; decide
theorem itoa_b32 (n : Int) : (32 : UInt8) ∉ Lib.itoa n := by
  unfold Lib.itoa
  split
  · intro hm
    rcases List.mem_cons.1 hm with h | h
    · revert h; decide
    · exact dig_b32 (dec_is _ n.natAbs (Nat.le_refl _)).1 h
  · exact dig_b32 (dec_is _ n.toNat (Nat.le_refl _)).1
theorem nm_b32 {l : List UInt8} (h : nmB l = true) : (32 : UInt8) ∉ l := fun hm => by
  have := nm_low h 32 hm
  revert this; decide
theorem rd_b32 {t : List UInt8} (h : rdB t = true) : (32 : UInt8) ∉ t := by
  unfold rdB at h
  obtain ⟨x, hx⟩ := Option.isSome_iff_exists.1 h
  rw [← ((rd_iff t x).1 hx).2]
  exact itoa_b32 x
theorem op_b32 {s : Tk} (h : isO s = true) : (32 : UInt8) ∉ s := by
  unfold isO opN at h
  cases e : at? opsL s with
  | none => rw [e] at h; simp at h
  | some k =>
    have hm : s ∈ opsL := List.mem_of_getElem? (at?_lt e).2
    have key : ∀ t ∈ opsL, (32 : UInt8) ∉ t := by decide
    exact key s hm
theorem lf_b32 {s : Tk} (h : isL s = true) : (32 : UInt8) ∉ s := by
  unfold isL at h
  simp only [Bool.and_eq_true, Bool.or_eq_true, bne_iff_ne] at h
  rcases h.2 with h | h | h
  · unfold gvN at h
    cases e : at? gvsL s with
    | none => rw [e] at h; simp at h
    | some k =>
      have hm : s ∈ gvsL := List.mem_of_getElem? (at?_lt e).2
      have key : ∀ t ∈ gvsL, (32 : UInt8) ∉ t := by decide
      exact key s hm
  · exact nm_b32 h
  · exact rd_b32 h
theorem sum_b32 {l : List Tk} {kind i : Int} (h : smV l kind i ≠ -1) : ∀ (x : Int) (s : Tk), i ≤ x → x < smV l kind i → tkA l x = some s → (32 : UInt8) ∉ s := by
  intro x s h1 h2 hs
  obtain ⟨n, e, hv, n1, h0, hl, -⟩ := sm_parts h
  unfold enA at e
  rw [if_neg (by omega)] at e
  have ht := en_take e
  have hlen : ((l.drop i.toNat).take n).length = n := by rw [List.length_take, List.length_drop]; omega
  have hg : ((l.drop i.toNat).take n)[(x - i).toNat]? = some s := by
    rw [List.getElem?_take_of_lt (by omega), List.getElem?_drop, show i.toNat + (x - i).toNat = x.toNat by omega]
    exact (tkA_some hs).2.2
  have := (stk_two (fun _ => (0 : Nat)) (fun _ a _ => a) (l := (l.drop i.toNat).take n) (m := 1) (by rw [hlen]; exact ht)).2 _ s hg
  cases ho : isO s
  · exact lf_b32 (this.2 ho)
  · exact op_b32 ho
theorem scr_b32 {l : List Tk} {i : Int} {F : List Rc} (h : ScR l i F) : ∀ (x : Int) (s : Tk), i ≤ x → tkA l x = some s → (32 : UInt8) ∉ s := by
  have nm : ∀ (j : Int) (s : Tk), nmA l j = true → tkA l j = some s → (32 : UInt8) ∉ s := fun j s h e => by
    unfold nmA at h
    rw [e] at h
    exact nm_b32 h
  induction h with
  | fin => intro x s hx hs; have := tkA_some hs; omega
  | @br i t F h ht hr ih =>
    intro x s hx hs
    by_cases e : x = i
    · subst e; rw [h] at hs; cases hs; rcases ht with rfl | rfl <;> decide
    · exact ih x s (by omega) hs
  | @set i F h hm hn hr ih =>
    intro x s hx hs
    by_cases e : x = i
    · subst e; rw [h] at hs; cases hs; decide
    · by_cases e1 : x = i + 1
      · subst e1; exact nm _ _ hm hs
      · by_cases e2 : x < smV l 1 (i + 2)
        · exact sum_b32 hn x s (by omega) e2 hs
        · exact ih x s (by omega) hs
  | @cut i F h hm hr ih =>
    intro x s hx hs
    by_cases e : x = i
    · subst e; rw [h] at hs; cases hs; decide
    · by_cases e1 : x = i + 1
      · subst e1; exact nm _ _ hm hs
      · exact ih x s (by omega) hs
  | @stop i F h hr ih =>
    intro x s hx hs
    by_cases e : x = i
    · subst e; rw [h] at hs; cases hs; decide
    · exact ih x s (by omega) hs
  | @iw i t F h ht hn hr ih =>
    intro x s hx hs
    by_cases e : x = i
    · subst e; rw [h] at hs; cases hs; rcases ht with rfl | rfl <;> decide
    · by_cases e2 : x < smV l 2 (i + 1)
      · exact sum_b32 hn x s (by omega) e2 hs
      · exact ih x s (by omega) hs
theorem rc_b32 {l : List Tk} (h : rcB l = true) : ∀ s ∈ l, (32 : UInt8) ∉ s := fun s hs => by
  obtain ⟨k, hk, e⟩ := List.mem_iff_getElem.1 hs
  refine scr_b32 (rcB_scr h) (k : Int) s (by omega) ?_
  rw [tkA_nat, List.getElem?_eq_getElem hk, e]
theorem spl_joined (d : UInt8) : ∀ l : List Tk, l ≠ [] → (∀ s ∈ l, d ∉ s) → spl d (joined d l) = l
  | [], h, _ => absurd rfl h
  | [a], _, h => spl_none (h a (by simp))
  | a :: b :: r, _, h => by
    rw [joined_cons d a (by simp), spl_app (h a (by simp)), spl_joined d (b :: r) (by simp) fun s hs => h s (List.mem_cons_of_mem _ hs)]
theorem joined_nil_iff {l : List Tk} (h : rcB l = true) : joined 32 l = [] → l = [] := by
  intro e
  cases l with
  | nil => rfl
  | cons a r =>
    exfalso
    have ha : a = [] ∧ r = [] := by
      cases r with
      | nil => exact ⟨e, rfl⟩
      | cons b r => rw [joined_cons 32 a (by simp)] at e; simp at e
    obtain ⟨rfl, rfl⟩ := ha
    revert h
    decide
/-- The text of a recipe is read as that recipe. -/
theorem rd_sh {l : List Tk} (h : rcB l = true) : rdR (shR l) = (l, true) := by
  unfold shR
  rw [if_pos h]
  unfold rdR
  by_cases e : joined 32 l = []
  · rw [if_pos e, joined_nil_iff h e]
  · have hne : l ≠ [] := fun g => e (by rw [g]; rfl)
    rw [if_neg e, spl_joined 32 l hne (rc_b32 h), if_pos h]
theorem rcB_nil : rcB [] = true := by decide
/-- An accepted text is its recipe's. -/
theorem sh_rd {t : Tk} (h : (rdR t).2 = true) : shR (rdR t).1 = t := by
  unfold rdR at h ⊢
  split
  · rename_i e
    show shR [] = t
    unfold shR
    rw [if_pos rcB_nil, e]; rfl
  · rename_i e
    rw [if_neg e] at h
    split
    · rename_i g
      show shR (spl 32 t) = t
      unfold shR
      rw [if_pos g, joined_spl]
    · rename_i g
      rw [if_neg g] at h
      cases h
theorem sh_no {l : List Tk} (h : rcB l = false) : shR l = [] := by unfold shR; rw [h]; rfl
end Go.Proofs.YtkhmbmcomgclaaaGreatDoor.Cl
