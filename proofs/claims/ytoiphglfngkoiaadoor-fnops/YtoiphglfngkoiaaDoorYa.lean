/-
  Expressions, plain: signs of tokens, where an expression ends ('en'), trees ('Su'), what is folded of one from its last token on ('stk'); kinds, depths, values.
-/
import Derived.Test.YtoiphglfngkoiaaDoorJa
import Derived.Test.YtoiphglfngkoiaaDoorNm
import Derived.Test.YtoiphglfngkoiaaDoorDe
namespace Go.Proofs.YtoiphglfngkoiaaDoor.Cl
open Go.RowKit Wd Rp Kp
set_option linter.unusedVariables false
abbrev Tk := List UInt8
/-- The first place. -/
def at? : List Tk → Tk → Option Nat
  | [], _ => none
  | x :: r, s => if x = s then some 0 else (at? r s).map (· + 1)
theorem at?_at {s : Tk} : ∀ {l : List Tk} {k : Nat}, l[k]? = some s → (∀ (j : Nat) (y : Tk), j < k → l[j]? = some y → y ≠ s) → at? l s = some k
  | [], k, h, _ => by simp at h
  | x :: r, 0, h, _ => by simp at h; simp [at?, h]
  | x :: r, k + 1, h, hn => by
    have h1 := hn 0 x (by omega) rfl
    rw [at?, if_neg h1, at?_at (l := r) (by simpa using h) (fun j y hj hy => hn (j + 1) y (by omega) (by simpa using hy))]; rfl
theorem at?_none {s : Tk} : ∀ {l : List Tk}, (∀ (j : Nat) (y : Tk), l[j]? = some y → y ≠ s) → at? l s = none
  | [], _ => rfl
  | x :: r, h => by
    rw [at?, if_neg (h 0 x rfl), at?_none (l := r) (fun j y hy => h (j + 1) y (by simpa using hy))]; rfl
theorem at?_lt {s : Tk} : ∀ {l : List Tk} {k : Nat}, at? l s = some k → k < l.length ∧ l[k]? = some s
  | [], k, h => by simp [at?] at h
  | x :: r, k, h => by
    rw [at?] at h
    split at h
    · rename_i e; cases h; simp [e]
    · cases e : at? r s with
      | none => rw [e] at h; cases h
      | some j => rw [e] at h; cases h; have := at?_lt e; simp; exact this
def atI (l : List Tk) (s : Tk) : Int := match at? l s with | some k => k | none => -1
def opsL : List Tk := [[43], [45], [42], [47], [60], [61], [38]]
def gvsL : List Tk := [[64, 48], [64, 49], [64, 50]]
/-- The operator of a token, 0: none. -/
def opN (s : Tk) : Nat := match at? opsL s with | some k => k + 1 | none => 0
/-- Which of the given and 1, 0: none. -/
def gvN (s : Tk) : Nat := match at? gvsL s with | some k => k + 1 | none => 0
theorem opN_I (s : Tk) : atI opsL s + 1 = (opN s : Nat) := by unfold atI opN; cases at? opsL s <;> simp
theorem gvN_I (s : Tk) : atI gvsL s + 1 = (gvN s : Nat) := by unfold atI gvN; cases at? gvsL s <;> simp
theorem opN_le (s : Tk) : opN s ≤ 7 := by
  unfold opN
  cases h : at? opsL s with
  | none => exact Nat.zero_le _
  | some k => have := (at?_lt h).1; simp [opsL] at this; show k + 1 ≤ 7; omega
theorem gvN_le (s : Tk) : gvN s ≤ 3 := by
  unfold gvN
  cases h : at? gvsL s with
  | none => exact Nat.zero_le _
  | some k => have := (at?_lt h).1; simp [gvsL] at this; show k + 1 ≤ 3; omega
theorem gv_op {s : Tk} (h : gvN s ≠ 0) : opN s = 0 := by
  unfold gvN at h
  cases e : at? gvsL s with
  | none => rw [e] at h; exact absurd rfl h
  | some k =>
    obtain ⟨h1, h2⟩ := at?_lt e
    have : k = 0 ∨ k = 1 ∨ k = 2 := by simp [gvsL] at h1; omega
    rcases this with rfl | rfl | rfl <;> (simp [gvsL] at h2; subst h2; decide)
def isO (s : Tk) : Bool := opN s != 0
/-- A token that is an expression. -/
def isL (s : Tk) : Bool := opN s == 0 && (gvN s != 0 || (nmB s || rdB s))
theorem isL_O {s : Tk} (h : isL s = true) : isO s = false := by
  unfold isL at h; unfold isO
  simp only [Bool.and_eq_true, beq_iff_eq] at h
  simp [h.1]
/-- How many tokens m expressions take. -/
def en : List Tk → Nat → Option Nat
  | [], m => if m = 0 then some 0 else none
  | s :: l, m => match m with
    | 0 => some 0
    | m + 1 => if isO s then (en l (m + 2)).map (· + 1) else if isL s then (en l m).map (· + 1) else none
theorem en_zero (l : List Tk) : en l 0 = some 0 := by cases l <;> simp [en]
theorem en_nil (m : Nat) : en [] (m + 1) = none := by simp [en]
theorem en_op {s : Tk} (h : isO s = true) (l : List Tk) (m : Nat) : en (s :: l) (m + 1) = (en l (m + 2)).map (· + 1) := by simp [en, h]
theorem en_leaf {s : Tk} (h : isL s = true) (l : List Tk) (m : Nat) : en (s :: l) (m + 1) = (en l m).map (· + 1) := by simp [en, h, isL_O h]
theorem en_bad {s : Tk} (h : isO s = false) (h2 : isL s = false) (l : List Tk) (m : Nat) : en (s :: l) (m + 1) = none := by simp [en, h, h2]
theorem en_le : ∀ {l : List Tk} {m n : Nat}, en l m = some n → n ≤ l.length
  | [], m, n, h => by
    unfold en at h; split at h
    · cases h; exact Nat.le_refl _
    · cases h
  | s :: l, 0, n, h => by rw [en_zero] at h; cases h; exact Nat.zero_le _
  | s :: l, m + 1, n, h => by
    cases ho : isO s
    · cases hl : isL s
      · rw [en_bad ho hl] at h; cases h
      · rw [en_leaf hl] at h
        cases e : en l m with
        | none => rw [e] at h; cases h
        | some k => rw [e] at h; cases h; have := en_le e; simp; exact this
    · rw [en_op ho] at h
      cases e : en l (m + 2) with
      | none => rw [e] at h; cases h
      | some k => rw [e] at h; cases h; have := en_le e; simp; exact this
theorem en_pos {l : List Tk} {m n : Nat} (h : en l (m + 1) = some n) : 1 ≤ n := by
  cases l with
  | nil => rw [en_nil] at h; cases h
  | cons s l =>
    cases ho : isO s
    · cases hl : isL s
      · rw [en_bad ho hl] at h; cases h
      · rw [en_leaf hl] at h
        cases e : en l m with
        | none => rw [e] at h; cases h
        | some k => rw [e] at h; cases h; simp
    · rw [en_op ho] at h
      cases e : en l (m + 2) with
      | none => rw [e] at h; cases h
      | some k => rw [e] at h; cases h; simp
theorem en_app : ∀ {l : List Tk} {m n : Nat} (r : List Tk), en l m = some n → en (l ++ r) m = some n
  | [], m, n, r, h => by
    unfold en at h; split at h
    · rename_i e; subst e; cases h; exact en_zero _
    · cases h
  | s :: l, 0, n, r, h => by rw [en_zero] at h ⊢; exact h
  | s :: l, m + 1, n, r, h => by
    rw [List.cons_append]
    cases ho : isO s
    · cases hl : isL s
      · rw [en_bad ho hl] at h; cases h
      · rw [en_leaf hl] at h ⊢
        cases e : en l m with
        | none => rw [e] at h; cases h
        | some k => rw [e] at h; cases h; rw [en_app r e]; rfl
    · rw [en_op ho] at h ⊢
      cases e : en l (m + 2) with
      | none => rw [e] at h; cases h
      | some k => rw [e] at h; cases h; rw [en_app r e]; rfl
theorem en_cut : ∀ {l : List Tk} {m n : Nat} (k : Nat), en l m = some n → k < n → en (l.take k) m = none
  | [], m, n, k, h, hk => by
    unfold en at h; split at h
    · cases h; omega
    · cases h
  | s :: l, 0, n, k, h, hk => by rw [en_zero] at h; cases h; omega
  | s :: l, m + 1, n, 0, h, hk => by rw [List.take_zero, en_nil]
  | s :: l, m + 1, n, k + 1, h, hk => by
    rw [List.take_succ_cons]
    cases ho : isO s
    · cases hl : isL s
      · rw [en_bad ho hl]
      · rw [en_leaf hl] at h ⊢
        cases e : en l m with
        | none => rw [e] at h; cases h
        | some j => rw [e] at h; simp at h; subst h; rw [en_cut k e (by omega)]; rfl
    · rw [en_op ho] at h ⊢
      cases e : en l (m + 2) with
      | none => rw [e] at h; cases h
      | some j => rw [e] at h; simp at h; subst h; rw [en_cut k e (by omega)]; rfl
theorem en_take {l : List Tk} {m n : Nat} (h : en l m = some n) : en (l.take n) m = some n := by
  cases e : en (l.take n) m with
  | none =>
    exfalso
    -- what stands behind does not matter
    have key : ∀ (l : List Tk) (m n : Nat), en l m = some n → en (l.take n) m ≠ none := by
      intro l
      induction l with
      | nil => intro m n h; rw [List.take_nil, h]; simp
      | cons s l ih =>
        intro m n h
        cases m with
        | zero => rw [en_zero]; simp
        | succ m =>
          cases ho : isO s
          · cases hl : isL s
            · rw [en_bad ho hl] at h; cases h
            · rw [en_leaf hl] at h
              cases e : en l m with
              | none => rw [e] at h; cases h
              | some k => rw [e] at h; cases h; rw [List.take_succ_cons, en_leaf hl]; have := ih m k e; cases e2 : en (l.take k) m with
                | none => exact absurd e2 this
                | some _ => simp
          · rw [en_op ho] at h
            cases e : en l (m + 2) with
            | none => rw [e] at h; cases h
            | some k => rw [e] at h; cases h; rw [List.take_succ_cons, en_op ho]; have := ih (m + 2) k e; cases e2 : en (l.take k) (m + 2) with
              | none => exact absurd e2 this
              | some _ => simp
    exact key l m n h e
  | some k =>
    have := en_app (l.drop n) e
    rw [List.take_append_drop] at this
    rw [this] at h; exact h
/-- An expression. -/
inductive Su where
  | one (s : Tk)
  | two (s : Tk) (a b : Su)
def Su.fl : Su → List Tk
  | .one s => [s]
  | .two s a b => s :: (a.fl ++ b.fl)
def Su.ok : Su → Prop
  | .one s => isL s = true
  | .two s a b => isO s = true ∧ a.ok ∧ b.ok
def Su.fo {R : Type} (f : Tk → R) (g : Nat → R → R → R) : Su → R
  | .one s => f s
  | .two s a b => g (opN s) (a.fo f g) (b.fo f g)
theorem Su.pos : ∀ u : Su, 1 ≤ u.fl.length
  | .one s => by simp [Su.fl]
  | .two s a b => by simp [Su.fl]
/-- Folded from the last token on: what is folded of the expressions, the first one first. -/
def stk {R : Type} (f : Tk → R) (g : Nat → R → R → R) : List Tk → List R
  | [] => []
  | s :: l => if isO s then (match stk f g l with | a :: b :: r => g (opN s) a b :: r | r => r) else f s :: stk f g l
theorem stk_leaf {R : Type} {f : Tk → R} {g : Nat → R → R → R} {s : Tk} (h : isO s = false) (l : List Tk) : stk f g (s :: l) = f s :: stk f g l := by simp [stk, h]
theorem stk_op {R : Type} {f : Tk → R} {g : Nat → R → R → R} {s : Tk} (h : isO s = true) {l : List Tk} {a b : R} {r : List R} (e : stk f g l = a :: b :: r) : stk f g (s :: l) = g (opN s) a b :: r := by simp [stk, h, e]
theorem stk_fl {R : Type} (f : Tk → R) (g : Nat → R → R → R) : ∀ (u : Su), u.ok → ∀ r, stk f g (u.fl ++ r) = u.fo f g :: stk f g r
  | .one s, h, r => by rw [Su.fl, List.cons_append, List.nil_append, stk_leaf (isL_O h)]; rfl
  | .two s a b, h, r => by
    rw [Su.fl, List.cons_append, List.append_assoc]
    rw [stk_op h.1 (by rw [stk_fl f g a h.2.1, stk_fl f g b h.2.2])]; rfl
theorem en_fl : ∀ (u : Su), u.ok → ∀ (m : Nat) (r : List Tk), en (u.fl ++ r) (m + 1) = (en r m).map (· + u.fl.length)
  | .one s, h, m, r => by rw [Su.fl, List.cons_append, List.nil_append, en_leaf h]; rfl
  | .two s a b, h, m, r => by
    rw [Su.fl, List.cons_append, List.append_assoc, en_op h.1, en_fl a h.2.1, en_fl b h.2.2]
    cases en r m with
    | none => rfl
    | some k => simp; omega
theorem en_forest : ∀ {l : List Tk} {m n : Nat}, en l m = some n → ∃ us : List Su, us.length = m ∧ (∀ u ∈ us, u.ok) ∧ us.flatMap Su.fl = l.take n
  | [], m, n, h => by
    unfold en at h; split at h
    · rename_i e; subst e; cases h; exact ⟨[], rfl, (fun _ h => by cases h), rfl⟩
    · cases h
  | s :: l, 0, n, h => by rw [en_zero] at h; cases h; exact ⟨[], rfl, (fun _ h => by cases h), rfl⟩
  | s :: l, m + 1, n, h => by
    cases ho : isO s
    · cases hl : isL s
      · rw [en_bad ho hl] at h; cases h
      · rw [en_leaf hl] at h
        cases e : en l m with
        | none => rw [e] at h; cases h
        | some k =>
          rw [e] at h; cases h
          obtain ⟨us, h1, h2, h3⟩ := en_forest e
          refine ⟨.one s :: us, by simp [h1], fun u hu => ?_, by rw [List.flatMap_cons, h3]; rfl⟩
          rcases List.mem_cons.1 hu with rfl | hu
          · exact hl
          · exact h2 u hu
    · rw [en_op ho] at h
      cases e : en l (m + 2) with
      | none => rw [e] at h; cases h
      | some k =>
        rw [e] at h; cases h
        obtain ⟨us, h1, h2, h3⟩ := en_forest e
        match us, h1, h2, h3 with
        | a :: b :: r, h1, h2, h3 =>
          refine ⟨.two s a b :: r, by simpa using h1, fun u hu => ?_, ?_⟩
          · rcases List.mem_cons.1 hu with rfl | hu
            · exact ⟨ho, h2 a (by simp), h2 b (by simp)⟩
            · exact h2 u (by simp [hu])
          · rw [List.take_succ_cons, ← h3, List.flatMap_cons, List.flatMap_cons, List.flatMap_cons, Su.fl, List.cons_append, List.append_assoc]
theorem en_tree {l : List Tk} {n : Nat} (h : en l 1 = some n) : ∃ u : Su, u.ok ∧ u.fl = l.take n ∧ u.fl.length = n := by
  obtain ⟨us, h1, h2, h3⟩ := en_forest h
  match us, h1, h2, h3 with
  | [u], h1, h2, h3 =>
    refine ⟨u, h2 u (by simp), by simpa using h3, ?_⟩
    have := en_le h
    have e : u.fl = l.take n := by simpa using h3
    rw [e, List.length_take]; omega
/-- In tokens that are so many expressions, each operator finds two behind it. -/
theorem stk_two {R : Type} (f : Tk → R) (g : Nat → R → R → R) : ∀ {l : List Tk} {m : Nat}, en l m = some l.length → (stk f g l).length = m ∧ ∀ (i : Nat) (s : Tk), l[i]? = some s → (isO s = true → ∃ a b r, stk f g (l.drop (i + 1)) = a :: b :: r) ∧ (isO s = false → isL s = true)
  | [], m, h => by
    unfold en at h; split at h
    · rename_i e; subst e; exact ⟨rfl, fun i s h => by simp at h⟩
    · cases h
  | s :: l, 0, h => by rw [en_zero] at h; simp at h
  | s :: l, m + 1, h => by
    cases ho : isO s
    · cases hl : isL s
      · rw [en_bad ho hl] at h; cases h
      · rw [en_leaf hl] at h
        cases e : en l m with
        | none => rw [e] at h; cases h
        | some k =>
          rw [e] at h; simp at h; subst h
          obtain ⟨h1, h2⟩ := stk_two f g e
          refine ⟨by rw [stk_leaf ho]; simp [h1], fun i t ht => ?_⟩
          cases i with
          | zero => simp at ht; subst ht; exact ⟨(fun e => by rw [ho] at e; cases e), fun _ => hl⟩
          | succ i => exact h2 i t (by simpa using ht)
    · rw [en_op ho] at h
      cases e : en l (m + 2) with
      | none => rw [e] at h; cases h
      | some k =>
        rw [e] at h; simp at h; subst h
        obtain ⟨h1, h2⟩ := stk_two f g e
        obtain ⟨a, b, r, e3⟩ : ∃ a b r, stk f g l = a :: b :: r := by
          match hs : stk f g l, h1 with
          | a :: b :: r, _ => exact ⟨a, b, r, rfl⟩
        refine ⟨?_, fun i t ht => ?_⟩
        · rw [stk_op ho e3]; rw [e3] at h1; simpa using h1
        · cases i with
          | zero => simp at ht; subst ht; exact ⟨fun _ => ⟨a, b, r, e3⟩, fun e => by rw [ho] at e; cases e⟩
          | succ i => exact h2 i t (by simpa using ht)
theorem stk_len {R : Type} (f : Tk → R) (g : Nat → R → R → R) : ∀ l : List Tk, (stk f g l).length ≤ l.length
  | [] => Nat.le_refl _
  | s :: l => by
    have ih := stk_len f g l
    unfold stk
    split
    · split
      · rename_i e; rw [e] at ih; simp at ih ⊢; omega
      · simp; omega
    · simp; exact ih
/-- How many tokens the expression at a place takes. -/
def enA (l : List Tk) (at_ : Int) : Option Nat := if at_ < 0 then none else en (l.drop at_.toNat) 1
def edV (l : List Tk) (at_ : Int) : Int := match enA l at_ with | some n => at_ + n | none => -1
theorem enA_neg {l : List Tk} {i : Int} (h : i < 0) : enA l i = none := by unfold enA; rw [if_pos h]
theorem enA_nat (l : List Tk) (k : Nat) : enA l (k : Int) = en (l.drop k) 1 := by unfold enA; rw [if_neg (by omega)]; rfl
theorem enA_out {l : List Tk} {k : Nat} (h : l.length ≤ k) : enA l (k : Int) = none := by rw [enA_nat, List.drop_eq_nil_of_le h, en_nil]
/-- What is folded of the expression at a place. -/
def foV {R : Type} (f : Tk → R) (g : Nat → R → R → R) (z : R) (l : List Tk) (i : Int) : R := match enA l i with | some n => (stk f g ((l.drop i.toNat).take n)).headD z | none => z
theorem foV_tree {R : Type} (f : Tk → R) (g : Nat → R → R → R) (z : R) {l : List Tk} {i : Int} {n : Nat} (h : enA l i = some n) : ∃ u : Su, u.ok ∧ 0 ≤ i ∧ u.fl.length = n ∧ l.drop i.toNat = u.fl ++ l.drop (i.toNat + n) ∧ foV f g z l i = u.fo f g := by
  have h0 : 0 ≤ i := by
    apply Decidable.byContradiction; intro h1
    rw [enA_neg (by omega)] at h; cases h
  have h2 := h
  unfold enA at h2
  rw [if_neg (by omega)] at h2
  obtain ⟨u, h3, h4, h5⟩ := en_tree h2
  refine ⟨u, h3, h0, h5, by rw [h4, ← List.drop_drop, List.take_append_drop], ?_⟩
  unfold foV
  rw [h]
  show (stk f g ((l.drop i.toNat).take n)).headD z = _
  rw [← h4]
  have := stk_fl f g u h3 []
  rw [List.append_nil] at this
  rw [this]; rfl
theorem foV_none {R : Type} (f : Tk → R) (g : Nat → R → R → R) (z : R) {l : List Tk} {i : Int} (h : enA l i = none) : foV f g z l i = z := by unfold foV; rw [h]
theorem enA_of {l : List Tk} {k : Nat} {u : Su} {r : List Tk} (h : u.ok) (e : l.drop k = u.fl ++ r) : enA l (k : Int) = some u.fl.length := by
  rw [enA_nat, e, en_fl u h, en_zero]; simp
theorem foV_of {R : Type} (f : Tk → R) (g : Nat → R → R → R) (z : R) {l : List Tk} {k : Nat} {u : Su} {r : List Tk} (h : u.ok) (e : l.drop k = u.fl ++ r) : foV f g z l (k : Int) = u.fo f g := by
  unfold foV
  rw [enA_of h e]
  show (stk f g ((l.drop k).take u.fl.length)).headD z = _
  rw [e, List.take_left]
  have := stk_fl f g u h []
  rw [List.append_nil] at this
  rw [this]; rfl
/-- Kinds: what an operator takes, what it yields. -/
def tkK (o : Nat) : Int := if o = 7 then 2 else 1
def ylK (o : Nat) : Int := if 5 ≤ o then 2 else 1
def kdG (o : Nat) (a b : Int) : Int := if a = tkK o ∧ b = tkK o then ylK o else 0
def kdF (_ : Tk) : Int := 1
def kdV (l : List Tk) (i : Int) : Int := foV kdF kdG 0 l i
/-- Depths. -/
def dpF (_ : Tk) : Int := 1
def mxI (a b : Int) : Int := if b < a then a else b
def dpG (_ : Nat) (a b : Int) : Int := wrap64 (1 + mxI a b)
def dpV (l : List Tk) (i : Int) : Int := foV dpF dpG 0 l i
/-- Values. -/
def vlF (gs : List Int) (bs : List Bi) (s : Tk) : Int × Bool := (if gvN s ≠ 0 then gs.getD (gvN s - 1) 0 else if nmB s then (valL (tx s) bs).1 else rdV s, true)
def vlG (o : Nat) (a b : Int × Bool) : Int × Bool := if a.2 && b.2 then (didV o a.1 b.1, didB o a.1 b.1) else (0, false)
def thB (gs : List Int) : Bool := gs.all isW && decide (gs.length = 3)
def vlV (l : List Tk) (i : Int) (bs : List Bi) (gs : List Int) : Int × Bool := if kdV l i = 0 then (0, false) else if okI bs then (if thB gs then foV (vlF gs bs) vlG (0, false) l i else (0, false)) else (0, false)
theorem nm_rd {s : Tk} (h : nmB s = true) : rd s = none := by
  cases s with
  | nil => exact absurd h (by decide)
  | cons c r =>
    unfold nmB at h
    rw [Bool.and_eq_true, List.all_cons, Bool.and_eq_true] at h
    have hc := h.1.1
    have h1 : 97 ≤ c.toNat := by simp [isLow] at hc; exact hc.1
    have h2 : isDig c = false := by simp [isDig]; omega
    have h3 : ¬ (c :: r).head? = some 45 := by intro e; simp at e; subst e; exact absurd h1 (by decide)
    unfold rd
    rw [if_neg h3]
    split
    · rfl
    · rw [if_pos (by simp [h2])]
end Go.Proofs.YtoiphglfngkoiaaDoor.Cl
