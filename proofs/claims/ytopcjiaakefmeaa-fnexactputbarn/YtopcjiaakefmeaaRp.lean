/-
  Plain facts on reading a word: 'rd' says what spec.ReadWord gives; it is the word whose decimal form the text is ('rd_iff'); so is what impl.ReadWord gives ('parse_iff').
-/
import Derived.Test.YtopcjiaakefmeaaWd
import Derived.Lib.ParseIntBTie
import Derived.Lib.ParseIntBCases
import Derived.Lib.ItoaMem
namespace Go.Proofs.Ytopcjiaakefmeaa.Rp
open Wd

theorem snoc_rec {α : Type} {P : List α → Prop} (h0 : P []) (h1 : ∀ l c, P l → P (l ++ [c])) (l : List α) : P l := by
  have : ∀ r : List α, P r.reverse := by
    intro r
    induction r with
    | nil => exact h0
    | cons c r ih => rw [List.reverse_cons]; exact h1 _ _ ih
  simpa using this l.reverse

def isDig (c : UInt8) : Bool := decide (48 ≤ c.toNat) && decide (c.toNat ≤ 57)
def foldD (acc : Nat) (l : List UInt8) : Nat := l.foldl (fun a c => a * 10 + (c.toNat - 48)) acc
def val (l : List UInt8) : Nat := foldD 0 l
theorem val_snoc (l : List UInt8) (c : UInt8) : val (l ++ [c]) = val l * 10 + (c.toNat - 48) := by simp [val, foldD, List.foldl_append]
theorem val_lt (l : List UInt8) (h : l.all isDig = true) : val l < 10 ^ l.length := by
  revert h
  refine snoc_rec (P := fun l => l.all isDig = true → val l < 10 ^ l.length) (by simp [val, foldD]) (fun l c ih h => ?_) l
  rw [List.all_append, Bool.and_eq_true] at h
  have h1 := ih h.1
  have h2 : isDig c = true := by simpa using h.2
  simp [isDig] at h2
  rw [val_snoc]
  simp only [List.length_append, List.length_singleton, Nat.pow_succ]
  omega
theorem byte_eq (c : UInt8) (h : 48 ≤ c.toNat) : UInt8.ofNat (48 + (c.toNat - 48)) = c := by
  rw [show 48 + (c.toNat - 48) = c.toNat by omega]; simp
/-- Digits without a leading zero are the decimal form of their value. -/
theorem dec_val (l : List UInt8) (h : l.all isDig = true) (hne : l ≠ []) (h0 : l.head? ≠ some 48 ∨ l.length = 1) : Lib.decDigits (val l) = l := by
  revert h hne h0
  refine snoc_rec (P := fun l => l.all isDig = true → l ≠ [] → (l.head? ≠ some 48 ∨ l.length = 1) → Lib.decDigits (val l) = l) (fun _ h => absurd rfl h) (fun l c ih h _ h0 => ?_) l
  rw [List.all_append, Bool.and_eq_true] at h
  have hc : isDig c = true := by simpa using h.2
  simp [isDig] at hc
  by_cases hl : l = []
  · subst hl
    have hv : val ([] ++ [c]) = c.toNat - 48 := by simp [val, foldD]
    rw [hv, Lib.decDigits_one (by omega), byte_eq c hc.1]; rfl
  · have hh : l.head? ≠ some 48 := by
      rcases h0 with h0 | h0
      · intro e
        apply h0
        cases l with
        | nil => exact absurd rfl hl
        | cons x r => simpa using e
      · simp at h0; exact absurd h0 hl
    have e := ih h.1 hl (Or.inl hh)
    have hpos : val l ≠ 0 := by
      intro hz
      rw [hz, Lib.decDigits_one (by omega)] at e
      apply hh
      rw [← e]; rfl
    rw [val_snoc, Lib.decDigits, dif_neg (by omega), show (val l * 10 + (c.toNat - 48)) / 10 = val l by omega, e, show (val l * 10 + (c.toNat - 48)) % 10 = c.toNat - 48 by omega, byte_eq c hc.1]
theorem ofNat_toNat (d : Nat) (h : d < 10) : (UInt8.ofNat (48 + d)).toNat = 48 + d := by
  rw [UInt8.toNat_ofNat']; omega
theorem dig_ofNat (d : Nat) (h : d < 10) : isDig (UInt8.ofNat (48 + d)) = true := by
  unfold isDig; rw [ofNat_toNat d h]; simp; omega
/-- The decimal form of u: digits, of value u, no leading zero. -/
theorem dec_is : ∀ (n u : Nat), u ≤ n → (Lib.decDigits u).all isDig = true ∧ val (Lib.decDigits u) = u ∧ Lib.decDigits u ≠ [] ∧ ((Lib.decDigits u).head? ≠ some 48 ∨ (Lib.decDigits u).length = 1)
  | n, u, hu => by
    by_cases h : u < 10
    · rw [Lib.decDigits_one h]
      refine ⟨by rw [List.all_cons, dig_ofNat u h]; rfl, ?_, by simp, Or.inr rfl⟩
      have := ofNat_toNat u h
      simp [val, foldD] at this ⊢
      omega
    · match n, hu with
      | 0, hu => omega
      | n + 1, hu =>
        obtain ⟨i1, i2, i3, i4⟩ := dec_is n (u / 10) (by omega)
        rw [Lib.decDigits, dif_neg h]
        refine ⟨?_, ?_, by simp, Or.inl ?_⟩
        · rw [List.all_append, i1, List.all_cons, dig_ofNat (u % 10) (by omega)]; rfl
        · rw [val_snoc, i2, ofNat_toNat _ (by omega)]; omega
        · intro e
          have he : (Lib.decDigits (u / 10)).head? = some 48 := by
            cases hd : Lib.decDigits (u / 10) with
            | nil => exact absurd hd i3
            | cons x r => rw [hd] at e; simpa using e
          rcases i4 with i4 | i4
          · exact i4 he
          · cases hd : Lib.decDigits (u / 10) with
            | nil => exact absurd hd i3
            | cons x r =>
              rw [hd] at he i4
              simp at he i4
              subst he i4
              rw [hd] at i2
              simp [val, foldD] at i2
              omega
theorem dec_len : ∀ (k u : Nat), u < 10 ^ (k + 1) → (Lib.decDigits u).length ≤ k + 1
  | 0, u, h => by rw [Lib.decDigits_one (by simpa using h)]; simp
  | k + 1, u, h => by
    by_cases h10 : u < 10
    · rw [Lib.decDigits_one h10]; simp
    · rw [Lib.decDigits, dif_neg h10]
      have := dec_len k (u / 10) (by rw [Nat.pow_succ] at h; omega)
      simp; omega

/-- What spec.ReadWord gives. -/
def rd (l : List UInt8) : Option Int :=
  if l.head? = some 45 then
    if l.tail.length < 1 ∨ 10 < l.tail.length then none
    else if ¬ l.tail.all isDig = true then none
    else if l.tail.head? = some 48 then none
    else if isW (-(val l.tail : Int)) then some (-(val l.tail : Int)) else none
  else
    if l.length < 1 ∨ 10 < l.length then none
    else if ¬ l.all isDig = true then none
    else if l.head? = some 48 ∧ 1 < l.length then none
    else if isW (val l : Int) then some (val l : Int) else none
def rdV (l : List UInt8) : Int := (rd l).getD 0
def rdB (l : List UInt8) : Bool := (rd l).isSome

theorem rd_iff (l : List UInt8) (v : Int) : rd l = some v ↔ isW v = true ∧ Lib.itoa v = l := by
  unfold rd
  constructor
  · intro h
    split at h
    · rename_i hm
      split at h
      · cases h
      rename_i h1
      split at h
      · cases h
      rename_i h2
      split at h
      · cases h
      rename_i h3
      split at h
      · rename_i h4
        cases h
        refine ⟨h4, ?_⟩
        simp only [Decidable.not_not] at h2
        cases l with
        | nil => cases hm
        | cons c r =>
          simp only [List.head?_cons, Option.some.injEq] at hm
          subst hm
          simp only [List.tail_cons] at h1 h2 h3 h4 ⊢
          have hd := dec_val r h2 (by intro e; subst e; simp at h1) (Or.inl h3)
          have hp : 1 ≤ val r := by
            apply Nat.pos_of_ne_zero
            intro hz
            rw [hz, Lib.decDigits_one (by omega)] at hd
            apply h3; rw [← hd]; rfl
          rw [Lib.itoa_neg _ hp, hd]
      · cases h
    · split at h
      · cases h
      rename_i h1
      split at h
      · cases h
      rename_i h2
      split at h
      · cases h
      rename_i h3
      split at h
      · rename_i h4
        cases h
        refine ⟨h4, ?_⟩
        simp only [Decidable.not_not] at h2
        have hd := dec_val l h2 (by intro e; subst e; simp at h1) (by
          by_cases hh : l.head? = some 48
          · exact Or.inr (by have : ¬ 1 < l.length := fun g => h3 ⟨hh, g⟩; omega)
          · exact Or.inl hh)
        rw [Lib.itoa_nonneg, hd]
      · cases h
  · rintro ⟨hw, rfl⟩
    have hb := (isW_iff v).1 hw
    by_cases hv : v < 0
    · obtain ⟨u, rfl⟩ : ∃ u : Nat, v = -(u : Int) := ⟨v.natAbs, by omega⟩
      have hu : 1 ≤ u := by omega
      rw [Lib.itoa_neg u hu]
      obtain ⟨i1, i2, i3, i4⟩ := dec_is u u (Nat.le_refl _)
      have hlen := dec_len 9 u (by omega)
      have hl1 : 1 ≤ (Lib.decDigits u).length := List.length_pos_iff.2 i3
      have hh : (Lib.decDigits u).head? ≠ some 48 := by
        rcases i4 with i4 | i4
        · exact i4
        · intro e
          cases hd : Lib.decDigits u with
          | nil => exact i3 hd
          | cons x r =>
            rw [hd] at e i4 i2
            simp at e i4
            subst e i4
            simp [val, foldD] at i2
            omega
      rw [if_pos (show (45 :: Lib.decDigits u).head? = some 45 from rfl)]
      generalize ht : (45 :: Lib.decDigits u).tail = t
      obtain rfl : t = Lib.decDigits u := ht.symm
      rw [if_neg (by omega), if_neg (by simp [i1]), if_neg hh, i2, if_pos hw]
    · obtain ⟨u, rfl⟩ : ∃ u : Nat, v = (u : Int) := ⟨v.natAbs, by omega⟩
      rw [Lib.itoa_nonneg]
      obtain ⟨i1, i2, i3, i4⟩ := dec_is u u (Nat.le_refl _)
      have hlen := dec_len 9 u (by omega)
      have hl1 : 1 ≤ (Lib.decDigits u).length := List.length_pos_iff.2 i3
      have hm : (Lib.decDigits u).head? ≠ some 45 := by
        intro e
        cases hd : Lib.decDigits u with
        | nil => exact i3 hd
        | cons x r =>
          rw [hd] at e i1
          simp at e
          subst e
          simp [isDig] at i1
      rw [if_neg hm, if_neg (by omega), if_neg (by simp [i1]), if_neg (by
        rintro ⟨e, h1⟩
        rcases i4 with i4 | i4
        · exact i4 e
        · omega), i2, if_pos hw]

theorem fold_ge (l : List UInt8) : ∀ acc, acc ≤ foldD acc l := by
  induction l with
  | nil => intro acc; exact Nat.le_refl _
  | cons c r ih => intro acc; have := ih (acc * 10 + (c.toNat - 48)); simp only [foldD, List.foldl_cons] at this ⊢; omega
theorem parseM_ok (l : List UInt8) : ∀ acc, l.all isDig = true → foldD acc l ≤ 4294967295 → Lib.parseUintM 4294967295 acc l = .ok (foldD acc l) := by
  induction l with
  | nil => intro acc _ _; rfl
  | cons c r ih =>
    intro acc h hb
    have hf : foldD acc (c :: r) = foldD (acc * 10 + (c.toNat - 48)) r := rfl
    rw [hf] at hb ⊢
    rw [List.all_cons, Bool.and_eq_true] at h
    have hc := h.1
    simp [isDig] at hc
    have := fold_ge r (acc * 10 + (c.toNat - 48))
    unfold Lib.parseUintM
    rw [if_pos hc, if_neg (by omega), if_neg (by omega)]
    exact ih _ h.2 hb
theorem parse_itoa (v : Int) (hw : isW v = true) : Lib.parseIntB 32 (Lib.itoa v) = .ok v := by
  have hb := (isW_iff v).1 hw
  by_cases hv : v < 0
  · obtain ⟨u, rfl⟩ : ∃ u : Nat, v = -(u : Int) := ⟨v.natAbs, by omega⟩
    obtain ⟨i1, i2, i3, i4⟩ := dec_is u u (Nat.le_refl _)
    rw [Lib.itoa_neg u (by omega), Lib.parseIntB_minus]
    unfold Lib.parseUintB
    rw [if_neg i3, show (2 ^ 32 - 1 : Nat) = 4294967295 by decide, parseM_ok _ 0 i1 (by show val _ ≤ _; rw [i2]; omega), show foldD 0 (Lib.decDigits u) = u from i2]
    simp [Lib.signedC]; omega
  · obtain ⟨u, rfl⟩ : ∃ u : Nat, v = (u : Int) := ⟨v.natAbs, by omega⟩
    obtain ⟨i1, i2, i3, i4⟩ := dec_is u u (Nat.le_refl _)
    rw [Lib.itoa_nonneg]
    cases hd : Lib.decDigits u with
    | nil => exact absurd hd i3
    | cons c r =>
      have hc : isDig c = true := by rw [hd, List.all_cons, Bool.and_eq_true] at i1; exact i1.1
      simp [isDig] at hc
      rw [Lib.parseIntB_plain 32 c r (by omega) (by omega), ← hd]
      unfold Lib.parseUintB
      rw [if_neg i3, show (2 ^ 32 - 1 : Nat) = 4294967295 by decide, parseM_ok _ 0 i1 (by show val _ ≤ _; rw [i2]; omega), show foldD 0 (Lib.decDigits u) = u from i2]
      simp [Lib.signlessC]; omega
theorem parse_isW {l : List UInt8} {v : Int} (h : Lib.parseIntB 32 l = .ok v) : isW v = true := by
  have := Lib.parseIntB_bounds h
  rw [isW_iff]
  have e : ((2 ^ (32 - 1) : Nat) : Int) = 2147483648 := by decide
  rw [e] at this
  omega
/-- Where ParseInt takes it and the number is written back so, it is read. -/
theorem rd_ok {l : List UInt8} {v : Int} (h : Lib.parseIntB 32 l = .ok v) (e : Lib.itoa v = l) : rd l = some v := (rd_iff l v).2 ⟨parse_isW h, e⟩
theorem rd_other {l : List UInt8} {v : Int} (h : Lib.parseIntB 32 l = .ok v) (e : Lib.itoa v ≠ l) : rd l = none := by
  cases hr : rd l with
  | none => rfl
  | some x =>
    obtain ⟨h1, h2⟩ := (rd_iff l x).1 hr
    have := parse_itoa x h1
    rw [h2, h] at this
    cases this
    exact absurd h2 e
theorem rd_bad {l : List UInt8} (h : ∀ v, Lib.parseIntB 32 l ≠ .ok v) : rd l = none := by
  cases hr : rd l with
  | none => rfl
  | some x =>
    obtain ⟨h1, h2⟩ := (rd_iff l x).1 hr
    have := parse_itoa x h1
    rw [h2] at this
    exact absurd this (h x)
end Go.Proofs.Ytopcjiaakefmeaa.Rp
