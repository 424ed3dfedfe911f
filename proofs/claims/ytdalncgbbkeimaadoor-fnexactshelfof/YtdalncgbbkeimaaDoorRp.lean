/-
  Plain facts on reading a word: 'rd' says what spec.ReadWord gives; it is the word whose decimal form the text is ('rd_iff'); so is what impl.ReadWord gives ('parse_iff').
  Plain facts on keys (chapter 2): names, the fixed decimal form of 7 digits, the text of a key, and the key of a text: 'kof' says what spec.KeyOf gives; it is the key whose text it is ('kof_iff'); so is what impl.KeyOf gives ('kof_of_cut', 'kof_not').
-/
import Derived.Test.YtdalncgbbkeimaaDoorWd
import Derived.Lib.ParseIntBTie
import Derived.Lib.ParseIntBCases
import Derived.Lib.ItoaMem
import Derived.Lib.IndexMore
import Derived.Lib.Repeat
namespace Go.Proofs.YtdalncgbbkeimaaDoor.Rp
open Wd

theorem snoc_rec {α : Type} {P : List α → Prop} (h0 : P []) (h1 : ∀ l c, P l → P (l ++ [c])) (l : List α) : P l := by
  have : ∀ r : List α, P r.reverse := by
    intro r
    induction r with
    | nil => exact h0
    | cons c r ih => rw [List.reverse_cons]; exact h1 _ _ ih
  simpa using this l.reverse

def isDig (c : UInt8) : Bool := decide (48 ≤ c.toNat) && decide (c.toNat ≤ 57)
def foldD (acc : Nat) (l : List UInt8) : Nat := l.foldl (fun a c => a * 10 + (c.toNat - 48)) acc
def val (l : List UInt8) : Nat := foldD 0 l
theorem val_snoc (l : List UInt8) (c : UInt8) : val (l ++ [c]) = val l * 10 + (c.toNat - 48) := by simp [val, foldD, List.foldl_append]
theorem val_lt (l : List UInt8) (h : l.all isDig = true) : val l < 10 ^ l.length := by
  revert h
  refine snoc_rec (P := fun l => l.all isDig = true → val l < 10 ^ l.length) (by simp [val, foldD]) (fun l c ih h => ?_) l
  rw [List.all_append, Bool.and_eq_true] at h
  have h1 := ih h.1
  have h2 : isDig c = true := by simpa using h.2
  simp [isDig] at h2
  rw [val_snoc]
  simp only [List.length_append, List.length_singleton, Nat.pow_succ]
  omega
theorem byte_eq (c : UInt8) (h : 48 ≤ c.toNat) : UInt8.ofNat (48 + (c.toNat - 48)) = c := by
  rw [show 48 + (c.toNat - 48) = c.toNat by omega]; simp
/-- Digits without a leading zero are the decimal form of their value. -/
theorem dec_val (l : List UInt8) (h : l.all isDig = true) (hne : l ≠ []) (h0 : l.head? ≠ some 48 ∨ l.length = 1) : Lib.decDigits (val l) = l := by
  revert h hne h0
  refine snoc_rec (P := fun l => l.all isDig = true → l ≠ [] → (l.head? ≠ some 48 ∨ l.length = 1) → Lib.decDigits (val l) = l) (fun _ h => absurd rfl h) (fun l c ih h _ h0 => ?_) l
  rw [List.all_append, Bool.and_eq_true] at h
  have hc : isDig c = true := by simpa using h.2
  simp [isDig] at hc
  by_cases hl : l = []
  · subst hl
    have hv : val ([] ++ [c]) = c.toNat - 48 := by simp [val, foldD]
    rw [hv, Lib.decDigits_one (by omega), byte_eq c hc.1]; rfl
  · have hh : l.head? ≠ some 48 := by
      rcases h0 with h0 | h0
      · intro e
        apply h0
        cases l with
        | nil => exact absurd rfl hl
        | cons x r => simpa using e
      · simp at h0; exact absurd h0 hl
    have e := ih h.1 hl (Or.inl hh)
    have hpos : val l ≠ 0 := by
      intro hz
      rw [hz, Lib.decDigits_one (by omega)] at e
      apply hh
      rw [← e]; rfl
    rw [val_snoc, Lib.decDigits, dif_neg (by omega), show (val l * 10 + (c.toNat - 48)) / 10 = val l by omega, e, show (val l * 10 + (c.toNat - 48)) % 10 = c.toNat - 48 by omega, byte_eq c hc.1]
theorem ofNat_toNat (d : Nat) (h : d < 10) : (UInt8.ofNat (48 + d)).toNat = 48 + d := by
  rw [UInt8.toNat_ofNat']; omega
theorem dig_ofNat (d : Nat) (h : d < 10) : isDig (UInt8.ofNat (48 + d)) = true := by
  unfold isDig; rw [ofNat_toNat d h]; simp; omega
/-- The decimal form of u: digits, of value u, no leading zero. -/
theorem dec_is : ∀ (n u : Nat), u ≤ n → (Lib.decDigits u).all isDig = true ∧ val (Lib.decDigits u) = u ∧ Lib.decDigits u ≠ [] ∧ ((Lib.decDigits u).head? ≠ some 48 ∨ (Lib.decDigits u).length = 1)
  | n, u, hu => by
    by_cases h : u < 10
    · rw [Lib.decDigits_one h]
      refine ⟨by rw [List.all_cons, dig_ofNat u h]; rfl, ?_, by simp, Or.inr rfl⟩
      have := ofNat_toNat u h
      simp [val, foldD] at this ⊢
      omega
    · match n, hu with
      | 0, hu => omega
      | n + 1, hu =>
        obtain ⟨i1, i2, i3, i4⟩ := dec_is n (u / 10) (by omega)
        rw [Lib.decDigits, dif_neg h]
        refine ⟨?_, ?_, by simp, Or.inl ?_⟩
        · rw [List.all_append, i1, List.all_cons, dig_ofNat (u % 10) (by omega)]; rfl
        · rw [val_snoc, i2, ofNat_toNat _ (by omega)]; omega
        · intro e
          have he : (Lib.decDigits (u / 10)).head? = some 48 := by
            cases hd : Lib.decDigits (u / 10) with
            | nil => exact absurd hd i3
            | cons x r => rw [hd] at e; simpa using e
          rcases i4 with i4 | i4
          · exact i4 he
          · cases hd : Lib.decDigits (u / 10) with
            | nil => exact absurd hd i3
            | cons x r =>
              rw [hd] at he i4
              simp at he i4
              subst he i4
              rw [hd] at i2
              simp [val, foldD] at i2
              omega
theorem dec_len : ∀ (k u : Nat), u < 10 ^ (k + 1) → (Lib.decDigits u).length ≤ k + 1
  | 0, u, h => by rw [Lib.decDigits_one (by simpa using h)]; simp
  | k + 1, u, h => by
    by_cases h10 : u < 10
    · rw [Lib.decDigits_one h10]; simp
    · rw [Lib.decDigits, dif_neg h10]
      have := dec_len k (u / 10) (by rw [Nat.pow_succ] at h; omega)
      simp; omega

/-- What spec.ReadWord gives. -/
def rd (l : List UInt8) : Option Int :=
  if l.head? = some 45 then
    if l.tail.length < 1 ∨ 10 < l.tail.length then none
    else if ¬ l.tail.all isDig = true then none
    else if l.tail.head? = some 48 then none
    else if isW (-(val l.tail : Int)) then some (-(val l.tail : Int)) else none
  else
    if l.length < 1 ∨ 10 < l.length then none
    else if ¬ l.all isDig = true then none
    else if l.head? = some 48 ∧ 1 < l.length then none
    else if isW (val l : Int) then some (val l : Int) else none
def rdV (l : List UInt8) : Int := (rd l).getD 0
def rdB (l : List UInt8) : Bool := (rd l).isSome

theorem rd_iff (l : List UInt8) (v : Int) : rd l = some v ↔ isW v = true ∧ Lib.itoa v = l := by
  unfold rd
  constructor
  · intro h
    split at h
    · rename_i hm
      split at h
      · cases h
      rename_i h1
      split at h
      · cases h
      rename_i h2
      split at h
      · cases h
      rename_i h3
      split at h
      · rename_i h4
        cases h
        refine ⟨h4, ?_⟩
        simp only [Decidable.not_not] at h2
        cases l with
        | nil => cases hm
        | cons c r =>
          simp only [List.head?_cons, Option.some.injEq] at hm
          subst hm
          simp only [List.tail_cons] at h1 h2 h3 h4 ⊢
          have hd := dec_val r h2 (by intro e; subst e; simp at h1) (Or.inl h3)
          have hp : 1 ≤ val r := by
            apply Nat.pos_of_ne_zero
            intro hz
            rw [hz, Lib.decDigits_one (by omega)] at hd
            apply h3; rw [← hd]; rfl
          rw [Lib.itoa_neg _ hp, hd]
      · cases h
    · split at h
      · cases h
      rename_i h1
      split at h
      · cases h
      rename_i h2
      split at h
      · cases h
      rename_i h3
      split at h
      · rename_i h4
        cases h
        refine ⟨h4, ?_⟩
        simp only [Decidable.not_not] at h2
        have hd := dec_val l h2 (by intro e; subst e; simp at h1) (by
          by_cases hh : l.head? = some 48
          · exact Or.inr (by have : ¬ 1 < l.length := fun g => h3 ⟨hh, g⟩; omega)
          · exact Or.inl hh)
        rw [Lib.itoa_nonneg, hd]
      · cases h
  · rintro ⟨hw, rfl⟩
    have hb := (isW_iff v).1 hw
    by_cases hv : v < 0
    · obtain ⟨u, rfl⟩ : ∃ u : Nat, v = -(u : Int) := ⟨v.natAbs, by omega⟩
      have hu : 1 ≤ u := by omega
      rw [Lib.itoa_neg u hu]
      obtain ⟨i1, i2, i3, i4⟩ := dec_is u u (Nat.le_refl _)
      have hlen := dec_len 9 u (by omega)
      have hl1 : 1 ≤ (Lib.decDigits u).length := List.length_pos_iff.2 i3
      have hh : (Lib.decDigits u).head? ≠ some 48 := by
        rcases i4 with i4 | i4
        · exact i4
        · intro e
          cases hd : Lib.decDigits u with
          | nil => exact i3 hd
          | cons x r =>
            rw [hd] at e i4 i2
            simp at e i4
            subst e i4
            simp [val, foldD] at i2
            omega
      rw [if_pos (show (45 :: Lib.decDigits u).head? = some 45 from rfl)]
      generalize ht : (45 :: Lib.decDigits u).tail = t
      obtain rfl : t = Lib.decDigits u := ht.symm
      rw [if_neg (by omega), if_neg (by simp [i1]), if_neg hh, i2, if_pos hw]
    · obtain ⟨u, rfl⟩ : ∃ u : Nat, v = (u : Int) := ⟨v.natAbs, by omega⟩
      rw [Lib.itoa_nonneg]
      obtain ⟨i1, i2, i3, i4⟩ := dec_is u u (Nat.le_refl _)
      have hlen := dec_len 9 u (by omega)
      have hl1 : 1 ≤ (Lib.decDigits u).length := List.length_pos_iff.2 i3
      have hm : (Lib.decDigits u).head? ≠ some 45 := by
        intro e
        cases hd : Lib.decDigits u with
        | nil => exact i3 hd
        | cons x r =>
          rw [hd] at e i1
          simp at e
          subst e
          simp [isDig] at i1
      rw [if_neg hm, if_neg (by omega), if_neg (by simp [i1]), if_neg (by
        rintro ⟨e, h1⟩
        rcases i4 with i4 | i4
        · exact i4 e
        · omega), i2, if_pos hw]

theorem fold_ge (l : List UInt8) : ∀ acc, acc ≤ foldD acc l := by
  induction l with
  | nil => intro acc; exact Nat.le_refl _
  | cons c r ih => intro acc; have := ih (acc * 10 + (c.toNat - 48)); simp only [foldD, List.foldl_cons] at this ⊢; omega
theorem parseM_ok (l : List UInt8) : ∀ acc, l.all isDig = true → foldD acc l ≤ 4294967295 → Lib.parseUintM 4294967295 acc l = .ok (foldD acc l) := by
  induction l with
  | nil => intro acc _ _; rfl
  | cons c r ih =>
    intro acc h hb
    have hf : foldD acc (c :: r) = foldD (acc * 10 + (c.toNat - 48)) r := rfl
    rw [hf] at hb ⊢
    rw [List.all_cons, Bool.and_eq_true] at h
    have hc := h.1
    simp [isDig] at hc
    have := fold_ge r (acc * 10 + (c.toNat - 48))
    unfold Lib.parseUintM
    rw [if_pos hc, if_neg (by omega), if_neg (by omega)]
    exact ih _ h.2 hb
theorem parse_itoa (v : Int) (hw : isW v = true) : Lib.parseIntB 32 (Lib.itoa v) = .ok v := by
  have hb := (isW_iff v).1 hw
  by_cases hv : v < 0
  · obtain ⟨u, rfl⟩ : ∃ u : Nat, v = -(u : Int) := ⟨v.natAbs, by omega⟩
    obtain ⟨i1, i2, i3, i4⟩ := dec_is u u (Nat.le_refl _)
    rw [Lib.itoa_neg u (by omega), Lib.parseIntB_minus]
    unfold Lib.parseUintB
    rw [if_neg i3, show (2 ^ 32 - 1 : Nat) = 4294967295 by decide, parseM_ok _ 0 i1 (by show val _ ≤ _; rw [i2]; omega), show foldD 0 (Lib.decDigits u) = u from i2]
    simp [Lib.signedC]; omega
  · obtain ⟨u, rfl⟩ : ∃ u : Nat, v = (u : Int) := ⟨v.natAbs, by omega⟩
    obtain ⟨i1, i2, i3, i4⟩ := dec_is u u (Nat.le_refl _)
    rw [Lib.itoa_nonneg]
    cases hd : Lib.decDigits u with
    | nil => exact absurd hd i3
    | cons c r =>
      have hc : isDig c = true := by rw [hd, List.all_cons, Bool.and_eq_true] at i1; exact i1.1
      simp [isDig] at hc
      rw [Lib.parseIntB_plain 32 c r (by omega) (by omega), ← hd]
      unfold Lib.parseUintB
      rw [if_neg i3, show (2 ^ 32 - 1 : Nat) = 4294967295 by decide, parseM_ok _ 0 i1 (by show val _ ≤ _; rw [i2]; omega), show foldD 0 (Lib.decDigits u) = u from i2]
      simp [Lib.signlessC]; omega
theorem parse_isW {l : List UInt8} {v : Int} (h : Lib.parseIntB 32 l = .ok v) : isW v = true := by
  have := Lib.parseIntB_bounds h
  rw [isW_iff]
  have e : ((2 ^ (32 - 1) : Nat) : Int) = 2147483648 := by decide
  rw [e] at this
  omega
/-- Where ParseInt takes it and the number is written back so, it is read. -/
theorem rd_ok {l : List UInt8} {v : Int} (h : Lib.parseIntB 32 l = .ok v) (e : Lib.itoa v = l) : rd l = some v := (rd_iff l v).2 ⟨parse_isW h, e⟩
theorem rd_other {l : List UInt8} {v : Int} (h : Lib.parseIntB 32 l = .ok v) (e : Lib.itoa v ≠ l) : rd l = none := by
  cases hr : rd l with
  | none => rfl
  | some x =>
    obtain ⟨h1, h2⟩ := (rd_iff l x).1 hr
    have := parse_itoa x h1
    rw [h2, h] at this
    cases this
    exact absurd h2 e
theorem rd_bad {l : List UInt8} (h : ∀ v, Lib.parseIntB 32 l ≠ .ok v) : rd l = none := by
  cases hr : rd l with
  | none => rfl
  | some x =>
    obtain ⟨h1, h2⟩ := (rd_iff l x).1 hr
    have := parse_itoa x h1
    rw [h2] at this
    exact absurd this (h x)
end Go.Proofs.YtdalncgbbkeimaaDoor.Rp
namespace Go.Proofs.YtdalncgbbkeimaaDoor.Kp
open Wd Rp

def isLow (c : UInt8) : Bool := decide (97 ≤ c.toNat) && decide (c.toNat ≤ 122)
/-- Is it a name? -/
def nmB (l : List UInt8) : Bool := l.all isLow && (decide (1 ≤ l.length) && decide (l.length ≤ 8))
/-- Is it a valid key? -/
def keyB (r b : List UInt8) (t : Int) : Bool := nmB r && (nmB b && inB t 0 1000000)
theorem keyB_iff {r b : List UInt8} {t : Int} : keyB r b t = true ↔ nmB r = true ∧ nmB b = true ∧ 0 ≤ t ∧ t ≤ 1000000 := by
  unfold keyB inB; simp
theorem nm_len {l : List UInt8} (h : nmB l = true) : 1 ≤ l.length ∧ l.length ≤ 8 := by
  unfold nmB at h; simp at h; exact ⟨by omega, by omega⟩
theorem nm_low {l : List UInt8} (h : nmB l = true) : ∀ c ∈ l, isLow c = true := by
  unfold nmB at h; rw [Bool.and_eq_true] at h; exact List.all_eq_true.1 h.1
theorem low_one {c : UInt8} (h : isLow c = true) : c ≠ 1 := by
  intro e; subst e; revert h; decide
theorem nm_one {l : List UInt8} (h : nmB l = true) : (1 : UInt8) ∉ l := fun hm => low_one (nm_low h 1 hm) rfl

/-- The last k decimal digits of n, with leading zeros. -/
def fixd : Nat → Nat → List UInt8
  | 0, _ => []
  | k + 1, n => fixd k (n / 10) ++ [UInt8.ofNat (48 + n % 10)]
theorem fix_len : ∀ k n, (fixd k n).length = k
  | 0, _ => rfl
  | k + 1, n => by simp [fixd, fix_len k]
theorem fix_dig : ∀ k n, (fixd k n).all isDig = true
  | 0, _ => rfl
  | k + 1, n => by rw [fixd, List.all_append, fix_dig k, List.all_cons, dig_ofNat (n % 10) (by omega)]; rfl
theorem fix_val : ∀ k n, n < 10 ^ k → val (fixd k n) = n
  | 0, n, h => by simp at h; subst h; rfl
  | k + 1, n, h => by
    rw [fixd, val_snoc, fix_val k (n / 10) (by rw [Nat.pow_succ] at h; omega), ofNat_toNat _ (by omega)]; omega
theorem fix_of (l : List UInt8) (h : l.all isDig = true) : fixd l.length (val l) = l := by
  revert h
  refine snoc_rec (P := fun l => l.all isDig = true → fixd l.length (val l) = l) (fun _ => rfl) (fun l c ih h => ?_) l
  rw [List.all_append, Bool.and_eq_true] at h
  have hc : isDig c = true := by simpa using h.2
  simp [isDig] at hc
  rw [List.length_append, List.length_singleton, fixd, val_snoc, show (val l * 10 + (c.toNat - 48)) / 10 = val l by omega, ih h.1, show (val l * 10 + (c.toNat - 48)) % 10 = c.toNat - 48 by omega, byte_eq c hc.1]
theorem fix_zero : ∀ k, fixd k 0 = List.replicate k 48
  | 0 => rfl
  | k + 1 => by rw [fixd, show 0 / 10 = 0 from rfl, fix_zero k, List.replicate_succ']; rfl
/-- With a 1 ahead, the usual form. -/
theorem dec_fix : ∀ k n, n < 10 ^ k → Lib.decDigits (10 ^ k + n) = 49 :: fixd k n
  | 0, n, h => by
    have : n = 0 := by simpa using h
    subst this
    rw [Lib.decDigits_one (by decide)]; rfl
  | k + 1, n, h => by
    rw [Nat.pow_succ] at h ⊢
    have hp : 1 ≤ 10 ^ k := Nat.one_le_pow _ _ (by decide)
    rw [Lib.decDigits, dif_neg (by omega), show (10 ^ k * 10 + n) / 10 = 10 ^ k + n / 10 by omega, dec_fix k (n / 10) (by omega), show (10 ^ k * 10 + n) % 10 = n % 10 by omega, fixd]; rfl
/-- The usual form behind zeros. -/
theorem pad_fix : ∀ k n, n < 10 ^ (k + 1) → List.replicate (k + 1 - (Lib.decDigits n).length) 48 ++ Lib.decDigits n = fixd (k + 1) n
  | 0, n, h => by
    rw [Lib.decDigits_one (by simpa using h)]
    simp only [List.length_singleton, Nat.sub_self, List.replicate_zero, List.nil_append, fixd]
    rw [show n % 10 = n by omega]
  | k + 1, n, h => by
    by_cases h10 : n < 10
    · rw [Lib.decDigits_one h10, fixd, show n / 10 = 0 by omega, fix_zero, show n % 10 = n by omega]
      simp
    · rw [Lib.decDigits, dif_neg h10, fixd, List.length_append, List.length_singleton, ← pad_fix k (n / 10) (by rw [Nat.pow_succ] at h; omega), List.append_assoc]
      congr 2; omega

/-- The text of the key. -/
def ktx (r b : List UInt8) (t : Int) : List UInt8 := if keyB r b t then r ++ (1 :: (b ++ (1 :: fixd 7 (1000000 - t).toNat))) else []
theorem ktx_no {r b : List UInt8} {t : Int} (h : keyB r b t = false) : ktx r b t = [] := by simp [ktx, h]
theorem ktx_yes {r b : List UInt8} {t : Int} (h : keyB r b t = true) : ktx r b t = r ++ (1 :: (b ++ (1 :: fixd 7 (1000000 - t).toNat))) := by simp [ktx, h]

/-- The pieces of a text between bytes d, the first of them going on from cur. -/
def splAt (d : UInt8) (cur : List UInt8) : List UInt8 → List (List UInt8)
  | [] => [cur]
  | c :: r => if c = d then cur :: splAt d [] r else splAt d (cur ++ [c]) r
def spl (d : UInt8) (l : List UInt8) : List (List UInt8) := splAt d [] l
theorem splAt_none (d : UInt8) : ∀ (l cur : List UInt8), d ∉ l → splAt d cur l = [cur ++ l]
  | [], cur, _ => by simp [splAt]
  | c :: r, cur, h => by
    rw [splAt, if_neg (fun e => h (by simp [e])), splAt_none d r (cur ++ [c]) (fun hm => h (List.mem_cons_of_mem _ hm))]; simp
theorem splAt_app (d : UInt8) : ∀ (l cur r : List UInt8), d ∉ l → splAt d cur (l ++ d :: r) = (cur ++ l) :: splAt d [] r
  | [], cur, r, _ => by simp [splAt]
  | c :: l, cur, r, h => by
    rw [List.cons_append, splAt, if_neg (fun e => h (by simp [e])), splAt_app d l (cur ++ [c]) r (fun hm => h (List.mem_cons_of_mem _ hm))]; simp
theorem spl_none {d : UInt8} {l : List UInt8} (h : d ∉ l) : spl d l = [l] := splAt_none d l [] h
theorem spl_app {d : UInt8} {l r : List UInt8} (h : d ∉ l) : spl d (l ++ d :: r) = l :: spl d r := splAt_app d l [] r h
theorem splAt_ne (d : UInt8) : ∀ (l cur : List UInt8), splAt d cur l ≠ []
  | [], cur => by simp [splAt]
  | c :: r, cur => by
    rw [splAt]; split
    · simp
    · exact splAt_ne d r _
/-- What it is split into, joined. -/
def joined (d : UInt8) : List (List UInt8) → List UInt8
  | [] => []
  | [a] => a
  | a :: b :: r => a ++ d :: joined d (b :: r)
theorem joined_cons (d : UInt8) (a : List UInt8) {r : List (List UInt8)} (h : r ≠ []) : joined d (a :: r) = a ++ d :: joined d r := by
  cases r with
  | nil => exact absurd rfl h
  | cons b r => rfl
theorem joined_splAt (d : UInt8) : ∀ (l cur : List UInt8), joined d (splAt d cur l) = cur ++ l
  | [], cur => by simp [splAt, joined]
  | c :: r, cur => by
    rw [splAt]
    split
    · rename_i h
      rw [joined_cons d cur (splAt_ne d r []), joined_splAt d r [], h]; simp
    · rw [joined_splAt d r (cur ++ [c])]; simp
theorem joined_spl (d : UInt8) (l : List UInt8) : joined d (spl d l) = l := joined_splAt d l []

/-- What spec.KeyOf gives. -/
def kof (l : List UInt8) : Option (List UInt8 × List UInt8 × Int) :=
  match spl 1 l with
  | [a, b, c] => if c.length = 7 ∧ c.all isDig = true ∧ keyB a b (1000000 - (val c : Int)) = true then some (a, b, 1000000 - (val c : Int)) else none
  | _ => none
theorem kof_three {l a b c : List UInt8} (h : spl 1 l = [a, b, c]) : kof l = if c.length = 7 ∧ c.all isDig = true ∧ keyB a b (1000000 - (val c : Int)) = true then some (a, b, 1000000 - (val c : Int)) else none := by
  unfold kof; rw [h]
theorem kof_len {l : List UInt8} (h : (spl 1 l).length ≠ 3) : kof l = none := by
  unfold kof
  split
  · rename_i h'; rw [h'] at h; exact absurd rfl h
  · rfl
theorem kof_iff (l a b : List UInt8) (t : Int) : kof l = some (a, b, t) ↔ keyB a b t = true ∧ ktx a b t = l := by
  constructor
  · intro h
    unfold kof at h
    split at h
    · rename_i a' b' c' hs
      split at h
      · rename_i hc
        cases h
        refine ⟨hc.2.2, ?_⟩
        have hk := (keyB_iff.1 hc.2.2).2.2
        rw [ktx_yes hc.2.2, show (1000000 - (1000000 - (val c' : Int))).toNat = val c' by omega, ← hc.1, fix_of _ hc.2.1]
        have := joined_spl 1 l
        rw [hs] at this
        exact this
      · cases h
    · cases h
  · rintro ⟨h, rfl⟩
    have hk := keyB_iff.1 h
    rw [ktx_yes h]
    have hf : (1 : UInt8) ∉ fixd 7 (1000000 - t).toNat := by
      intro hm
      have := List.all_eq_true.1 (fix_dig 7 (1000000 - t).toNat) 1 hm
      revert this; decide
    have hv := fix_val 7 (1000000 - t).toNat (by omega)
    have hs : spl 1 (a ++ (1 :: (b ++ (1 :: fixd 7 (1000000 - t).toNat)))) = [a, b, fixd 7 (1000000 - t).toNat] := by
      rw [spl_app (nm_one hk.1), spl_app (nm_one hk.2.1), spl_none hf]
    rw [kof_three hs, hv, show (1000000 - (((1000000 - t).toNat : Nat) : Int)) = t by omega, if_pos ⟨fix_len _ _, fix_dig _ _, h⟩]

/-- A cut at a byte. -/
theorem index_not : ∀ (l : List UInt8) (d : UInt8), d ∉ l → Lib.indexByte l d = -1
  | [], _, _ => rfl
  | c :: r, d, h => by
    rw [Lib.indexByte, if_neg (by simp; intro e; exact h (by simp [e])), index_not r d (fun hm => h (List.mem_cons_of_mem _ hm))]; rfl
theorem index_app : ∀ (l : List UInt8) (d : UInt8) (r : List UInt8), d ∉ l → Lib.indexByte (l ++ d :: r) d = l.length
  | [], d, r, _ => by simp [Lib.indexByte]
  | c :: l, d, r, h => by
    rw [List.cons_append, Lib.indexByte, if_neg (by simp; intro e; exact h (by simp [e])), index_app l d r (fun hm => h (List.mem_cons_of_mem _ hm)), if_neg (by rw [beq_iff_eq]; omega)]
    simp
theorem cut_app {l r : List UInt8} {d : UInt8} (h : d ∉ l) : Lib.cut (l ++ d :: r) [d] = (l, r, true) := by
  unfold Lib.cut
  rw [Lib.index_one, index_app l d r h, if_pos (by omega)]
  simp
theorem cut_none {l : List UInt8} {d : UInt8} (h : d ∉ l) : Lib.cut l [d] = (l, [], false) := by
  unfold Lib.cut
  rw [Lib.index_one, index_not l d h, if_neg (by decide)]
theorem cut_len (l s : List UInt8) : (Lib.cut l s).1.length ≤ l.length ∧ (Lib.cut l s).2.1.length ≤ l.length := by
  unfold Lib.cut
  split
  · simp; omega
  · simp

theorem parseM_big (M : Nat) (l : List UInt8) : ∀ acc, l.all isDig = true → foldD acc l ≤ 1000000000 → foldD acc l ≤ M → Lib.parseUintM M acc l = .ok (foldD acc l) := by
  induction l with
  | nil => intro acc _ _ _; rfl
  | cons c r ih =>
    intro acc h hb hm
    have hf : foldD acc (c :: r) = foldD (acc * 10 + (c.toNat - 48)) r := rfl
    rw [hf] at hb hm ⊢
    rw [List.all_cons, Bool.and_eq_true] at h
    have hc := h.1
    simp [isDig] at hc
    have := fold_ge r (acc * 10 + (c.toNat - 48))
    unfold Lib.parseUintM
    rw [if_pos hc, if_neg (by omega), if_neg (by omega)]
    exact ih _ h.2 hb hm
/-- ParseInt of digits. -/
theorem parse_dig (l : List UInt8) (h : l.all isDig = true) (hne : l ≠ []) (hv : val l ≤ 1000000000) : Lib.parseIntB 64 l = .ok (val l : Int) := by
  cases l with
  | nil => exact absurd rfl hne
  | cons c r =>
    have hc : isDig c = true := by rw [List.all_cons, Bool.and_eq_true] at h; exact h.1
    simp [isDig] at hc
    rw [Lib.parseIntB_plain 64 c r (by omega) (by omega)]
    unfold Lib.parseUintB
    have h64 : (2 ^ 64 - 1 : Nat) = 18446744073709551615 := by decide
    rw [if_neg hne, parseM_big _ _ 0 h hv (by show val _ ≤ _; omega), show foldD 0 (c :: r) = val (c :: r) from rfl]
    simp [Lib.signlessC]; omega

/-- impl.KeyOf's three parts. -/
def cutR (l : List UInt8) : List UInt8 := (Lib.cut l [1]).1
def cutB (l : List UInt8) : List UInt8 := (Lib.cut (Lib.cut l [1]).2.1 [1]).1
def cutD (l : List UInt8) : List UInt8 := (Lib.cut (Lib.cut l [1]).2.1 [1]).2.1
theorem kof_cut {l a b : List UInt8} {t : Int} (h : kof l = some (a, b, t)) : cutR l = a ∧ cutB l = b ∧ Lib.parseIntB 64 (cutD l) = .ok (1000000 - t) ∧ 0 ≤ t ∧ t ≤ 1000000 := by
  obtain ⟨h1, rfl⟩ := (kof_iff l a b t).1 h
  have hk := keyB_iff.1 h1
  rw [ktx_yes h1]
  have e1 := cut_app (r := b ++ (1 :: fixd 7 (1000000 - t).toNat)) (nm_one hk.1)
  have e2 := cut_app (r := fixd 7 (1000000 - t).toNat) (nm_one hk.2.1)
  have hv := fix_val 7 (1000000 - t).toNat (by omega)
  refine ⟨by unfold cutR; rw [e1], by unfold cutB; rw [e1, e2], ?_, hk.2.2⟩
  have e3 : cutD (a ++ (1 :: (b ++ (1 :: fixd 7 (1000000 - t).toNat)))) = fixd 7 (1000000 - t).toNat := by unfold cutD; rw [e1, e2]
  rw [e3, parse_dig _ (fix_dig _ _) (by intro e; have := fix_len 7 (1000000 - t).toNat; rw [e] at this; cases this) (by rw [hv]; omega), hv]
  congr 1; omega
/-- ParseInt fails: no key. -/
theorem kof_bad {l : List UInt8} (h : ∀ v, Lib.parseIntB 64 (cutD l) ≠ .ok v) : kof l = none := by
  cases hr : kof l with
  | none => rfl
  | some x => obtain ⟨a, b, t⟩ := x; exact absurd (kof_cut hr).2.2.1 (h _)
/-- It is written back so: the key. -/
theorem kof_back {l : List UInt8} {v t : Int} (h : Lib.parseIntB 64 (cutD l) = .ok v) (e : ktx (cutR l) (cutB l) t = l) : kof l = some (cutR l, cutB l, t) := by
  refine (kof_iff _ _ _ _).2 ⟨?_, e⟩
  cases hk : keyB (cutR l) (cutB l) t with
  | true => rfl
  | false =>
    rw [ktx_no hk] at e
    have : cutD l = [] := by rw [← e]; rfl
    rw [this] at h
    cases h
/-- It is written back otherwise: no key. -/
theorem kof_other {l : List UInt8} {v t : Int} (h : Lib.parseIntB 64 (cutD l) = .ok v) (ht : 0 ≤ v → v ≤ 1000000 → t = 1000000 - v) (e : ktx (cutR l) (cutB l) t ≠ l) : kof l = none := by
  cases hr : kof l with
  | none => rfl
  | some x =>
    obtain ⟨a, b, t'⟩ := x
    obtain ⟨h1, h2, h3, h4, h5⟩ := kof_cut hr
    rw [h] at h3
    cases h3
    have := ht (by omega) (by omega)
    have e' := ((kof_iff _ _ _ _).1 hr).2
    rw [← h1, ← h2, show t' = t by omega] at e'
    exact absurd e' e
end Go.Proofs.YtdalncgbbkeimaaDoor.Kp
