/-
  Texts of mine, joined (part 1 of 7): what the law at hand reaches of them; each text's own words stand in the verifier's repo.
-/
import Derived.Test.YtoiphglfngkoiaaGreatDoorRows
import Derived.WalkKit
import Derived.IntWalk
import Derived.Laws.Bits128
import Derived.Lib.Hide
import Derived.Lib.ParseIntBTie
import Derived.Lib.ParseIntBCases
import Derived.Lib.ItoaMem
import Derived.Lib.IndexMore
import Derived.Lib.Repeat
import Derived.WalkSpells
import Derived.Below
import Derived.Carry
import Derived.WalkSmall
import Derived.Laws.Closers25b
import Derived.Lib.Strings
import Derived.Lib.SmallJoins
import Derived.Lib.AppendIntMem
import Derived.Maps.AppendAt
import Derived.OwnWalk
import Derived.WalkLawsBesides
import Derived.Deep.QuietTactic
import Derived.BigQuiet
import Derived.Deep.RegionHeld3
import Derived.Laws.OwnMore
import Derived.Laws.StructEq
import Derived.BigFrame
import Derived.Deep.Upon
import Derived.Laws.CopyRow
import Derived.Laws.BytesArg
import Derived.RowKit3
import Derived.Shelf.Strconv.Itoa4
import Derived.Shelf.Strconv.ParseIntPublic10
import Derived.Shelf.Strconv.ErrVarParseInt
import Derived.Test.YtoiphglfngkoiaaGreatDoorProg
import Derived.LaidMore
import Derived.Stop.LaidErr
import Derived.Lib.LaidTab
import Derived.Deep.LoopGhost
import Derived.RangeFuncWrites
import Derived.RangeFuncCalls
import Derived.RangeFuncBox
import Derived.RangeFuncNested
import Derived.RangeFuncLeaves
import Derived.Shelf.Abstract
import Derived.Shelf.RegionOpen
import Derived.OwnWalkIn
import Derived.TacticsInMore
import Derived.LoopNIn
import Derived.LoopIn
import Derived.Lib.AtoiErrMem
import Derived.OpenShut
import Derived.Lib.ConvBytes
import Derived.Deep.RegionLaw
import Derived.Deep.AppendLies
import Derived.Lib.AppendZeros
import Derived.ProofKit
import Derived.Handed
import Derived.SizedLaws
import Derived.ShutString
import Derived.Deep.Slices
import Derived.Deep.Fields
import Derived.ChangeSame
namespace Go.Proofs.YtoiphglfngkoiaaGreatDoor.Wd
set_option linter.unusedVariables false
open Go.RowKit
def I64 (n : Int) : Prop := -9223372036854775808 ≤ n ∧ n ≤ 9223372036854775807
def wr (n : Int) : Int := (n + 2147483648) % 4294967296 - 2147483648
def isW (n : Int) : Bool := decide (-2147483648 ≤ n ∧ n ≤ 2147483647)
theorem isW_iff (n : Int) : isW n = true ↔ -2147483648 ≤ n ∧ n ≤ 2147483647 := by unfold isW; simp
def inB (x lo hi : Int) : Bool := decide (lo ≤ x) && decide (x ≤ hi)
theorem inB_w (n : Int) : inB n (-2147483648) 2147483647 = isW n := by unfold inB isW; simp
theorem l1In_any (x lo hi : Int) (w : World) :
    Calls Tryz.prog 52 #[.int .i64 x, .int .i64 lo, .int .i64 hi] w fun e w' => e = .returned (.bool (inB x lo hi)) ∧ w = w' := by
  by_cases h : lo ≤ x
  · have h1 : decide (lo ≤ x) = true := by simpa using h
    have e : inB x lo hi = decide (x ≤ hi) := by simp [inB, h]
    have E := Lib.hid e; clear e
    go_enter Tryz.func52, Tryz.ntmps52
    go_wp2
    go_ret
    exact ⟨by rw [E.out]; rfl, rfl⟩
  · have h1 : decide (lo ≤ x) = false := by simpa using h
    have e : inB x lo hi = false := by simp [inB, h]
    have E := Lib.hid e; clear e
    go_enter Tryz.func52, Tryz.ntmps52
    go_wp2
    go_ret
    exact ⟨by rw [E.out]; rfl, rfl⟩

theorem l1Word_any (n : Int) (w : World) :
    Calls Tryz.prog 41 #[.int .i64 n] w fun e w' => e = .returned (.bool (isW n)) ∧ w = w' := by
  go_enter Tryz.func41, Tryz.ntmps41
  go_wp2_with (go_at_call 52; refine (l1In_any _ _ _ _).mono ?_; rintro e w' ⟨rfl, rfl⟩)
  go_ret
  exact ⟨by rw [inB_w]; rfl, rfl⟩
end Go.Proofs.YtoiphglfngkoiaaGreatDoor.Wd
namespace Go.Proofs.YtoiphglfngkoiaaGreatDoor.Rp
set_option linter.unusedVariables false
open Wd
theorem snoc_rec {α : Type} {P : List α → Prop} (h0 : P []) (h1 : ∀ l c, P l → P (l ++ [c])) (l : List α) : P l := by
  have : ∀ r : List α, P r.reverse := by
    intro r
    induction r with
    | nil => exact h0
    | cons c r ih => rw [List.reverse_cons]; exact h1 _ _ ih
  simpa using this l.reverse

def isDig (c : UInt8) : Bool := decide (48 ≤ c.toNat) && decide (c.toNat ≤ 57)
def foldD (acc : Nat) (l : List UInt8) : Nat := l.foldl (fun a c => a * 10 + (c.toNat - 48)) acc
def val (l : List UInt8) : Nat := foldD 0 l
theorem val_snoc (l : List UInt8) (c : UInt8) : val (l ++ [c]) = val l * 10 + (c.toNat - 48) := by simp [val, foldD, List.foldl_append]
theorem val_lt (l : List UInt8) (h : l.all isDig = true) : val l < 10 ^ l.length := by
  revert h
  refine snoc_rec (P := fun l => l.all isDig = true → val l < 10 ^ l.length) (by simp [val, foldD]) (fun l c ih h => ?_) l
  rw [List.all_append, Bool.and_eq_true] at h
  have h1 := ih h.1
  have h2 : isDig c = true := by simpa using h.2
  simp [isDig] at h2
  rw [val_snoc]
  simp only [List.length_append, List.length_singleton, Nat.pow_succ]
  omega
theorem byte_eq (c : UInt8) (h : 48 ≤ c.toNat) : UInt8.ofNat (48 + (c.toNat - 48)) = c := by
  rw [show 48 + (c.toNat - 48) = c.toNat by omega]; simp
theorem dec_val (l : List UInt8) (h : l.all isDig = true) (hne : l ≠ []) (h0 : l.head? ≠ some 48 ∨ l.length = 1) : Lib.decDigits (val l) = l := by
  revert h hne h0
  refine snoc_rec (P := fun l => l.all isDig = true → l ≠ [] → (l.head? ≠ some 48 ∨ l.length = 1) → Lib.decDigits (val l) = l) (fun _ h => absurd rfl h) (fun l c ih h _ h0 => ?_) l
  rw [List.all_append, Bool.and_eq_true] at h
  have hc : isDig c = true := by simpa using h.2
  simp [isDig] at hc
  by_cases hl : l = []
  · subst hl
    have hv : val ([] ++ [c]) = c.toNat - 48 := by simp [val, foldD]
    rw [hv, Lib.decDigits_one (by omega), byte_eq c hc.1]; rfl
  · have hh : l.head? ≠ some 48 := by
      rcases h0 with h0 | h0
      · intro e
        apply h0
        cases l with
        | nil => exact absurd rfl hl
        | cons x r => simpa using e
      · simp at h0; exact absurd h0 hl
    have e := ih h.1 hl (Or.inl hh)
    have hpos : val l ≠ 0 := by
      intro hz
      rw [hz, Lib.decDigits_one (by omega)] at e
      apply hh
      rw [← e]; rfl
    rw [val_snoc, Lib.decDigits, dif_neg (by omega), show (val l * 10 + (c.toNat - 48)) / 10 = val l by omega, e, show (val l * 10 + (c.toNat - 48)) % 10 = c.toNat - 48 by omega, byte_eq c hc.1]
theorem ofNat_toNat (d : Nat) (h : d < 10) : (UInt8.ofNat (48 + d)).toNat = 48 + d := by
  rw [UInt8.toNat_ofNat']; omega
theorem dig_ofNat (d : Nat) (h : d < 10) : isDig (UInt8.ofNat (48 + d)) = true := by
  unfold isDig; rw [ofNat_toNat d h]; simp; omega
theorem dec_is : ∀ (n u : Nat), u ≤ n → (Lib.decDigits u).all isDig = true ∧ val (Lib.decDigits u) = u ∧ Lib.decDigits u ≠ [] ∧ ((Lib.decDigits u).head? ≠ some 48 ∨ (Lib.decDigits u).length = 1)
  | n, u, hu => by
    by_cases h : u < 10
    · rw [Lib.decDigits_one h]
      refine ⟨by rw [List.all_cons, dig_ofNat u h]; rfl, ?_, by simp, Or.inr rfl⟩
      have := ofNat_toNat u h
      simp [val, foldD] at this ⊢
      omega
    · match n, hu with
      | 0, hu => omega
      | n + 1, hu =>
        obtain ⟨i1, i2, i3, i4⟩ := dec_is n (u / 10) (by omega)
        rw [Lib.decDigits, dif_neg h]
        refine ⟨?_, ?_, by simp, Or.inl ?_⟩
        · rw [List.all_append, i1, List.all_cons, dig_ofNat (u % 10) (by omega)]; rfl
        · rw [val_snoc, i2, ofNat_toNat _ (by omega)]; omega
        · intro e
          have he : (Lib.decDigits (u / 10)).head? = some 48 := by
            cases hd : Lib.decDigits (u / 10) with
            | nil => exact absurd hd i3
            | cons x r => rw [hd] at e; simpa using e
          rcases i4 with i4 | i4
          · exact i4 he
          · cases hd : Lib.decDigits (u / 10) with
            | nil => exact absurd hd i3
            | cons x r =>
              rw [hd] at he i4
              simp at he i4
              subst he i4
              rw [hd] at i2
              simp [val, foldD] at i2
              omega
theorem dec_len : ∀ (k u : Nat), u < 10 ^ (k + 1) → (Lib.decDigits u).length ≤ k + 1
  | 0, u, h => by rw [Lib.decDigits_one (by simpa using h)]; simp
  | k + 1, u, h => by
    by_cases h10 : u < 10
    · rw [Lib.decDigits_one h10]; simp
    · rw [Lib.decDigits, dif_neg h10]
      have := dec_len k (u / 10) (by rw [Nat.pow_succ] at h; omega)
      simp; omega

def rd (l : List UInt8) : Option Int :=
  if l.head? = some 45 then
    if l.tail.length < 1 ∨ 10 < l.tail.length then none
    else if ¬ l.tail.all isDig = true then none
    else if l.tail.head? = some 48 then none
    else if isW (-(val l.tail : Int)) then some (-(val l.tail : Int)) else none
  else
    if l.length < 1 ∨ 10 < l.length then none
    else if ¬ l.all isDig = true then none
    else if l.head? = some 48 ∧ 1 < l.length then none
    else if isW (val l : Int) then some (val l : Int) else none
def rdV (l : List UInt8) : Int := (rd l).getD 0
def rdB (l : List UInt8) : Bool := (rd l).isSome

theorem rd_iff (l : List UInt8) (v : Int) : rd l = some v ↔ isW v = true ∧ Lib.itoa v = l := by
  unfold rd
  constructor
  · intro h
    split at h
    · rename_i hm
      split at h
      · cases h
      rename_i h1
      split at h
      · cases h
      rename_i h2
      split at h
      · cases h
      rename_i h3
      split at h
      · rename_i h4
        cases h
        refine ⟨h4, ?_⟩
        simp only [Decidable.not_not] at h2
        cases l with
        | nil => cases hm
        | cons c r =>
          simp only [List.head?_cons, Option.some.injEq] at hm
          subst hm
          simp only [List.tail_cons] at h1 h2 h3 h4 ⊢
          have hd := dec_val r h2 (by intro e; subst e; simp at h1) (Or.inl h3)
          have hp : 1 ≤ val r := by
            apply Nat.pos_of_ne_zero
            intro hz
            rw [hz, Lib.decDigits_one (by omega)] at hd
            apply h3; rw [← hd]; rfl
          rw [Lib.itoa_neg _ hp, hd]
      · cases h
    · split at h
      · cases h
      rename_i h1
      split at h
      · cases h
      rename_i h2
      split at h
      · cases h
      rename_i h3
      split at h
      · rename_i h4
        cases h
        refine ⟨h4, ?_⟩
        simp only [Decidable.not_not] at h2
        have hd := dec_val l h2 (by intro e; subst e; simp at h1) (by
          by_cases hh : l.head? = some 48
          · exact Or.inr (by have : ¬ 1 < l.length := fun g => h3 ⟨hh, g⟩; omega)
          · exact Or.inl hh)
        rw [Lib.itoa_nonneg, hd]
      · cases h
  · rintro ⟨hw, rfl⟩
    have hb := (isW_iff v).1 hw
    by_cases hv : v < 0
    · obtain ⟨u, rfl⟩ : ∃ u : Nat, v = -(u : Int) := ⟨v.natAbs, by omega⟩
      have hu : 1 ≤ u := by omega
      rw [Lib.itoa_neg u hu]
      obtain ⟨i1, i2, i3, i4⟩ := dec_is u u (Nat.le_refl _)
      have hlen := dec_len 9 u (by omega)
      have hl1 : 1 ≤ (Lib.decDigits u).length := List.length_pos_iff.2 i3
      have hh : (Lib.decDigits u).head? ≠ some 48 := by
        rcases i4 with i4 | i4
        · exact i4
        · intro e
          cases hd : Lib.decDigits u with
          | nil => exact i3 hd
          | cons x r =>
            rw [hd] at e i4 i2
            simp at e i4
            subst e i4
            simp [val, foldD] at i2
            omega
      rw [if_pos (show (45 :: Lib.decDigits u).head? = some 45 from rfl)]
      generalize ht : (45 :: Lib.decDigits u).tail = t
      obtain rfl : t = Lib.decDigits u := ht.symm
      rw [if_neg (by omega), if_neg (by simp [i1]), if_neg hh, i2, if_pos hw]
    · obtain ⟨u, rfl⟩ : ∃ u : Nat, v = (u : Int) := ⟨v.natAbs, by omega⟩
      rw [Lib.itoa_nonneg]
      obtain ⟨i1, i2, i3, i4⟩ := dec_is u u (Nat.le_refl _)
      have hlen := dec_len 9 u (by omega)
      have hl1 : 1 ≤ (Lib.decDigits u).length := List.length_pos_iff.2 i3
      have hm : (Lib.decDigits u).head? ≠ some 45 := by
        intro e
        cases hd : Lib.decDigits u with
        | nil => exact i3 hd
        | cons x r =>
          rw [hd] at e i1
          simp at e
          subst e
          simp [isDig] at i1
      rw [if_neg hm, if_neg (by omega), if_neg (by simp [i1]), if_neg (by
        rintro ⟨e, h1⟩
        rcases i4 with i4 | i4
        · exact i4 e
        · omega), i2, if_pos hw]

theorem fold_ge (l : List UInt8) : ∀ acc, acc ≤ foldD acc l := by
  induction l with
  | nil => intro acc; exact Nat.le_refl _
  | cons c r ih => intro acc; have := ih (acc * 10 + (c.toNat - 48)); simp only [foldD, List.foldl_cons] at this ⊢; omega
theorem parseM_ok (l : List UInt8) : ∀ acc, l.all isDig = true → foldD acc l ≤ 4294967295 → Lib.parseUintM 4294967295 acc l = .ok (foldD acc l) := by
  induction l with
  | nil => intro acc _ _; rfl
  | cons c r ih =>
    intro acc h hb
    have hf : foldD acc (c :: r) = foldD (acc * 10 + (c.toNat - 48)) r := rfl
    rw [hf] at hb ⊢
    rw [List.all_cons, Bool.and_eq_true] at h
    have hc := h.1
    simp [isDig] at hc
    have := fold_ge r (acc * 10 + (c.toNat - 48))
    unfold Lib.parseUintM
    rw [if_pos hc, if_neg (by omega), if_neg (by omega)]
    exact ih _ h.2 hb
theorem parse_itoa (v : Int) (hw : isW v = true) : Lib.parseIntB 32 (Lib.itoa v) = .ok v := by
  have hb := (isW_iff v).1 hw
  by_cases hv : v < 0
  · obtain ⟨u, rfl⟩ : ∃ u : Nat, v = -(u : Int) := ⟨v.natAbs, by omega⟩
    obtain ⟨i1, i2, i3, i4⟩ := dec_is u u (Nat.le_refl _)
    rw [Lib.itoa_neg u (by omega), Lib.parseIntB_minus]
    unfold Lib.parseUintB
    rw [if_neg i3, show (2 ^ 32 - 1 : Nat) = 4294967295 by decide, parseM_ok _ 0 i1 (by show val _ ≤ _; rw [i2]; omega), show foldD 0 (Lib.decDigits u) = u from i2]
    simp [Lib.signedC]; omega
  · obtain ⟨u, rfl⟩ : ∃ u : Nat, v = (u : Int) := ⟨v.natAbs, by omega⟩
    obtain ⟨i1, i2, i3, i4⟩ := dec_is u u (Nat.le_refl _)
    rw [Lib.itoa_nonneg]
    cases hd : Lib.decDigits u with
    | nil => exact absurd hd i3
    | cons c r =>
      have hc : isDig c = true := by rw [hd, List.all_cons, Bool.and_eq_true] at i1; exact i1.1
      simp [isDig] at hc
      rw [Lib.parseIntB_plain 32 c r (by omega) (by omega), ← hd]
      unfold Lib.parseUintB
      rw [if_neg i3, show (2 ^ 32 - 1 : Nat) = 4294967295 by decide, parseM_ok _ 0 i1 (by show val _ ≤ _; rw [i2]; omega), show foldD 0 (Lib.decDigits u) = u from i2]
      simp [Lib.signlessC]; omega
theorem parse_isW {l : List UInt8} {v : Int} (h : Lib.parseIntB 32 l = .ok v) : isW v = true := by
  have := Lib.parseIntB_bounds h
  rw [isW_iff]
  have e : ((2 ^ (32 - 1) : Nat) : Int) = 2147483648 := by decide
  rw [e] at this
  omega
theorem rd_ok {l : List UInt8} {v : Int} (h : Lib.parseIntB 32 l = .ok v) (e : Lib.itoa v = l) : rd l = some v := (rd_iff l v).2 ⟨parse_isW h, e⟩
theorem rd_other {l : List UInt8} {v : Int} (h : Lib.parseIntB 32 l = .ok v) (e : Lib.itoa v ≠ l) : rd l = none := by
  cases hr : rd l with
  | none => rfl
  | some x =>
    obtain ⟨h1, h2⟩ := (rd_iff l x).1 hr
    have := parse_itoa x h1
    rw [h2, h] at this
    cases this
    exact absurd h2 e
theorem rd_bad {l : List UInt8} (h : ∀ v, Lib.parseIntB 32 l ≠ .ok v) : rd l = none := by
  cases hr : rd l with
  | none => rfl
  | some x =>
    obtain ⟨h1, h2⟩ := (rd_iff l x).1 hr
    have := parse_itoa x h1
    rw [h2] at this
    exact absurd this (h x)
end Go.Proofs.YtoiphglfngkoiaaGreatDoor.Rp
namespace Go.Proofs.YtoiphglfngkoiaaGreatDoor.Kp
set_option linter.unusedVariables false
open Wd Rp
def isLow (c : UInt8) : Bool := decide (97 ≤ c.toNat) && decide (c.toNat ≤ 122)
def nmB (l : List UInt8) : Bool := l.all isLow && (decide (1 ≤ l.length) && decide (l.length ≤ 8))
def keyB (r b : List UInt8) (t : Int) : Bool := nmB r && (nmB b && inB t 0 1000000)
end Go.Proofs.YtoiphglfngkoiaaGreatDoor.Kp
namespace Go.Proofs.YtoiphglfngkoiaaGreatDoor.Kp
set_option linter.unusedVariables false
open Go.RowKit Wd
theorem llen (s : ByteArray) : s.data.toList.length = s.size := (Lib.size_eq s).symm
theorem ltake_snoc (s : ByteArray) (k : Nat) (h : k < s.size) : s.data.toList.take (k + 1) = s.data.toList.take k ++ [s[k]] := by
  rw [List.take_succ_eq_append_getElem (by simpa using h)]; rfl
theorem lnot_all {p : UInt8 → Bool} (s : ByteArray) (k : Nat) (h : k < s.size) (hd : p s[k] = false) : s.data.toList.all p = false := by
  cases ha : s.data.toList.all p with
  | false => rfl
  | true =>
    rw [List.all_eq_true] at ha
    have hm : s[k] ∈ s.data.toList := by
      rw [List.mem_iff_getElem?]
      exact ⟨k, by rw [List.getElem?_eq_getElem (by rw [llen]; exact h)]; rfl⟩
    rw [ha _ hm] at hd; cases hd
theorem bel1 (w : World) (o : Obj) : Below w.heap.size w (w.alloc o) := (Below.refl _ _).alloc (Nat.le_refl _) o
theorem bel2 (w : World) (o p : Obj) : Below w.heap.size w ((w.alloc o).alloc p) := (bel1 w o).alloc (bel1 w o).size p
theorem bel3 (w : World) (o p q : Obj) : Below w.heap.size w (((w.alloc o).alloc p).alloc q) := (bel2 w o p).alloc (bel2 w o p).size q
theorem bel_tr {B : Nat} {x y z : World} (h : Below B x y) (k : Below y.heap.size y z) (hB : B ≤ x.heap.size) : Below B x z := h.trans (k.mono (Nat.le_trans hB h.size))
theorem bel_drewN {B : Nat} {a w : World} (h : Below B a w) (n : Nat) : Below B a (w.drewN n) := ⟨h.os, h.tape, h.output, h.size, h.block⟩
def tx (l : List UInt8) : ByteArray := ⟨l.toArray⟩
theorem tx_data (l : List UInt8) : (tx l).data.toList = l := by simp [tx]
theorem tx_size (l : List UInt8) : (tx l).size = l.length := by rw [Lib.size_eq, tx_data]
theorem tx_of (s : ByteArray) : tx s.data.toList = s := by
  obtain ⟨a⟩ := s; simp [tx]
def LibT (w : World) : Prop := Lib.TabIs Tryz.prog w "internal/strconv.uint64pow10" .u64 Lib.pow10Tab ∧ 2 < w.heap.size
theorem gT : Tryz.prog.globalNamed "internal/strconv.uint64pow10" = some 2 := by kernel_rfl
theorem LibT.next {w w' : World} (h : LibT w) (hb : Below w.heap.size w w') : LibT w' := ⟨var?_below hb gT h.2 h.1, Nat.lt_of_lt_of_le h.2 hb.size⟩
def sub (s : ByteArray) (f k : Nat) : List UInt8 := (s.data.toList.take k).drop f
theorem sub_self (s : ByteArray) (k : Nat) : sub s k k = [] := by
  unfold sub; apply List.drop_eq_nil_of_le; rw [List.length_take]; omega
def OwnS (B : Nat) (w : World) (v : Value) (l : List (List UInt8)) : Prop := v ≠ .slice none 0 0 ∧ w.ownsRow B 9 1 v l.length (l.map fun p => .string (tx p))
theorem OwnS.start {B : Nat} {w : World} (h : B ≤ w.heap.size) : OwnS B (w.alloc (.cells #[] 9)) (.slice (some ⟨w.heap.size, 0, none⟩) 0 0) [] :=
  ⟨(fun e => by cases e), World.ownsRow_made w #[] 0 h (by decide) rfl⟩
theorem OwnS.snoc {B : Nat} {w : World} {v : Value} {l : List (List UInt8)} {p : List UInt8} (hv : v ≠ .slice none 0 0) (h : w.ownsRow B 9 1 v (l.length + 1) ((l.map fun p => .string (tx p)) ++ [.string (tx p)])) : OwnS B w v (l ++ [p]) :=
  ⟨hv, by rw [List.length_append, List.length_singleton, List.map_append]; exact h⟩
def intV : Value → Nat | .int _ n => n.toNat | _ => 0
theorem OwnS.any {B : Nat} {w : World} {v : Value} {l : List (List UInt8)} (h : OwnS B w v l) : ∃ g cap, v = .slice (some ⟨g, 0, none⟩) l.length cap := by
  obtain ⟨h0, hl, h1⟩ := h
  rcases h1 with ⟨rfl, _⟩ | ⟨g, cap, cur, rfl, _⟩
  · exact absurd rfl h0
  · exact ⟨g, cap, rfl⟩
theorem OwnS.cell {B : Nat} {w : World} {l : List (List UInt8)} {g n cap : Nat} (h : OwnS B w (.slice (some ⟨g, 0, none⟩) n cap) l) : n = l.length ∧ B ≤ g ∧ g < w.heap.size ∧ n ≤ cap ∧ ∀ j (hj : j < l.length), w.cell? ⟨g, j, none⟩ = some (.string (tx l[j])) := by
  obtain ⟨h0, hl, h1⟩ := h
  rcases h1 with ⟨e, _⟩ | ⟨g', cap', cur, e, hb, hg, hn, hc, hsz, hxs⟩
  · exact absurd e h0
  · cases e
    refine ⟨rfl, hb, (Array.getElem?_eq_some_iff.1 hg).1, hn, fun j hj => ?_⟩
    have e1 : (l.map fun p => Value.string (tx p))[j]? = some (.string (tx l[j])) := by rw [List.getElem?_map, List.getElem?_eq_getElem hj]; rfl
    rw [← hxs, List.getElem?_take_of_lt (by omega)] at e1
    simpa [World.cell?, hg] using e1
end Go.Proofs.YtoiphglfngkoiaaGreatDoor.Kp
namespace Go.Proofs.YtoiphglfngkoiaaGreatDoor.Kp
set_option linter.unusedVariables false
open Go.RowKit Wd Rp
theorem low_of {c : UInt8} (h : isLow c = true) : (97 : Int) ≤ (c.toNat : Int) ∧ (c.toNat : Int) ≤ 122 := by simp [isLow] at h; omega
theorem low_not {c : UInt8} (h : isLow c = false) : (c.toNat : Int) < 97 ∨ (122 : Int) < (c.toNat : Int) := by
  have : ¬ (97 ≤ c.toNat ∧ c.toNat ≤ 122) := by intro g; have : isLow c = true := by simp [isLow, g.1, g.2]
                                                rw [this] at h; cases h
  omega
def NmPost (s : ByteArray) (w : World) (e : Ending) (w' : World) : Prop := e = .returned (.bool (nmB s.data.toList)) ∧ w = w'
theorem nm_no {s : ByteArray} {w : World} (k : Nat) (h : k < s.size) (hd : isLow s[k] = false) : NmPost s w (.returned (.bool false)) w := by
  refine ⟨?_, rfl⟩; unfold nmB; rw [lnot_all s k h hd]; rfl
theorem nm_in {s : ByteArray} {w : World} (h : (s.data.toList.take s.size).all isLow = true) : NmPost s w (.returned (.bool (inB (s.size : Int) 1 8))) w := by
  rw [List.take_of_length_le (by rw [llen]; exact Nat.le_refl _)] at h
  refine ⟨?_, rfl⟩; unfold nmB inB; rw [h, llen, Bool.true_and]
  congr 3 <;> (congr 1; simp; omega)
theorem nm_range {s : ByteArray} {w : World} (h : s.size < 1 ∨ 8 < s.size) : NmPost s w (.returned (.bool false)) w := by
  refine ⟨?_, rfl⟩; unfold nmB; rw [llen]
  have : (decide (1 ≤ s.size) && decide (s.size ≤ 8)) = false := by simp; omega
  rw [this, Bool.and_false]
theorem nm_yes {s : ByteArray} {w : World} (h : (s.data.toList.take s.size).all isLow = true) (h1 : 1 ≤ s.size) (h2 : s.size ≤ 8) : NmPost s w (.returned (.bool true)) w := by
  rw [List.take_of_length_le (by rw [llen]; exact Nat.le_refl _)] at h
  refine ⟨?_, rfl⟩; unfold nmB; rw [llen, h]; simp [h1, h2]

set_option maxHeartbeats 1000000 in
theorem specName_any (s : ByteArray) (w : World) (hs : s.size ≤ 9223372036854775806) : Calls Tryz.prog 35 #[.string s] w (NmPost s w) := by
  go_enter Tryz.func35, Tryz.ntmps35
  go_wp2
  go_loop [3] (fun i => ∃ k : Nat, k ≤ s.size ∧ i = .int .i64 k ∧ (s.data.toList.take k).all isLow = true) (fun i => s.size - (intOf i).toNat)
  case atStart => exact ⟨0, Nat.zero_le _, rfl, rfl⟩
  case round =>
    obtain ⟨k, hk, rfl, hall⟩ := hrel
    have HA := Lib.hid hall; clear hall
    by_cases hlt : k < s.size
    · have hps := ltake_snoc s k hlt
      have HP := Lib.hid hps; clear hps
      cases hd : isLow s[k]
      · have hn := nm_no (w := w) k hlt hd
        have HN := Lib.hid hn; clear hn
        have hx := low_not hd
        clear hd
        rcases hx with hx | hx
        · go_wp2
          go_ret
          exact HN.out
        · go_wp2
          go_ret
          exact HN.out
      · obtain ⟨d0, d1⟩ := low_of hd
        have HD := Lib.hid hd; clear hd
        go_wp2
        go_round
        case rel => exact ⟨k + 1, by omega, by go_num, by rw [HP.out, List.all_append, HA.out]; simp [HD.out]⟩
        case measure => simp [intOf]; omega
    · obtain rfl : k = s.size := by omega
      have hn := nm_in (w := w) HA.out
      have HN := Lib.hid hn; clear hn
      go_wp2_with (go_at_call 52; refine (l1In_any _ _ _ _).mono ?_; rintro e w' ⟨rfl, rfl⟩)
      go_ret
      exact HN.out
set_option maxHeartbeats 1000000 in
theorem implName_short (s : ByteArray) (w : World) (h : s.size < 1 ∨ 8 < s.size) : Calls Tryz.prog 55 #[.string s] w (NmPost s w) := by
  have hn := nm_range (w := w) h
  have HN := Lib.hid hn; clear hn
  rcases h with h | h
  · have h1 : (s.size : Int) < 1 := by omega
    have h2 : decide ((s.size : Int) < 1) = true := by simpa using h1
    go_enter Tryz.func55, Tryz.ntmps55
    go_wp2
    go_ret
    exact HN.out
  · have h1 : ¬ (s.size : Int) < 1 := by omega
    have h2 : decide ((s.size : Int) < 1) = false := by simpa using h1
    have h3 : 8 < (s.size : Int) := by omega
    go_enter Tryz.func55, Tryz.ntmps55
    go_wp2
    go_ret
    exact HN.out
set_option maxHeartbeats 1000000 in
theorem implName_long (s : ByteArray) (w : World) (h1 : 1 ≤ s.size) (h2 : s.size ≤ 8) : Calls Tryz.prog 55 #[.string s] w (NmPost s w) := by
  have g1 : ¬ (s.size : Int) < 1 := by omega
  have g2 : decide ((s.size : Int) < 1) = false := by simpa using g1
  have g3 : ¬ 8 < (s.size : Int) := by omega
  go_enter Tryz.func55, Tryz.ntmps55
  go_wp2
  go_loop [3, 14] (fun _ i => ∃ k : Nat, k ≤ s.size ∧ i = .int .i64 k ∧ (s.data.toList.take k).all isLow = true) (fun _ i => s.size - (intOf i).toNat)
  case atStart => exact ⟨0, Nat.zero_le _, rfl, rfl⟩
  case round =>
    obtain ⟨k, hk, rfl, hall⟩ := hrel
    have HA := Lib.hid hall; clear hall
    by_cases hlt : k < s.size
    · have hps := ltake_snoc s k hlt
      have HP := Lib.hid hps; clear hps
      cases hd : isLow s[k]
      · have hn := nm_no (w := w) k hlt hd
        have HN := Lib.hid hn; clear hn
        have hx := low_not hd
        clear hd
        rcases hx with hx | hx
        · go_wp2
          go_ret
          exact HN.out
        · go_wp2
          go_ret
          exact HN.out
      · obtain ⟨d0, d1⟩ := low_of hd
        have HD := Lib.hid hd; clear hd
        go_wp2
        go_round
        case rel => exact ⟨k + 1, by omega, by go_num, by rw [HP.out, List.all_append, HA.out]; simp [HD.out]⟩
        case measure => simp [intOf]; omega
    · obtain rfl : k = s.size := by omega
      have hn := nm_yes (w := w) HA.out h1 h2
      have HN := Lib.hid hn; clear hn
      go_wp2
      go_ret
      exact HN.out
theorem implName_any (s : ByteArray) (w : World) : Calls Tryz.prog 55 #[.string s] w (NmPost s w) := by
  by_cases h : s.size < 1 ∨ 8 < s.size
  · exact implName_short s w h
  · exact implName_long s w (by omega) (by omega)
end Go.Proofs.YtoiphglfngkoiaaGreatDoor.Kp
namespace Go.Proofs.YtoiphglfngkoiaaGreatDoor.Kp
set_option linter.unusedVariables false
open Go.RowKit Wd Rp
def Bx (n : Nat) (r b : ByteArray) (t : Int) (w : World) : Prop := w.cell? ⟨n, 0, none⟩ = some (.string r) ∧ w.cell? ⟨n, 1, none⟩ = some (.string b) ∧ w.cell? ⟨n, 2, none⟩ = some (.int .i64 t) ∧ n < w.heap.size
theorem Bx.made (r b : ByteArray) (t : Int) (w : World) (T : Nat) : Bx w.heap.size r b t (w.alloc (.cells #[.string r, .string b, .int .i64 t] T)) := by
  have hp : (w.alloc (.cells #[.string r, .string b, .int .i64 t] T)).heap[w.heap.size]? = some (.cells #[.string r, .string b, .int .i64 t] T) := by show (w.heap.push _)[w.heap.size]? = _; simp
  refine ⟨?_, ?_, ?_, by simp⟩ <;> (simp only [World.cell?, hp]; rfl)
theorem Bx.below {n B : Nat} {r b : ByteArray} {t : Int} {w w' : World} (h : Bx n r b t w) (hb : Below B w w') (hn : n < B) : Bx n r b t w' := by
  obtain ⟨h0, h1, h2, h3⟩ := h
  have e : w'.heap[n]? = w.heap[n]? := hb.block n hn
  exact ⟨(World.cell?_of_block (w := w) e).trans h0, (World.cell?_of_block (w := w) e).trans h1, (World.cell?_of_block (w := w) e).trans h2, Nat.lt_of_lt_of_le h3 hb.size⟩
theorem Bx.next {n : Nat} {r b : ByteArray} {t : Int} {w w' : World} (h : Bx n r b t w) (hb : Below w.heap.size w w') : Bx n r b t w' := h.below hb h.2.2.2
end Go.Proofs.YtoiphglfngkoiaaGreatDoor.Kp
namespace Go.Proofs.YtoiphglfngkoiaaGreatDoor.Kp
set_option linter.unusedVariables false
open Go.RowKit Wd Rp
def Px (n : Nat) (r b : ByteArray) (w : World) : Prop := w.cell? ⟨n, 0, none⟩ = some (.string r) ∧ w.cell? ⟨n, 1, none⟩ = some (.string b)
theorem Px.made (r b : ByteArray) (w : World) (T : Nat) : Px w.heap.size r b (w.alloc (.cells #[.string r, .string b] T)) := by
  have hp : (w.alloc (.cells #[.string r, .string b] T)).heap[w.heap.size]? = some (.cells #[.string r, .string b] T) := by show (w.heap.push _)[w.heap.size]? = _; simp
  refine ⟨?_, ?_⟩ <;> (simp only [World.cell?, hp]; rfl)
theorem Px.alloc {n : Nat} {r b : ByteArray} {w : World} (h : Px n r b w) (hn : n < w.heap.size) (o : Obj) : Px n r b (w.alloc o) := by
  have e : (w.alloc o).heap[n]? = w.heap[n]? := Below.heap_alloc _ _ _ hn
  exact ⟨(World.cell?_of_block (w := w) e).trans h.1, (World.cell?_of_block (w := w) e).trans h.2⟩
end Go.Proofs.YtoiphglfngkoiaaGreatDoor.Kp
namespace Go.Proofs.YtoiphglfngkoiaaGreatDoor.Kp
set_option linter.unusedVariables false
open Go.RowKit Wd Rp
theorem Bx.two (r b : ByteArray) (t : Int) (r' b' : ByteArray) (t' : Int) (w : World) (T : Nat) :
    Bx w.heap.size r b t ((w.alloc (.cells #[.string r, .string b, .int .i64 t] T)).alloc (.cells #[.string r', .string b', .int .i64 t'] T)) ∧ Bx (w.heap.size + 1) r' b' t' ((w.alloc (.cells #[.string r, .string b, .int .i64 t] T)).alloc (.cells #[.string r', .string b', .int .i64 t'] T)) := by
  refine ⟨(Bx.made r b t w T).next (bel1 _ _), ?_⟩
  have := Bx.made r' b' t' (w.alloc (.cells #[.string r, .string b, .int .i64 t] T)) T
  rwa [show (w.alloc (.cells #[.string r, .string b, .int .i64 t] T)).heap.size = w.heap.size + 1 by simp] at this
def Hd (w w' : World) : Prop := Below w.heap.size w w' ∧ w.heap.size + 1 < w'.heap.size
end Go.Proofs.YtoiphglfngkoiaaGreatDoor.Kp
namespace Go.Proofs.YtoiphglfngkoiaaGreatDoor.Cl
set_option linter.unusedVariables false
open Go.RowKit Wd Rp Kp
def cellB (r b : ByteArray) (t v : Int) (g : Bool) : Bool := keyB r.data.toList b.data.toList t && (isW v && (!g || v == 0))
def Bc (n : Nat) (r b : ByteArray) (t v : Int) (g : Bool) (w : World) : Prop := w.cell? ⟨n, 0, none⟩ = some (.string r) ∧ w.cell? ⟨n, 1, none⟩ = some (.string b) ∧ w.cell? ⟨n, 2, none⟩ = some (.int .i64 t) ∧ w.cell? ⟨n, 3, none⟩ = some (.int .i64 v) ∧ w.cell? ⟨n, 4, none⟩ = some (.bool g) ∧ n < w.heap.size
theorem Bc.made (r b : ByteArray) (t v : Int) (g : Bool) (w : World) (T : Nat) : Bc w.heap.size r b t v g (w.alloc (.cells #[.string r, .string b, .int .i64 t, .int .i64 v, .bool g] T)) := by
  have hp : (w.alloc (.cells #[.string r, .string b, .int .i64 t, .int .i64 v, .bool g] T)).heap[w.heap.size]? = some (.cells #[.string r, .string b, .int .i64 t, .int .i64 v, .bool g] T) := by show (w.heap.push _)[w.heap.size]? = _; simp
  refine ⟨?_, ?_, ?_, ?_, ?_, by simp⟩ <;> (simp only [World.cell?, hp]; rfl)
theorem Bc.below {n B : Nat} {r b : ByteArray} {t v : Int} {g : Bool} {w w' : World} (h : Bc n r b t v g w) (hb : Below B w w') (hn : n < B) : Bc n r b t v g w' := by
  obtain ⟨h0, h1, h2, h3, h4, h5⟩ := h
  have e : w'.heap[n]? = w.heap[n]? := hb.block n hn
  exact ⟨(World.cell?_of_block (w := w) e).trans h0, (World.cell?_of_block (w := w) e).trans h1, (World.cell?_of_block (w := w) e).trans h2, (World.cell?_of_block (w := w) e).trans h3, (World.cell?_of_block (w := w) e).trans h4, Nat.lt_of_lt_of_le h5 hb.size⟩
theorem Bc.next {n : Nat} {r b : ByteArray} {t v : Int} {g : Bool} {w w' : World} (h : Bc n r b t v g w) (hb : Below w.heap.size w w') : Bc n r b t v g w' := h.below hb h.2.2.2.2.2
theorem five_of {w : World} {n : Nat} {x0 x1 x2 x3 x4 : Value} {T : Nat} (h : w.heap[n]? = some (.cells #[x0, x1, x2, x3, x4] T (0, 0))) :
    w.cell? ⟨n, 0, none⟩ = some x0 ∧ w.cell? ⟨n, 1, none⟩ = some x1 ∧ w.cell? ⟨n, 2, none⟩ = some x2 ∧ w.cell? ⟨n, 3, none⟩ = some x3 ∧ w.cell? ⟨n, 4, none⟩ = some x4 ∧
    w.frozen? ⟨n, 0, none⟩ = false ∧ w.frozen? ⟨n, 1, none⟩ = false ∧ w.frozen? ⟨n, 2, none⟩ = false ∧ w.frozen? ⟨n, 3, none⟩ = false ∧ w.frozen? ⟨n, 4, none⟩ = false := by
  refine ⟨?_, ?_, ?_, ?_, ?_, ?_, ?_, ?_, ?_, ?_⟩ <;> simp [World.cell?, World.frozen?, h]
end Go.Proofs.YtoiphglfngkoiaaGreatDoor.Cl
namespace Go.Proofs.YtoiphglfngkoiaaGreatDoor.Cl
set_option linter.unusedVariables false
open Go.RowKit Wd Rp Kp
structure Cel where
  r : ByteArray
  b : ByteArray
  t : Int
  v : Int
  g : Bool
instance : Inhabited Cel := ⟨⟨⟨#[]⟩, ⟨#[]⟩, 0, 0, false⟩⟩
def Cel.vals (c : Cel) : List Value := [.string c.r, .string c.b, .int .i64 c.t, .int .i64 c.v, .bool c.g]
def Cel.ok (c : Cel) : Bool := cellB c.r c.b c.t c.v c.g
def At5 (w : World) (g o : Nat) (c : Cel) : Prop := w.cell? ⟨g, o, none⟩ = some (.string c.r) ∧ w.cell? ⟨g, o + 1, none⟩ = some (.string c.b) ∧ w.cell? ⟨g, o + 2, none⟩ = some (.int .i64 c.t) ∧ w.cell? ⟨g, o + 3, none⟩ = some (.int .i64 c.v) ∧ w.cell? ⟨g, o + 4, none⟩ = some (.bool c.g)
def Vw (w : World) (a : Option Addr) (cap : Nat) (l : List Cel) : Prop :=
  l.length ≤ cap ∧ cap ≤ maxLen ∧ (a = none → cap = 0) ∧ ∀ k c, l[k]? = some c → ∃ g o, a = some ⟨g, o, none⟩ ∧ g < w.heap.size ∧ At5 w g (o + k * 5) c
theorem At5.same {w w' : World} {g o : Nat} {c : Cel} (h : At5 w g o c) (e : w'.heap[g]? = w.heap[g]?) : At5 w' g o c := by
  obtain ⟨h0, h1, h2, h3, h4⟩ := h
  exact ⟨(World.cell?_of_block (w := w) e).trans h0, (World.cell?_of_block (w := w) e).trans h1, (World.cell?_of_block (w := w) e).trans h2, (World.cell?_of_block (w := w) e).trans h3, (World.cell?_of_block (w := w) e).trans h4⟩
theorem Vw.below {w w' : World} {a : Option Addr} {cap : Nat} {l : List Cel} (h : Vw w a cap l) (hb : Below w.heap.size w w') : Vw w' a cap l := by
  obtain ⟨h1, h2, h3, h4⟩ := h
  refine ⟨h1, h2, h3, fun k c hk => ?_⟩
  obtain ⟨g, o, e, hg, hc⟩ := h4 k c hk
  exact ⟨g, o, e, Nat.lt_of_lt_of_le hg hb.size, hc.same (hb.block g hg)⟩
end Go.Proofs.YtoiphglfngkoiaaGreatDoor.Cl
namespace Go.Proofs.YtoiphglfngkoiaaGreatDoor.Cl
set_option linter.unusedVariables false
open Go.RowKit Wd Rp Kp
def Zc (q : Nat) (w : World) : Prop := (w.cell? ⟨q, 0, none⟩ = some (.string ⟨#[]⟩) ∧ w.cell? ⟨q, 1, none⟩ = some (.string ⟨#[]⟩) ∧ w.cell? ⟨q, 2, none⟩ = some (.int .i64 0) ∧ w.cell? ⟨q, 3, none⟩ = some (.int .i64 0) ∧ w.cell? ⟨q, 4, none⟩ = some (.bool false)) ∧
    (w.frozen? ⟨q, 0, none⟩ = false ∧ w.frozen? ⟨q, 1, none⟩ = false ∧ w.frozen? ⟨q, 2, none⟩ = false ∧ w.frozen? ⟨q, 3, none⟩ = false ∧ w.frozen? ⟨q, 4, none⟩ = false) ∧ q < w.heap.size
theorem Zc.made (w : World) (T : Nat) : Zc w.heap.size (w.alloc (.cells #[.string ⟨#[]⟩, .string ⟨#[]⟩, .int .i64 0, .int .i64 0, .bool false] T)) := by
  have hp : (w.alloc (.cells #[.string ⟨#[]⟩, .string ⟨#[]⟩, .int .i64 0, .int .i64 0, .bool false] T)).heap[w.heap.size]? = some (.cells #[.string ⟨#[]⟩, .string ⟨#[]⟩, .int .i64 0, .int .i64 0, .bool false] T (0, 0)) := by show (w.heap.push _)[w.heap.size]? = _; simp
  obtain ⟨h0, h1, h2, h3, h4, f0, f1, f2, f3, f4⟩ := five_of hp
  exact ⟨⟨h0, h1, h2, h3, h4⟩, ⟨f0, f1, f2, f3, f4⟩, by simp⟩
theorem Zc.next {q : Nat} {w w' : World} (h : Zc q w) (hb : Below w.heap.size w w') : Zc q w' := by
  obtain ⟨⟨h0, h1, h2, h3, h4⟩, ⟨f0, f1, f2, f3, f4⟩, hl⟩ := h
  have e : w'.heap[q]? = w.heap[q]? := hb.block q hl
  exact ⟨⟨(World.cell?_of_block (w := w) e).trans h0, (World.cell?_of_block (w := w) e).trans h1, (World.cell?_of_block (w := w) e).trans h2, (World.cell?_of_block (w := w) e).trans h3, (World.cell?_of_block (w := w) e).trans h4⟩,
    ⟨(World.frozen?_of_block (w := w) e).trans f0, (World.frozen?_of_block (w := w) e).trans f1, (World.frozen?_of_block (w := w) e).trans f2, (World.frozen?_of_block (w := w) e).trans f3, (World.frozen?_of_block (w := w) e).trans f4⟩, Nat.lt_of_lt_of_le hl hb.size⟩
end Go.Proofs.YtoiphglfngkoiaaGreatDoor.Cl
namespace Go.Proofs.YtoiphglfngkoiaaGreatDoor.Cl
set_option linter.unusedVariables false
open Go.RowKit Wd Rp Kp
theorem row_next {B : Nat} {e : TypeId} {k : Nat} {v : Value} {n : Nat} {xs : List Value} {w w' : World} (h : w.ownsRow B e k v n xs) (hb : ∀ g, v.ownBlock = some g → g < w.heap.size → w'.heap[g]? = w.heap[g]?) : w'.ownsRow B e k v n xs := by
  obtain ⟨h1, h2⟩ := h
  refine ⟨h1, ?_⟩
  rcases h2 with h2 | ⟨g, cap, cur, hv, hB, hg, h3⟩
  · exact .inl h2
  · subst hv
    exact .inr ⟨g, cap, cur, rfl, hB, (hb g rfl (Array.getElem?_eq_some_iff.1 hg).1).trans hg, h3⟩
end Go.Proofs.YtoiphglfngkoiaaGreatDoor.Cl
namespace Go.Proofs.YtoiphglfngkoiaaGreatDoor.Cl
set_option linter.unusedVariables false
open Go.RowKit Wd Rp Kp
theorem bl_tr : ∀ {x y z : List UInt8}, Op.bytesLess x y = true → Op.bytesLess y z = true → Op.bytesLess x z = true
  | _, [], _, h, _ => by simp [Op.bytesLess] at h
  | _, _ :: _, [], _, h => by simp [Op.bytesLess] at h
  | [], _ :: _, _ :: _, _, _ => by simp [Op.bytesLess]
  | a :: x, b :: y, c :: z, h, k => by
    simp only [Op.bytesLess, Bool.or_eq_true, Bool.and_eq_true, decide_eq_true_eq, beq_iff_eq] at h k ⊢
    rcases h with h | ⟨h1, h2⟩
    · rcases k with k | ⟨k1, k2⟩
      · left; rw [UInt8.lt_iff_toNat_lt] at h k ⊢; omega
      · left; rw [← k1]; exact h
    · rcases k with k | ⟨k1, k2⟩
      · left; rw [h1]; exact k
      · right; exact ⟨h1.trans k1, bl_tr h2 k2⟩
end Go.Proofs.YtoiphglfngkoiaaGreatDoor.Cl
namespace Go.Proofs.YtoiphglfngkoiaaGreatDoor.Cl
set_option linter.unusedVariables false
open Go.RowKit Wd Rp Kp
theorem coc {p : Addr} {v : Value} {r z : World} (hz : Below r.heap.size r z) (hg : p.block < r.heap.size) (h : r.cell? p = some v) : z.cell? p = some v := (World.cell?_of_block (w := r) (hz.block p.block hg)).trans h
theorem Vw.drop {w : World} {a : Option Addr} {cap : Nat} {l : List Cel} (h : Vw w a cap l) {k : Nat} (hk : k ≤ l.length) : Vw w (if cap = k then a else a.map (·.add (k * 5))) (cap - k) (l.drop k) := by
  obtain ⟨h1, h2, h3, h4⟩ := h
  refine ⟨by rw [List.length_drop]; omega, by omega, fun e => ?_, fun i c hi => ?_⟩
  · split at e
    · have := h3 e; omega
    · have := h3 (by simpa using e); omega
  · rw [List.getElem?_drop] at hi
    have hil := (List.getElem?_eq_some_iff.1 hi).1
    obtain ⟨g, o, rfl, hg, h5⟩ := h4 (k + i) c hi
    rw [if_neg (by omega)]
    refine ⟨g, o + k * 5, ?_, hg, ?_⟩
    · simp [Addr.add]
    · rwa [show o + (k + i) * 5 = o + k * 5 + i * 5 by omega] at h5
theorem Vw.take {w : World} {a : Option Addr} {cap : Nat} {l : List Cel} (h : Vw w a cap l) {k m : Nat} (hk : k ≤ l.length) (hm : k ≤ m) (hc : m ≤ cap) (ha : a = none → m = 0) : Vw w a m (l.take k) := by
  obtain ⟨h1, h2, h3, h4⟩ := h
  refine ⟨by rw [List.length_take]; omega, by omega, ha, fun i c hi => ?_⟩
  rw [List.getElem?_take] at hi
  split at hi
  · exact h4 i c hi
  · cases hi
end Go.Proofs.YtoiphglfngkoiaaGreatDoor.Cl
namespace Go.Proofs.YtoiphglfngkoiaaGreatDoor.Cl
set_option linter.unusedVariables false
open Go.RowKit Wd Rp Kp
end Go.Proofs.YtoiphglfngkoiaaGreatDoor.Cl
namespace Go.Proofs.YtoiphglfngkoiaaGreatDoor.Cl
set_option linter.unusedVariables false
open Go.RowKit Wd Rp Kp
end Go.Proofs.YtoiphglfngkoiaaGreatDoor.Cl
namespace Go.Proofs.YtoiphglfngkoiaaGreatDoor.Rp
set_option linter.unusedVariables false
open Go.RowKit Wd
def one (x : Int) : ByteArray := strOfNums [x]
theorem one_list (x : Int) : (one x).data.toList = [UInt8.ofNat x.toNat] := rfl
theorem one_size (x : Int) : (one x).size = 1 := rfl
theorem conv_one (x : Int) (w : World) : Sem.run Tryz.prog (convert 53 9 (Value.slice (some ⟨w.heap.size, 0, none⟩) 1 1)) (w.alloc (Obj.cells #[Value.int IntKind.u8 x] 5)) = .ok (.string (one x)) (w.alloc (Obj.cells #[Value.int IntKind.u8 x] 5)) :=
  run_convert_bytes_arg (P := Tryz.prog) (w.alloc (Obj.cells #[Value.int IntKind.u8 x] 5)) 53 5 Tryz.underlying53 Tryz.underlying5 w.heap.size 0 1 1 [x] rfl
    (fun i hi => by
      have h0 : i = 0 := by omega
      subst h0
      have hp : (w.alloc (.cells #[Value.int IntKind.u8 x] 5)).heap[w.heap.size]? = some (.cells #[Value.int IntKind.u8 x] 5) := by show (w.heap.push _)[w.heap.size]? = _; simp
      simp only [World.cell?, hp]; rfl) 9 Tryz.underlying9

def DgR (n m : Nat) (t : ByteArray) : Prop := (t.data.toList = [] ∧ m = n) ∨ (t.data.toList ≠ [] ∧ Lib.decDigits n = (if m = 0 then [] else Lib.decDigits m) ++ t.data.toList)
theorem DgR.start (n : Nat) : DgR n n ⟨#[]⟩ := Or.inl ⟨rfl, rfl⟩
theorem DgR.step {n m : Nat} {t : ByteArray} (h : DgR n m t) (hm : t.data.toList = [] ∨ 0 < m) : DgR n (m / 10) (one (48 + (m : Int) % 10) ++ t) := by
  have hl : (one (48 + (m : Int) % 10) ++ t).data.toList = UInt8.ofNat (48 + m % 10) :: t.data.toList := by
    rw [Joins.data_append, one_list, show (48 + (m : Int) % 10).toNat = 48 + m % 10 by omega]; rfl
  have hd : ∀ k : Nat, Lib.decDigits k = (if k / 10 = 0 then [] else Lib.decDigits (k / 10)) ++ [UInt8.ofNat (48 + k % 10)] := by
    intro k
    by_cases hk : k < 10
    · rw [Lib.decDigits_one hk, if_pos (by omega), show k % 10 = k by omega]; rfl
    · rw [Lib.decDigits, dif_neg hk, if_neg (by omega)]
  right
  refine ⟨by rw [hl]; simp, ?_⟩
  rw [hl]
  rcases h with ⟨h1, rfl⟩ | ⟨h1, h2⟩
  · rw [h1]; exact hd m
  · rw [h2, if_neg (by rcases hm with hm | hm; exact absurd hm h1; omega), hd m, List.append_assoc]; rfl
theorem DgR.done {n : Nat} {t : ByteArray} (h : DgR n 0 t) (ht : ¬ t.data.toList = []) : t = ⟨(Lib.decDigits n).toArray⟩ := by
  rcases h with ⟨h1, _⟩ | ⟨_, h2⟩
  · exact absurd h1 ht
  · rw [if_pos rfl, List.nil_append] at h2; rw [h2]
theorem DgR.size {n m : Nat} {t : ByteArray} (h : DgR n m t) (hn : n ≤ 9223372036854775808) : t.size ≤ 20 := by
  rw [Lib.size_eq]
  rcases h with ⟨h1, _⟩ | ⟨_, h2⟩
  · rw [h1]; decide
  · have h3 := congrArg List.length h2
    rw [List.length_append] at h3
    have := dec_len 18 n (by omega)
    omega
end Go.Proofs.YtoiphglfngkoiaaGreatDoor.Rp
namespace Go.Proofs.YtoiphglfngkoiaaGreatDoor.Cl
set_option linter.unusedVariables false
open Go.RowKit Wd Rp Kp
def mtx (k : Nat) : List UInt8 := 109 :: Lib.decDigits k
theorem mtx_app (t : ByteArray) (k : Nat) (h : t = ⟨(Lib.decDigits k).toArray⟩) : ((⟨#[109]⟩ : ByteArray) ++ t) = tx (mtx k) := by
  subst h
  apply ByteArray.ext
  apply Array.toList_inj.1
  rw [Joins.data_append]; rfl
theorem dgr_end {n : Nat} {t : ByteArray} (h : DgR n 0 t) (hn : 1 ≤ n) : t = ⟨(Lib.decDigits n).toArray⟩ :=
  h.done (fun e => by rcases h with ⟨_, h2⟩ | ⟨h1, _⟩; omega; exact h1 e)
set_option maxRecDepth 100000 in
set_option maxHeartbeats 1000000 in
theorem markText_any (n : Nat) (w : World) (hn1 : 1 ≤ n) (hn : n ≤ 9223372036854775807) :
    Calls Tryz.prog 19 #[.int .i64 n] w fun e w' => e = .returned (.string (tx (mtx n))) ∧ Below w.heap.size w w' := by
  have KC := conv_one
  have q0 : ¬ (n : Int) ≤ 0 := by omega
  go_enter Tryz.func19, Tryz.ntmps19
  go_wp2
  go_loopw [0, 3] (fun i s wr => ∃ (m : Nat) (t : ByteArray), i = .int .i64 m ∧ s = .string t ∧ m ≤ n ∧ DgR n m t ∧ Below w.heap.size w wr) (fun i _ _ => (intOf i).toNat)
  case atStart => exact ⟨n, ⟨#[]⟩, rfl, rfl, Nat.le_refl _, DgR.start n, Below.refl _ _⟩
  case round =>
    obtain ⟨m, t, rfl, rfl, hm, hd, hb⟩ := hrel
    have hsz := hd.size (by omega)
    have hsum : ¬ 9223372036854775807 < (one (48 + (m : Int) % 10)).size + t.size := by rw [one_size]; omega
    have HB := Lib.hid hb; clear hb
    have HD := Lib.hid hd; clear hd
    have hB : w.heap.size ≤ wr.heap.size := HB.out.size
    by_cases hp : 0 < m
    · go_wp2
      go_roundw
      case rel => exact ⟨m / 10, _, by go_num, rfl, by omega, HD.out.step (Or.inr hp), HB.out.alloc hB _⟩
      case measure => simp only [intOf]; omega
    · obtain rfl : m = 0 := by omega
      have HE := Lib.hid (mtx_app t n (dgr_end HD.out hn1))
      have hs2 : ¬ 9223372036854775807 < (⟨#[109]⟩ : ByteArray).size + t.size := by show ¬ _ < 1 + t.size; omega
      go_wp2
      go_ret
      exact ⟨by rw [← HE.out]; rfl, HB.out⟩
end Go.Proofs.YtoiphglfngkoiaaGreatDoor.Cl
namespace Go.Proofs.YtoiphglfngkoiaaGreatDoor.Cl
set_option linter.unusedVariables false
open Go.RowKit Wd Rp Kp
theorem grown_of {w w' : World} {row : Option Nat} (h : Below w.heap.size w w') : w.grownBy w' row := ⟨h.os, h.tape, h.output, h.size, fun k hk _ => h.block k hk⟩
theorem grown_set {w : World} {g o : Nat} {v : Value} : w.grownBy (w.setCell ⟨g, o, none⟩ v) (some g) := ⟨rfl, rfl, rfl, by simp [World.setCell], fun k _ hk => Below.heap_setCell _ _ _ _ (fun e => hk (by rw [e]))⟩
end Go.Proofs.YtoiphglfngkoiaaGreatDoor.Cl
namespace Go.Proofs.YtoiphglfngkoiaaGreatDoor.Cl
set_option linter.unusedVariables false
open Go.RowKit Wd Rp Kp
end Go.Proofs.YtoiphglfngkoiaaGreatDoor.Cl
namespace Go.Proofs.YtoiphglfngkoiaaGreatDoor.Cl
set_option linter.unusedVariables false
open Go.RowKit Wd Rp Kp
end Go.Proofs.YtoiphglfngkoiaaGreatDoor.Cl
namespace Go.Proofs.YtoiphglfngkoiaaGreatDoor.Cl
set_option linter.unusedVariables false
open Go.RowKit Wd Rp Kp
structure Bi where
  n : ByteArray
  v : Int
instance : Inhabited Bi := ⟨⟨⟨#[]⟩, 0⟩⟩
def Bi.vals (c : Bi) : List Value := [.string c.n, .int .i64 c.v]
def At2 (w : World) (g o : Nat) (c : Bi) : Prop := w.cell? ⟨g, o, none⟩ = some (.string c.n) ∧ w.cell? ⟨g, o + 1, none⟩ = some (.int .i64 c.v)
theorem At2.same {w w' : World} {g o : Nat} {c : Bi} (h : At2 w g o c) (e : w'.heap[g]? = w.heap[g]?) : At2 w' g o c := ⟨(World.cell?_of_block (w := w) e).trans h.1, (World.cell?_of_block (w := w) e).trans h.2⟩
def VwI (w : World) (a : Option Addr) (cap : Nat) (l : List Bi) : Prop :=
  l.length ≤ cap ∧ cap ≤ maxLen ∧ (a = none → cap = 0) ∧ ∀ k c, l[k]? = some c → ∃ g o, a = some ⟨g, o, none⟩ ∧ g < w.heap.size ∧ At2 w g (o + k * 2) c
theorem VwI.below {w w' : World} {a : Option Addr} {cap : Nat} {l : List Bi} (h : VwI w a cap l) (hb : Below w.heap.size w w') : VwI w' a cap l := by
  obtain ⟨h1, h2, h3, h4⟩ := h
  refine ⟨h1, h2, h3, fun k c hk => ?_⟩
  obtain ⟨g, o, e, hg, hc⟩ := h4 k c hk
  exact ⟨g, o, e, Nat.lt_of_lt_of_le hg hb.size, hc.same (hb.block g hg)⟩
def Asc (l : List Bi) : Prop := l.Pairwise fun a b => Op.bytesLess a.n.toList b.n.toList = true
end Go.Proofs.YtoiphglfngkoiaaGreatDoor.Cl
namespace Go.Proofs.YtoiphglfngkoiaaGreatDoor.Cl
set_option linter.unusedVariables false
open Go.RowKit Wd Rp Kp
theorem VwI.drop {w : World} {a : Option Addr} {cap : Nat} {l : List Bi} (h : VwI w a cap l) {k : Nat} (hk : k ≤ l.length) : VwI w (if cap = k then a else a.map (·.add (k * 2))) (cap - k) (l.drop k) := by
  obtain ⟨h1, h2, h3, h4⟩ := h
  refine ⟨by rw [List.length_drop]; omega, by omega, fun e => ?_, fun i c hi => ?_⟩
  · split at e
    · have := h3 e; omega
    · have := h3 (by simpa using e); omega
  · rw [List.getElem?_drop] at hi
    have hil := (List.getElem?_eq_some_iff.1 hi).1
    obtain ⟨g, o, rfl, hg, h5⟩ := h4 (k + i) c hi
    rw [if_neg (by omega)]
    refine ⟨g, o + k * 2, ?_, hg, ?_⟩
    · simp [Addr.add]
    · rwa [show o + (k + i) * 2 = o + k * 2 + i * 2 by omega] at h5
theorem VwI.take {w : World} {a : Option Addr} {cap : Nat} {l : List Bi} (h : VwI w a cap l) {k m : Nat} (hk : k ≤ l.length) (hm : k ≤ m) (hc : m ≤ cap) (ha : a = none → m = 0) : VwI w a m (l.take k) := by
  obtain ⟨h1, h2, h3, h4⟩ := h
  refine ⟨by rw [List.length_take]; omega, by omega, ha, fun i c hi => ?_⟩
  rw [List.getElem?_take] at hi
  split at hi
  · exact h4 i c hi
  · cases hi
def risI : List Bi → Bool
  | [] => true
  | [_] => true
  | c :: d :: r => Op.bytesLess c.n.toList d.n.toList && risI (d :: r)
theorem asc_of_ris : ∀ {l : List Bi}, risI l = true → Asc l
  | [], _ => List.Pairwise.nil
  | [x], _ => List.pairwise_singleton _ _
  | c :: d :: r, h => by
    rw [risI, Bool.and_eq_true] at h
    have ih : Asc (d :: r) := asc_of_ris h.2
    refine List.pairwise_cons.2 ⟨fun x hx => ?_, ih⟩
    rcases List.mem_cons.1 hx with e | e
    · subst e; exact h.1
    · exact bl_tr h.1 ((List.pairwise_cons.1 ih).1 x e)
theorem ris_of_asc : ∀ {l : List Bi}, Asc l → risI l = true
  | [], _ => rfl
  | [x], _ => rfl
  | c :: d :: r, h => by
    obtain ⟨h1, h2⟩ := List.pairwise_cons.1 h
    rw [risI, Bool.and_eq_true]
    exact ⟨h1 d (by simp), ris_of_asc h2⟩
def Bi.ok (c : Bi) : Bool := nmB c.n.data.toList && isW c.v
def okI (l : List Bi) : Bool := decide (l.length ≤ 12) && (risI l && l.all Bi.ok)
theorem okI_iff {l : List Bi} : okI l = true ↔ l.length ≤ 12 ∧ Asc l ∧ ∀ c ∈ l, c.ok = true := by
  unfold okI
  rw [Bool.and_eq_true, Bool.and_eq_true, List.all_eq_true, decide_eq_true_eq]
  exact ⟨fun ⟨h1, h2, h3⟩ => ⟨h1, asc_of_ris h2, h3⟩, fun ⟨h1, h2, h3⟩ => ⟨h1, ris_of_asc h2, h3⟩⟩
def cntI (n : ByteArray) : List Bi → Nat
  | [] => 0
  | c :: r => if Op.bytesLess c.n.toList n.toList = true then cntI n r + 1 else 0
def isAt (n : ByteArray) (l : List Bi) : Bool := match l[cntI n l]? with | some c => c.n.toList == n.toList | none => false
def behI (n : ByteArray) (l : List Bi) : List Bi := l.drop (if isAt n l then cntI n l + 1 else cntI n l)
def stI (l : List Bi) (n : ByteArray) (v : Int) : List Bi := l.take (cntI n l) ++ ([⟨n, v⟩] ++ behI n l)
def ctI (l : List Bi) (n : ByteArray) : List Bi := l.take (cntI n l) ++ behI n l
def valL (n : ByteArray) : List Bi → Int × Bool
  | [] => (0, false)
  | c :: r => if c.n.toList == n.toList then (c.v, true) else valL n r
theorem new_of (w : World) (o : Obj) : (w.alloc o).heap[w.heap.size]? = some o := by show (w.heap.push _)[w.heap.size]? = _; simp
def Bn2 (n : Nat) (s : ByteArray) (v : Int) (w : World) : Prop := w.cell? ⟨n, 0, none⟩ = some (.string s) ∧ w.cell? ⟨n, 1, none⟩ = some (.int .i64 v) ∧ n < w.heap.size
theorem Bn2.made (s : ByteArray) (v : Int) (w : World) (T : Nat) : Bn2 w.heap.size s v (w.alloc (.cells #[.string s, .int .i64 v] T)) := by
  have hp : (w.alloc (.cells #[.string s, .int .i64 v] T)).heap[w.heap.size]? = some (.cells #[.string s, .int .i64 v] T) := by show (w.heap.push _)[w.heap.size]? = _; simp
  refine ⟨?_, ?_, by simp⟩ <;> (simp only [World.cell?, hp]; rfl)
theorem Bn2.next {n : Nat} {s : ByteArray} {v : Int} {w w' : World} (h : Bn2 n s v w) (hb : Below w.heap.size w w') : Bn2 n s v w' := by
  obtain ⟨h0, h1, h2⟩ := h
  have e : w'.heap[n]? = w.heap[n]? := hb.block n h2
  exact ⟨(World.cell?_of_block (w := w) e).trans h0, (World.cell?_of_block (w := w) e).trans h1, Nat.lt_of_lt_of_le h2 hb.size⟩
end Go.Proofs.YtoiphglfngkoiaaGreatDoor.Cl
namespace Go.Proofs.YtoiphglfngkoiaaGreatDoor.Wd
set_option linter.unusedVariables false
open Go.RowKit
def didV (op a b : Int) : Int :=
  if isW a && isW b then
    if op = 1 then wr (a + b) else if op = 2 then wr (a - b) else if op = 3 then wr (a * b)
    else if op = 4 then (if b = 0 then 0 else wr (a.tdiv b))
    else if op = 5 then (if a < b then 1 else 0) else if op = 6 then (if a = b then 1 else 0)
    else if op = 7 then (if a ≠ 0 ∧ b ≠ 0 then 1 else 0) else 0
  else 0
def didB (op a b : Int) : Bool :=
  isW a && isW b && (decide (1 ≤ op) && decide (op ≤ 7)) && !(decide (op = 4) && decide (b = 0))

end Go.Proofs.YtoiphglfngkoiaaGreatDoor.Wd
namespace Go.Proofs.YtoiphglfngkoiaaGreatDoor.Cl
set_option linter.unusedVariables false
open Go.RowKit Wd Rp Kp
abbrev Tk := List UInt8
def at? : List Tk → Tk → Option Nat
  | [], _ => none
  | x :: r, s => if x = s then some 0 else (at? r s).map (· + 1)
theorem at?_at {s : Tk} : ∀ {l : List Tk} {k : Nat}, l[k]? = some s → (∀ (j : Nat) (y : Tk), j < k → l[j]? = some y → y ≠ s) → at? l s = some k
  | [], k, h, _ => by simp at h
  | x :: r, 0, h, _ => by simp at h; simp [at?, h]
  | x :: r, k + 1, h, hn => by
    have h1 := hn 0 x (by omega) rfl
    rw [at?, if_neg h1, at?_at (l := r) (by simpa using h) (fun j y hj hy => hn (j + 1) y (by omega) (by simpa using hy))]; rfl
theorem at?_none {s : Tk} : ∀ {l : List Tk}, (∀ (j : Nat) (y : Tk), l[j]? = some y → y ≠ s) → at? l s = none
  | [], _ => rfl
  | x :: r, h => by
    rw [at?, if_neg (h 0 x rfl), at?_none (l := r) (fun j y hy => h (j + 1) y (by simpa using hy))]; rfl
theorem at?_lt {s : Tk} : ∀ {l : List Tk} {k : Nat}, at? l s = some k → k < l.length ∧ l[k]? = some s
  | [], k, h => by simp [at?] at h
  | x :: r, k, h => by
    rw [at?] at h
    split at h
    · rename_i e; cases h; simp [e]
    · cases e : at? r s with
      | none => rw [e] at h; cases h
      | some j => rw [e] at h; cases h; have := at?_lt e; simp; exact this
def atI (l : List Tk) (s : Tk) : Int := match at? l s with | some k => k | none => -1
def opsL : List Tk := [[43], [45], [42], [47], [60], [61], [38]]
def gvsL : List Tk := [[64, 48], [64, 49], [64, 50]]
def opN (s : Tk) : Nat := match at? opsL s with | some k => k + 1 | none => 0
def gvN (s : Tk) : Nat := match at? gvsL s with | some k => k + 1 | none => 0
theorem opN_I (s : Tk) : atI opsL s + 1 = (opN s : Nat) := by unfold atI opN; cases at? opsL s <;> simp
theorem gvN_I (s : Tk) : atI gvsL s + 1 = (gvN s : Nat) := by unfold atI gvN; cases at? gvsL s <;> simp
theorem opN_le (s : Tk) : opN s ≤ 7 := by
  unfold opN
  cases h : at? opsL s with
  | none => exact Nat.zero_le _
  | some k => have := (at?_lt h).1; simp [opsL] at this; show k + 1 ≤ 7; omega
theorem gvN_le (s : Tk) : gvN s ≤ 3 := by
  unfold gvN
  cases h : at? gvsL s with
  | none => exact Nat.zero_le _
  | some k => have := (at?_lt h).1; simp [gvsL] at this; show k + 1 ≤ 3; omega
theorem gv_op {s : Tk} (h : gvN s ≠ 0) : opN s = 0 := by
  unfold gvN at h
  cases e : at? gvsL s with
  | none => rw [e] at h; exact absurd rfl h
  | some k =>
    obtain ⟨h1, h2⟩ := at?_lt e
    have : k = 0 ∨ k = 1 ∨ k = 2 := by simp [gvsL] at h1; omega
    rcases this with rfl | rfl | rfl <;> (simp [gvsL] at h2; subst h2; decide)
def isO (s : Tk) : Bool := opN s != 0
def isL (s : Tk) : Bool := opN s == 0 && (gvN s != 0 || (nmB s || rdB s))
theorem isL_O {s : Tk} (h : isL s = true) : isO s = false := by
  unfold isL at h; unfold isO
  simp only [Bool.and_eq_true, beq_iff_eq] at h
  simp [h.1]
def en : List Tk → Nat → Option Nat
  | [], m => if m = 0 then some 0 else none
  | s :: l, m => match m with
    | 0 => some 0
    | m + 1 => if isO s then (en l (m + 2)).map (· + 1) else if isL s then (en l m).map (· + 1) else none
theorem en_zero (l : List Tk) : en l 0 = some 0 := by cases l <;> simp [en]
theorem en_nil (m : Nat) : en [] (m + 1) = none := by simp [en]
theorem en_op {s : Tk} (h : isO s = true) (l : List Tk) (m : Nat) : en (s :: l) (m + 1) = (en l (m + 2)).map (· + 1) := by simp [en, h]
theorem en_leaf {s : Tk} (h : isL s = true) (l : List Tk) (m : Nat) : en (s :: l) (m + 1) = (en l m).map (· + 1) := by simp [en, h, isL_O h]
theorem en_bad {s : Tk} (h : isO s = false) (h2 : isL s = false) (l : List Tk) (m : Nat) : en (s :: l) (m + 1) = none := by simp [en, h, h2]
theorem en_le : ∀ {l : List Tk} {m n : Nat}, en l m = some n → n ≤ l.length
  | [], m, n, h => by
    unfold en at h; split at h
    · cases h; exact Nat.le_refl _
    · cases h
  | s :: l, 0, n, h => by rw [en_zero] at h; cases h; exact Nat.zero_le _
  | s :: l, m + 1, n, h => by
    cases ho : isO s
    · cases hl : isL s
      · rw [en_bad ho hl] at h; cases h
      · rw [en_leaf hl] at h
        cases e : en l m with
        | none => rw [e] at h; cases h
        | some k => rw [e] at h; cases h; have := en_le e; simp; exact this
    · rw [en_op ho] at h
      cases e : en l (m + 2) with
      | none => rw [e] at h; cases h
      | some k => rw [e] at h; cases h; have := en_le e; simp; exact this
theorem en_pos {l : List Tk} {m n : Nat} (h : en l (m + 1) = some n) : 1 ≤ n := by
  cases l with
  | nil => rw [en_nil] at h; cases h
  | cons s l =>
    cases ho : isO s
    · cases hl : isL s
      · rw [en_bad ho hl] at h; cases h
      · rw [en_leaf hl] at h
        cases e : en l m with
        | none => rw [e] at h; cases h
        | some k => rw [e] at h; cases h; simp
    · rw [en_op ho] at h
      cases e : en l (m + 2) with
      | none => rw [e] at h; cases h
      | some k => rw [e] at h; cases h; simp
theorem en_app : ∀ {l : List Tk} {m n : Nat} (r : List Tk), en l m = some n → en (l ++ r) m = some n
  | [], m, n, r, h => by
    unfold en at h; split at h
    · rename_i e; subst e; cases h; exact en_zero _
    · cases h
  | s :: l, 0, n, r, h => by rw [en_zero] at h ⊢; exact h
  | s :: l, m + 1, n, r, h => by
    rw [List.cons_append]
    cases ho : isO s
    · cases hl : isL s
      · rw [en_bad ho hl] at h; cases h
      · rw [en_leaf hl] at h ⊢
        cases e : en l m with
        | none => rw [e] at h; cases h
        | some k => rw [e] at h; cases h; rw [en_app r e]; rfl
    · rw [en_op ho] at h ⊢
      cases e : en l (m + 2) with
      | none => rw [e] at h; cases h
      | some k => rw [e] at h; cases h; rw [en_app r e]; rfl
theorem en_take {l : List Tk} {m n : Nat} (h : en l m = some n) : en (l.take n) m = some n := by
  cases e : en (l.take n) m with
  | none =>
    exfalso
    -- what stands behind does not matter
    have key : ∀ (l : List Tk) (m n : Nat), en l m = some n → en (l.take n) m ≠ none := by
      intro l
      induction l with
      | nil => intro m n h; rw [List.take_nil, h]; simp
      | cons s l ih =>
        intro m n h
        cases m with
        | zero => rw [en_zero]; simp
        | succ m =>
          cases ho : isO s
          · cases hl : isL s
            · rw [en_bad ho hl] at h; cases h
            · rw [en_leaf hl] at h
              cases e : en l m with
              | none => rw [e] at h; cases h
              | some k => rw [e] at h; cases h; rw [List.take_succ_cons, en_leaf hl]; have := ih m k e; cases e2 : en (l.take k) m with
                | none => exact absurd e2 this
                | some _ => simp
          · rw [en_op ho] at h
            cases e : en l (m + 2) with
            | none => rw [e] at h; cases h
            | some k => rw [e] at h; cases h; rw [List.take_succ_cons, en_op ho]; have := ih (m + 2) k e; cases e2 : en (l.take k) (m + 2) with
              | none => exact absurd e2 this
              | some _ => simp
    exact key l m n h e
  | some k =>
    have := en_app (l.drop n) e
    rw [List.take_append_drop] at this
    rw [this] at h; exact h
inductive Su where
  | one (s : Tk)
  | two (s : Tk) (a b : Su)
def Su.fl : Su → List Tk
  | .one s => [s]
  | .two s a b => s :: (a.fl ++ b.fl)
def Su.ok : Su → Prop
  | .one s => isL s = true
  | .two s a b => isO s = true ∧ a.ok ∧ b.ok
def Su.fo {R : Type} (f : Tk → R) (g : Nat → R → R → R) : Su → R
  | .one s => f s
  | .two s a b => g (opN s) (a.fo f g) (b.fo f g)
theorem Su.pos : ∀ u : Su, 1 ≤ u.fl.length
  | .one s => by simp [Su.fl]
  | .two s a b => by simp [Su.fl]
def stk {R : Type} (f : Tk → R) (g : Nat → R → R → R) : List Tk → List R
  | [] => []
  | s :: l => if isO s then (match stk f g l with | a :: b :: r => g (opN s) a b :: r | r => r) else f s :: stk f g l
theorem stk_leaf {R : Type} {f : Tk → R} {g : Nat → R → R → R} {s : Tk} (h : isO s = false) (l : List Tk) : stk f g (s :: l) = f s :: stk f g l := by simp [stk, h]
theorem stk_op {R : Type} {f : Tk → R} {g : Nat → R → R → R} {s : Tk} (h : isO s = true) {l : List Tk} {a b : R} {r : List R} (e : stk f g l = a :: b :: r) : stk f g (s :: l) = g (opN s) a b :: r := by simp [stk, h, e]
theorem stk_fl {R : Type} (f : Tk → R) (g : Nat → R → R → R) : ∀ (u : Su), u.ok → ∀ r, stk f g (u.fl ++ r) = u.fo f g :: stk f g r
  | .one s, h, r => by rw [Su.fl, List.cons_append, List.nil_append, stk_leaf (isL_O h)]; rfl
  | .two s a b, h, r => by
    rw [Su.fl, List.cons_append, List.append_assoc]
    rw [stk_op h.1 (by rw [stk_fl f g a h.2.1, stk_fl f g b h.2.2])]; rfl
theorem en_fl : ∀ (u : Su), u.ok → ∀ (m : Nat) (r : List Tk), en (u.fl ++ r) (m + 1) = (en r m).map (· + u.fl.length)
  | .one s, h, m, r => by rw [Su.fl, List.cons_append, List.nil_append, en_leaf h]; rfl
  | .two s a b, h, m, r => by
    rw [Su.fl, List.cons_append, List.append_assoc, en_op h.1, en_fl a h.2.1, en_fl b h.2.2]
    cases en r m with
    | none => rfl
    | some k => simp; omega
theorem en_forest : ∀ {l : List Tk} {m n : Nat}, en l m = some n → ∃ us : List Su, us.length = m ∧ (∀ u ∈ us, u.ok) ∧ us.flatMap Su.fl = l.take n
  | [], m, n, h => by
    unfold en at h; split at h
    · rename_i e; subst e; cases h; exact ⟨[], rfl, (fun _ h => by cases h), rfl⟩
    · cases h
  | s :: l, 0, n, h => by rw [en_zero] at h; cases h; exact ⟨[], rfl, (fun _ h => by cases h), rfl⟩
  | s :: l, m + 1, n, h => by
    cases ho : isO s
    · cases hl : isL s
      · rw [en_bad ho hl] at h; cases h
      · rw [en_leaf hl] at h
        cases e : en l m with
        | none => rw [e] at h; cases h
        | some k =>
          rw [e] at h; cases h
          obtain ⟨us, h1, h2, h3⟩ := en_forest e
          refine ⟨.one s :: us, by simp [h1], fun u hu => ?_, by rw [List.flatMap_cons, h3]; rfl⟩
          rcases List.mem_cons.1 hu with rfl | hu
          · exact hl
          · exact h2 u hu
    · rw [en_op ho] at h
      cases e : en l (m + 2) with
      | none => rw [e] at h; cases h
      | some k =>
        rw [e] at h; cases h
        obtain ⟨us, h1, h2, h3⟩ := en_forest e
        match us, h1, h2, h3 with
        | a :: b :: r, h1, h2, h3 =>
          refine ⟨.two s a b :: r, by simpa using h1, fun u hu => ?_, ?_⟩
          · rcases List.mem_cons.1 hu with rfl | hu
            · exact ⟨ho, h2 a (by simp), h2 b (by simp)⟩
            · exact h2 u (by simp [hu])
          · rw [List.take_succ_cons, ← h3, List.flatMap_cons, List.flatMap_cons, List.flatMap_cons, Su.fl, List.cons_append, List.append_assoc]
theorem en_tree {l : List Tk} {n : Nat} (h : en l 1 = some n) : ∃ u : Su, u.ok ∧ u.fl = l.take n ∧ u.fl.length = n := by
  obtain ⟨us, h1, h2, h3⟩ := en_forest h
  match us, h1, h2, h3 with
  | [u], h1, h2, h3 =>
    refine ⟨u, h2 u (by simp), by simpa using h3, ?_⟩
    have := en_le h
    have e : u.fl = l.take n := by simpa using h3
    rw [e, List.length_take]; omega
theorem stk_two {R : Type} (f : Tk → R) (g : Nat → R → R → R) : ∀ {l : List Tk} {m : Nat}, en l m = some l.length → (stk f g l).length = m ∧ ∀ (i : Nat) (s : Tk), l[i]? = some s → (isO s = true → ∃ a b r, stk f g (l.drop (i + 1)) = a :: b :: r) ∧ (isO s = false → isL s = true)
  | [], m, h => by
    unfold en at h; split at h
    · rename_i e; subst e; exact ⟨rfl, fun i s h => by simp at h⟩
    · cases h
  | s :: l, 0, h => by rw [en_zero] at h; simp at h
  | s :: l, m + 1, h => by
    cases ho : isO s
    · cases hl : isL s
      · rw [en_bad ho hl] at h; cases h
      · rw [en_leaf hl] at h
        cases e : en l m with
        | none => rw [e] at h; cases h
        | some k =>
          rw [e] at h; simp at h; subst h
          obtain ⟨h1, h2⟩ := stk_two f g e
          refine ⟨by rw [stk_leaf ho]; simp [h1], fun i t ht => ?_⟩
          cases i with
          | zero => simp at ht; subst ht; exact ⟨(fun e => by rw [ho] at e; cases e), fun _ => hl⟩
          | succ i => exact h2 i t (by simpa using ht)
    · rw [en_op ho] at h
      cases e : en l (m + 2) with
      | none => rw [e] at h; cases h
      | some k =>
        rw [e] at h; simp at h; subst h
        obtain ⟨h1, h2⟩ := stk_two f g e
        obtain ⟨a, b, r, e3⟩ : ∃ a b r, stk f g l = a :: b :: r := by
          match hs : stk f g l, h1 with
          | a :: b :: r, _ => exact ⟨a, b, r, rfl⟩
        refine ⟨?_, fun i t ht => ?_⟩
        · rw [stk_op ho e3]; rw [e3] at h1; simpa using h1
        · cases i with
          | zero => simp at ht; subst ht; exact ⟨fun _ => ⟨a, b, r, e3⟩, fun e => by rw [ho] at e; cases e⟩
          | succ i => exact h2 i t (by simpa using ht)
theorem stk_len {R : Type} (f : Tk → R) (g : Nat → R → R → R) : ∀ l : List Tk, (stk f g l).length ≤ l.length
  | [] => Nat.le_refl _
  | s :: l => by
    have ih := stk_len f g l
    unfold stk
    split
    · split
      · rename_i e; rw [e] at ih; simp at ih ⊢; omega
      · simp; omega
    · simp; exact ih
def enA (l : List Tk) (at_ : Int) : Option Nat := if at_ < 0 then none else en (l.drop at_.toNat) 1
def edV (l : List Tk) (at_ : Int) : Int := match enA l at_ with | some n => at_ + n | none => -1
theorem enA_neg {l : List Tk} {i : Int} (h : i < 0) : enA l i = none := by unfold enA; rw [if_pos h]
theorem enA_nat (l : List Tk) (k : Nat) : enA l (k : Int) = en (l.drop k) 1 := by unfold enA; rw [if_neg (by omega)]; rfl
def foV {R : Type} (f : Tk → R) (g : Nat → R → R → R) (z : R) (l : List Tk) (i : Int) : R := match enA l i with | some n => (stk f g ((l.drop i.toNat).take n)).headD z | none => z
theorem foV_tree {R : Type} (f : Tk → R) (g : Nat → R → R → R) (z : R) {l : List Tk} {i : Int} {n : Nat} (h : enA l i = some n) : ∃ u : Su, u.ok ∧ 0 ≤ i ∧ u.fl.length = n ∧ l.drop i.toNat = u.fl ++ l.drop (i.toNat + n) ∧ foV f g z l i = u.fo f g := by
  have h0 : 0 ≤ i := by
    apply Decidable.byContradiction; intro h1
    rw [enA_neg (by omega)] at h; cases h
  have h2 := h
  unfold enA at h2
  rw [if_neg (by omega)] at h2
  obtain ⟨u, h3, h4, h5⟩ := en_tree h2
  refine ⟨u, h3, h0, h5, by rw [h4, ← List.drop_drop, List.take_append_drop], ?_⟩
  unfold foV
  rw [h]
  show (stk f g ((l.drop i.toNat).take n)).headD z = _
  rw [← h4]
  have := stk_fl f g u h3 []
  rw [List.append_nil] at this
  rw [this]; rfl
theorem foV_none {R : Type} (f : Tk → R) (g : Nat → R → R → R) (z : R) {l : List Tk} {i : Int} (h : enA l i = none) : foV f g z l i = z := by unfold foV; rw [h]
theorem enA_of {l : List Tk} {k : Nat} {u : Su} {r : List Tk} (h : u.ok) (e : l.drop k = u.fl ++ r) : enA l (k : Int) = some u.fl.length := by
  rw [enA_nat, e, en_fl u h, en_zero]; simp
theorem foV_of {R : Type} (f : Tk → R) (g : Nat → R → R → R) (z : R) {l : List Tk} {k : Nat} {u : Su} {r : List Tk} (h : u.ok) (e : l.drop k = u.fl ++ r) : foV f g z l (k : Int) = u.fo f g := by
  unfold foV
  rw [enA_of h e]
  show (stk f g ((l.drop k).take u.fl.length)).headD z = _
  rw [e, List.take_left]
  have := stk_fl f g u h []
  rw [List.append_nil] at this
  rw [this]; rfl
def tkK (o : Nat) : Int := if o = 7 then 2 else 1
def ylK (o : Nat) : Int := if 5 ≤ o then 2 else 1
def kdG (o : Nat) (a b : Int) : Int := if a = tkK o ∧ b = tkK o then ylK o else 0
def kdF (_ : Tk) : Int := 1
def kdV (l : List Tk) (i : Int) : Int := foV kdF kdG 0 l i
def dpF (_ : Tk) : Int := 1
def mxI (a b : Int) : Int := if b < a then a else b
def dpG (_ : Nat) (a b : Int) : Int := wrap64 (1 + mxI a b)
def dpV (l : List Tk) (i : Int) : Int := foV dpF dpG 0 l i
def vlF (gs : List Int) (bs : List Bi) (s : Tk) : Int × Bool := (if gvN s ≠ 0 then gs.getD (gvN s - 1) 0 else if nmB s then (valL (tx s) bs).1 else rdV s, true)
def vlG (o : Nat) (a b : Int × Bool) : Int × Bool := if a.2 && b.2 then (didV o a.1 b.1, didB o a.1 b.1) else (0, false)
def thB (gs : List Int) : Bool := gs.all isW && decide (gs.length = 3)
theorem nm_rd {s : Tk} (h : nmB s = true) : rd s = none := by
  cases s with
  | nil => exact absurd h (by decide)
  | cons c r =>
    unfold nmB at h
    rw [Bool.and_eq_true, List.all_cons, Bool.and_eq_true] at h
    have hc := h.1.1
    have h1 : 97 ≤ c.toNat := by simp [isLow] at hc; exact hc.1
    have h2 : isDig c = false := by simp [isDig]; omega
    have h3 : ¬ (c :: r).head? = some 45 := by intro e; simp at e; subst e; exact absurd h1 (by decide)
    unfold rd
    rw [if_neg h3]
    split
    · rfl
    · rw [if_pos (by simp [h2])]
end Go.Proofs.YtoiphglfngkoiaaGreatDoor.Cl
namespace Go.Proofs.YtoiphglfngkoiaaGreatDoor.Cl
set_option linter.unusedVariables false
open Go.RowKit Wd Rp Kp
def tv (s : Tk) : Value := .string (tx s)
def iv (n : Int) : Value := .int .i64 n
def V1 (w : World) (a : Option Addr) (cap : Nat) (xs : List Value) : Prop :=
  xs.length ≤ cap ∧ cap ≤ maxLen ∧ (a = none → cap = 0) ∧ ∀ k x, xs[k]? = some x → ∃ g o, a = some ⟨g, o, none⟩ ∧ g < w.heap.size ∧ w.cell? ⟨g, o + k, none⟩ = some x
theorem V1.below {w w' : World} {a : Option Addr} {cap : Nat} {l : List Value} (h : V1 w a cap l) (hb : Below w.heap.size w w') : V1 w' a cap l := by
  obtain ⟨h1, h2, h3, h4⟩ := h
  refine ⟨h1, h2, h3, fun k c hk => ?_⟩
  obtain ⟨g, o, e, hg, hc⟩ := h4 k c hk
  exact ⟨g, o, e, Nat.lt_of_lt_of_le hg hb.size, (World.cell?_of_block (w := w) (hb.block g hg)).trans hc⟩
theorem V1.drop {w : World} {a : Option Addr} {cap : Nat} {l : List Value} (h : V1 w a cap l) {k : Nat} (hk : k ≤ l.length) : V1 w (if cap = k then a else a.map (·.add (k * 1))) (cap - k) (l.drop k) := by
  obtain ⟨h1, h2, h3, h4⟩ := h
  refine ⟨by rw [List.length_drop]; omega, by omega, fun e => ?_, fun i c hi => ?_⟩
  · split at e
    · have := h3 e; omega
    · have := h3 (by simpa using e); omega
  · rw [List.getElem?_drop] at hi
    have hil := (List.getElem?_eq_some_iff.1 hi).1
    obtain ⟨g, o, rfl, hg, h5⟩ := h4 (k + i) c hi
    rw [if_neg (by omega)]
    refine ⟨g, o + k, ?_, hg, ?_⟩
    · cases k <;> simp [Addr.add]
    · rwa [show o + (k + i) = o + k + i by omega] at h5
theorem V1.take {w : World} {a : Option Addr} {cap : Nat} {l : List Value} (h : V1 w a cap l) (k : Nat) : V1 w a cap (l.take k) := by
  obtain ⟨h1, h2, h3, h4⟩ := h
  refine ⟨by rw [List.length_take]; omega, h2, h3, fun i c hi => ?_⟩
  rw [List.getElem?_take] at hi
  split at hi
  · exact h4 i c hi
  · cases hi
theorem V1.cell {w : World} {a : Option Addr} {cap : Nat} {l : List Value} (h : V1 w a cap l) {k : Nat} {x : Value} (hk : l[k]? = some x) : ∃ g o, a = some ⟨g, o, none⟩ ∧ g < w.heap.size ∧ w.cell? ⟨g, o + k, none⟩ = some x := h.2.2.2 k x hk
def O1 (T : TypeId) (B : Nat) (w : World) (v : Value) (xs : List Value) : Prop := w.ownsRow B T 1 v xs.length xs
theorem O1.next {T : TypeId} {B : Nat} {w w' : World} {v : Value} {l : List Value} (h : O1 T B w v l) (hb : Below w.heap.size w w') : O1 T B w' v l := row_next h fun g _ hg => hb.block g hg
theorem O1.mono {T : TypeId} {B C : Nat} {w : World} {v : Value} {l : List Value} (h : O1 T B w v l) (hC : C ≤ B) : O1 T C w v l := by
  obtain ⟨h1, h2⟩ := h
  refine ⟨h1, ?_⟩
  rcases h2 with h2 | ⟨g, cap, cur, hv, hB, h3⟩
  · exact .inl h2
  · exact .inr ⟨g, cap, cur, hv, Nat.le_trans hC hB, h3⟩
theorem O1.view {T : TypeId} {B : Nat} {w : World} {v : Value} {l : List Value} (h : O1 T B w v l) : ∃ a cap, v = .slice a l.length cap ∧ V1 w a cap l := by
  obtain ⟨h1, h2⟩ := h
  rcases h2 with ⟨rfl, hn⟩ | ⟨g, cap, cur, rfl, hB, hg, hn, hc, hsz, hxs⟩
  · refine ⟨none, 0, by rw [hn], ⟨by omega, by decide, fun _ => rfl, fun k c hk => ?_⟩⟩
    have := (List.getElem?_eq_some_iff.1 hk).1; omega
  · refine ⟨_, cap, rfl, ⟨hn, hc, (fun e => by cases e), fun k c hk => ⟨g, 0, rfl, (Array.getElem?_eq_some_iff.1 hg).1, ?_⟩⟩⟩
    have hkl := (List.getElem?_eq_some_iff.1 hk).1
    have e1 := hk
    rw [← hxs, List.getElem?_take_of_lt (by omega)] at e1
    rw [← e1, Nat.zero_add]
    simp [World.cell?, hg]
theorem O1.lt {T : TypeId} {B : Nat} {w : World} {v : Value} {l : List Value} (h : O1 T B w v l) : ∀ k, v.ownBlock = some k → B ≤ k := fun k hk => (World.ownsRow.lt h k hk).1
theorem O1.low {T : TypeId} {B : Nat} {w : World} {v : Value} {l : List Value} (h : O1 T B w v l) : ∀ k, v.ownBlock = some k → k < w.heap.size := fun k hk => (World.ownsRow.lt h k hk).2
theorem O1.vw {T : TypeId} {B : Nat} {w : World} {a : Option Addr} {n cap : Nat} {l : List Value} (h : O1 T B w (.slice a n cap) l) : V1 w a cap l := by
  obtain ⟨a', cap', e, hv⟩ := h.view
  cases e
  exact hv
theorem O1.len {T : TypeId} {B : Nat} {w : World} {a : Option Addr} {n cap : Nat} {l : List Value} (h : O1 T B w (.slice a n cap) l) : l.length = n := by
  obtain ⟨a', cap', e, hv⟩ := h.view
  cases e
  rfl
theorem O1.start {T : TypeId} {B : Nat} {w : World} (h : B ≤ w.heap.size) : O1 T B (w.alloc (.cells #[] T)) (.slice (some ⟨w.heap.size, 0, none⟩) 0 0) [] := World.ownsRow_made w #[] 0 h (by decide) rfl
theorem O1.nothing (T : TypeId) (B : Nat) (w : World) : O1 T B w (.slice none 0 0) [] := World.ownsRow_nil w B _ _
theorem O1.lit {T : TypeId} {B : Nat} {w : World} (h : B ≤ w.heap.size) (cs : Array Value) (hm : cs.size ≤ maxLen) : O1 T B (w.alloc (.cells cs T)) (.slice (some ⟨w.heap.size, 0, none⟩) cs.size cs.size) cs.toList := by
  have := World.ownsRow_lit (base := B) (e := T) (size := 1) w cs cs.size h hm (by omega)
  unfold O1
  rw [Array.length_toList]; exact this
theorem O1.grown {T : TypeId} {B : Nat} {w w' : World} {v : Value} {l : List Value} {row : Option Nat} (h : O1 T B w v l) (hg : w.grownBy w' row) (hne : ∀ k, v.ownBlock = some k → row ≠ some k) : O1 T B w' v l := row_next h fun g hk hlt => hg.block g hlt (fun e => hne g hk e.symm)
theorem O1.frozen {T : TypeId} {B : Nat} {w : World} {g n cap : Nat} {l : List Value} (h : O1 T B w (.slice (some ⟨g, 0, none⟩) n cap) l) (hn : n = l.length) (j : Nat) : w.frozen? ⟨g, j, none⟩ = false := by
  subst hn
  exact World.ownsRow.frozenAt h j
theorem O1.set {T : TypeId} {B : Nat} {w : World} {g n cap : Nat} {l : List Value} (h : O1 T B w (.slice (some ⟨g, 0, none⟩) n cap) l) (hn : n = l.length) (k : Nat) (x : Value) :
    O1 T B (w.setCell ⟨g, k, none⟩ x) (.slice (some ⟨g, 0, none⟩) n cap) (l.set k x) := by
  subst hn
  unfold O1
  rw [List.length_set]
  exact (World.ownsRow.stored h k x).1
set_option maxRecDepth 100000 in
theorem cut1 (T : TypeId) (hu : Tryz.prog.underlying T = some (.slice (Tryz.prog.elem T))) (hs : ∀ w, (sizeOf (Tryz.prog.elem T)).run Tryz.prog w = .ok 1 w) (a : Option Addr) (n cap i j : Nat) (hij : i ≤ j) (hj : j ≤ n) (hc : n ≤ cap) : ∃ b cb, (∀ w, (Instr.slice T (.slice a n cap) (some (.int .i64 (i : Int))) (some (.int .i64 (j : Int))) none).run Tryz.prog w = .ok (.slice b (j - i) cb) w) ∧
    ∀ w l, V1 w a cap l → l.length = n → V1 w b cb ((l.drop i).take (j - i)) := by
  refine ⟨_, _, fun w => ?_, fun w l h hl => (h.drop (k := i) (by omega)).take (j - i)⟩
  rw [run_slice_lh w T a n cap hu .i64 .i64 (i : Int) (j : Int) (by omega) (by omega) (by omega), hs]
  rfl
def txL (l : List Tk) : List Value := l.map tv
def inL (l : List Int) : List Value := l.map iv
theorem txL_len (l : List Tk) : (txL l).length = l.length := List.length_map _
theorem txL_get {l : List Tk} {k : Nat} {s : Tk} (h : l[k]? = some s) : (txL l)[k]? = some (tv s) := by unfold txL; rw [List.getElem?_map, h]; rfl
theorem inL_get {l : List Int} {k : Nat} {n : Int} (h : l[k]? = some n) : (inL l)[k]? = some (iv n) := by unfold inL; rw [List.getElem?_map, h]; rfl
theorem V1.tx {w : World} {a : Option Addr} {cap : Nat} {l : List Tk} (h : V1 w a cap (txL l)) {k : Nat} {s : Tk} (hk : l[k]? = some s) : ∃ g o, a = some ⟨g, o, none⟩ ∧ g < w.heap.size ∧ w.cell? ⟨g, o + k, none⟩ = some (.string (tx s)) := h.cell (txL_get hk)
theorem V1.iv {w : World} {a : Option Addr} {cap : Nat} {l : List Int} (h : V1 w a cap (inL l)) {k : Nat} {n : Int} (hk : l[k]? = some n) : ∃ g o, a = some ⟨g, o, none⟩ ∧ g < w.heap.size ∧ w.cell? ⟨g, o + k, none⟩ = some (.int .i64 n) := h.cell (inL_get hk)
def OT (B : Nat) (w : World) (v : Value) (l : List Tk) : Prop := O1 9 B w v (txL l)
def ON (B : Nat) (w : World) (v : Value) (l : List Int) : Prop := O1 2 B w v (inL l)
theorem OT.next {B : Nat} {w w' : World} {v : Value} {l : List Tk} (h : OT B w v l) (hb : Below w.heap.size w w') : OT B w' v l := O1.next h hb
theorem ON.next {B : Nat} {w w' : World} {v : Value} {l : List Int} (h : ON B w v l) (hb : Below w.heap.size w w') : ON B w' v l := O1.next h hb
theorem OT.lt {B : Nat} {w : World} {v : Value} {l : List Tk} (h : OT B w v l) : ∀ k, v.ownBlock = some k → B ≤ k := O1.lt h
theorem ON.lt {B : Nat} {w : World} {v : Value} {l : List Int} (h : ON B w v l) : ∀ k, v.ownBlock = some k → B ≤ k := O1.lt h
theorem OT.low {B : Nat} {w : World} {v : Value} {l : List Tk} (h : OT B w v l) : ∀ k, v.ownBlock = some k → k < w.heap.size := O1.low h
theorem ON.low {B : Nat} {w : World} {v : Value} {l : List Int} (h : ON B w v l) : ∀ k, v.ownBlock = some k → k < w.heap.size := O1.low h
theorem OT.vw {B : Nat} {w : World} {a : Option Addr} {n cap : Nat} {l : List Tk} (h : OT B w (.slice a n cap) l) : V1 w a cap (txL l) := O1.vw h
theorem ON.vw {B : Nat} {w : World} {a : Option Addr} {n cap : Nat} {l : List Int} (h : ON B w (.slice a n cap) l) : V1 w a cap (inL l) := O1.vw h
theorem info1T : (Tryz.prog.info? 9).map (fun i => (i.zero, i.size, i.bytes)) = some (some (.string ⟨#[]⟩), 1, 16) := by kernel_rfl
def SzT (l : List Tk) (n : Int) (w : World) (e : Ending) (w' : World) : Prop := ∃ z : Int, e = .returned (.int .i64 z) ∧ Below w.heap.size w w' ∧ (z < 0 ∨ 0 ≤ z ∧ z ≤ n ∧ (l.length : Int) ≤ n ∧ ∀ s ∈ l, (s.length : Int) ≤ n)
set_option maxHeartbeats 4000000 in
set_option maxRecDepth 100000 in
theorem szStringS_any (w : World) (a : Option Addr) (cap : Nat) (l : List Tk) (L : Nat) (n : Int) (hL : l.length = L) (hv : V1 w a cap (txL l)) (hm : ∀ s ∈ l, s.length ≤ 9223372036854775807) (h0 : 0 ≤ n) (hn : n ≤ 1048576) :
    Calls Tryz.prog 4 #[.slice a L cap, .int .i64 n] w (SzT l n w) := by
  have hlm : L ≤ 9223372036854775807 := by have := hv.1; have h2 := hv.2.1; rw [txL_len] at this; unfold maxLen at h2; omega
  have HV := Lib.hid hv; clear hv
  have HM := Lib.hid hm; clear hm
  by_cases hlt : n - (L : Int) < 0
  · go_enter Tryz.func4, Tryz.ntmps4
    go_wp2_with fail
    go_ret
    exact ⟨-1, rfl, Below.refl _ _, Or.inl (by decide)⟩
  · go_enter Tryz.func4, Tryz.ntmps4
    go_wp2_with fail
    go_loopw [1, 5] (fun q i wr => ∃ (k : Nat) (z : Int), k ≤ L ∧ i = .int .i64 k ∧ q = .int .i64 z ∧ 0 ≤ z ∧ z ≤ n ∧ (∀ (j : Nat) (c : Tk), j < k → l[j]? = some c → (c.length : Int) ≤ n) ∧ Below w.heap.size w wr) (fun _ i _ => L - intV i)
    case atStart => exact ⟨0, n - L, Nat.zero_le _, rfl, rfl, by omega, by omega, fun j c hj => by omega, Below.refl _ _⟩
    case round =>
      obtain ⟨k, z, hk, rfl, rfl, z0, z1, hok, hbel⟩ := hrel
      have HB := Lib.hid hbel; clear hbel
      have HO := Lib.hid hok; clear hok
      by_cases hlk : k < L
      · obtain ⟨c, hc⟩ : ∃ c, l[k]? = some c := ⟨l[k], List.getElem?_eq_getElem (by omega)⟩
        obtain ⟨g, o, rfl, hg, h5⟩ := HV.out.tx hc
        have c0 : wr.cell? ⟨g, o + k, none⟩ = some (.string (tx c)) := (World.cell?_of_block (w := w) (HB.out.block g hg)).trans h5
        have hcl := HM.out c (List.mem_of_getElem? hc)
        have HS := Lib.hid (tx_size c)
        have HC := Lib.hid hc; clear hc h5 hg
        generalize hsz : (tx c) = s at *
        have hcl2 : s.size ≤ 9223372036854775807 := by have := HS.out; omega
        by_cases hy : z - s.size < 0
        · go_wp2_with fail
          go_ret
          exact ⟨-1, rfl, HB.out, Or.inl (by decide)⟩
        · go_wp2_with fail
          go_roundw
          case rel =>
            refine ⟨k + 1, z - s.size, by omega, by go_num, rfl, by omega, by omega, fun j d hj hd => ?_, HB.out⟩
            by_cases he : j = k
            · subst he
              obtain rfl : c = d := Option.some.inj (HC.out.symm.trans hd)
              have := HS.out
              omega
            · exact HO.out j d (by omega) hd
          case measure => simp [intV]; omega
      · obtain rfl : k = L := by omega
        go_wp2_with fail
        go_ret
        refine ⟨z, rfl, HB.out, Or.inr ⟨z0, z1, by omega, fun c hc => ?_⟩⟩
        obtain ⟨j, hj⟩ := List.mem_iff_getElem?.1 hc
        exact HO.out j c (by have := (List.getElem?_eq_some_iff.1 hj).1; omega) hj
set_option maxHeartbeats 4000000 in
set_option maxRecDepth 100000 in
theorem toStringS_is (w : World) (a : Option Addr) (cap : Nat) (l : List Tk) (L : Nat) (hL : l.length = L) (hv : V1 w a cap (txL l)) (hl : L ≤ 1048576) :
    Calls Tryz.prog 6 #[.slice a L cap] w fun e w' => ∃ g, e = .returned (.slice (some ⟨g, 0, none⟩) L L) ∧ w.heap.size ≤ g ∧ OT w.heap.size w' (.slice (some ⟨g, 0, none⟩) L L) l ∧ Below w.heap.size w w' := by
  obtain ⟨i0, hi, hz0, hz1, hz2⟩ := info_parts info1T
  have HV := Lib.hid hv; clear hv
  go_enter Tryz.func6, Tryz.ntmps6
  go_wp2_with (first
    | (at_make; refine wpList_make_full _ rfl (.tmp 6) (.tmp 6) 22 rfl w.heap.size 9 i0 _ 1 Tryz.underlying22 hi hz0 hz1 .i64 .i64 _ _ L rfl rfl rfl rfl (by rw [hz2]; omega) (by unfold maxLen; omega) (Nat.le_refl _) ?_; intro w1 hown1 hgrow1))
  rw [Nat.mul_one] at hown1
  have hst : ∃ m, m.length = L ∧ O1 9 w.heap.size w1 (.slice (some ⟨w.heap.size, 0, none⟩) L L) m := ⟨_, (by have h0 := hown1.1; rw [Nat.mul_one] at h0; exact h0), (by unfold O1; have h0 := hown1.1; rw [Nat.mul_one] at h0; rw [h0]; exact hown1)⟩
  have hb1 : Below w.heap.size w w1 := (Below.refl _ _).grown hgrow1 (Nat.le_refl _) (fun _ h => by cases h)
  have H1 := Lib.hid (And.intro hst hb1); clear hst hb1 hown1 hgrow1
  go_loopw [4] (fun i wr => ∃ (k : Nat) (m : List Value), k ≤ L ∧ i = .int .i64 k ∧ m.length = L ∧ (∀ j, j < k → m[j]? = (txL l)[j]?) ∧ O1 9 w.heap.size wr (.slice (some ⟨w.heap.size, 0, none⟩) L L) m ∧ Below w.heap.size w wr) (fun i _ => L - intV i)
  case atStart =>
    obtain ⟨⟨m, hm, ho⟩, hb⟩ := H1.out
    exact ⟨0, m, Nat.zero_le _, rfl, hm, fun j hj => by omega, ho, hb⟩
  case round =>
    clear H1
    obtain ⟨k, m, hk, rfl, hm, hmk, hown, hbel⟩ := hrel
    have HB := Lib.hid hbel; clear hbel
    have HM := Lib.hid hmk; clear hmk
    by_cases hlk : k < L
    · obtain ⟨c, hc⟩ : ∃ c, l[k]? = some c := ⟨l[k], List.getElem?_eq_getElem (by omega)⟩
      obtain ⟨g, o, rfl, hg, h5⟩ := HV.out.tx hc
      have c0 : wr.cell? ⟨g, o + k, none⟩ = some (.string (tx c)) := (World.cell?_of_block (w := w) (HB.out.block g hg)).trans h5
      have HC := Lib.hid (txL_get hc); clear hc h5 hg
      have f0 := hown.frozen hm.symm k
      obtain ⟨d, hd⟩ : ∃ d, m[k]? = some d := ⟨m[k], List.getElem?_eq_getElem (by omega)⟩
      obtain ⟨g2, o2, e2, -, d0⟩ := hown.vw.cell hd
      cases e2
      rw [Nat.zero_add] at d0
      have HS := Lib.hid (hown.set hm.symm k (.string (tx c)))
      have HB2 := Lib.hid (HB.out.setCell (p := ⟨w.heap.size, k, none⟩) (Nat.le_refl _) (.string (tx c)))
      clear hown hd
      generalize hG : w.heap.size = G at *
      unfold tv at HC
      generalize tx c = c at *
      go_wp2_with fail
      subst hG
      go_roundw
      case rel =>
        refine ⟨k + 1, m.set k _, by omega, by go_num, by rw [List.length_set]; exact hm, fun j hj => ?_, HS.out, HB2.out⟩
        by_cases he : j = k
        · subst he; rw [List.getElem?_set_self (by omega), HC.out]
        · rw [List.getElem?_set_ne (by omega)]; exact HM.out j (by omega)
      case measure => simp [intV]; omega
    · obtain rfl : k = L := by omega
      have hml : m = txL l := by
        apply List.ext_getElem?
        intro i
        by_cases hi : i < k
        · exact HM.out i hi
        · rw [List.getElem?_eq_none (by omega), List.getElem?_eq_none (by rw [txL_len]; omega)]
      subst hml
      have HO := Lib.hid hown; clear hown
      go_wp2_with fail
      go_ret
      exact ⟨_, rfl, Nat.le_refl _, HO.out, HB.out⟩
set_option maxHeartbeats 4000000 in
set_option maxRecDepth 100000 in
theorem eqStringS_is (w : World) (a b : Option Addr) (ca cb : Nat) (l : List Tk) (n : Nat) (hn : l.length = n) (hv : V1 w a ca (txL l)) (hu : V1 w b cb (txL l)) (hl : n ≤ 4194304) :
    Calls Tryz.prog 9 #[.slice a n ca, .slice b n cb] w fun e w' => e = .returned (.bool true) ∧ Below w.heap.size w w' := by
  have HV := Lib.hid hv; clear hv
  have HU := Lib.hid hu; clear hu
  have q0 : ((n : Int) != (n : Int)) = false := by simp
  go_enter Tryz.func9, Tryz.ntmps9
  go_wp2_with fail
  go_loopw [5] (fun i wr => ∃ k : Nat, k ≤ n ∧ i = .int .i64 k ∧ Below w.heap.size w wr) (fun i _ => n - intV i)
  case atStart => exact ⟨0, Nat.zero_le _, rfl, Below.refl _ _⟩
  case round =>
    obtain ⟨k, hk, rfl, hbel⟩ := hrel
    have HB := Lib.hid hbel; clear hbel
    by_cases hlt : k < n
    · obtain ⟨c, hc⟩ : ∃ c, l[k]? = some c := ⟨l[k], List.getElem?_eq_getElem (by omega)⟩
      obtain ⟨g, o, rfl, hg, g5⟩ := HV.out.tx hc
      obtain ⟨h, p, rfl, hh, h5⟩ := HU.out.tx hc
      have c1 : wr.cell? ⟨g, o + k, none⟩ = some (.string (tx c)) := (World.cell?_of_block (w := w) (HB.out.block g hg)).trans g5
      have c2 : wr.cell? ⟨h, p + k, none⟩ = some (.string (tx c)) := (World.cell?_of_block (w := w) (HB.out.block h hh)).trans h5
      clear hc g5 h5 hg hh HV HU
      generalize tx c = x at c1 c2
      have q1 : (x.toList == x.toList) = true := by simp
      go_wp2_with fail
      go_quiet (fail)
      go_wp2_with fail
      go_roundw
      case rel => exact ⟨k + 1, by omega, by go_num, bel_drewN HB.out _⟩
      case measure => simp [intV]; omega
    · obtain rfl : k = n := by omega
      go_wp2_with fail
      go_ret
      exact ⟨rfl, HB.out⟩
end Go.Proofs.YtoiphglfngkoiaaGreatDoor.Cl
namespace Go.Proofs.YtoiphglfngkoiaaGreatDoor.Rp
set_option linter.unusedVariables false
open Go.RowKit Wd
def piece (s : ByteArray) (i k : Nat) : List UInt8 := (s.data.toList.take k).drop i
theorem take_snoc (s : ByteArray) (k : Nat) (h : k < s.size) : s.data.toList.take (k + 1) = s.data.toList.take k ++ [s[k]] := by
  rw [List.take_succ_eq_append_getElem (by simpa using h)]; rfl
theorem len_eq (s : ByteArray) : s.data.toList.length = s.size := (Lib.size_eq s).symm
theorem piece_snoc (s : ByteArray) (i k : Nat) (hi : i ≤ k) (h : k < s.size) : piece s i (k + 1) = piece s i k ++ [s[k]] := by
  unfold piece
  rw [take_snoc s k h, List.drop_append_of_le_length]
  rw [List.length_take, len_eq]; omega
theorem piece_len (s : ByteArray) (i k : Nat) (h : k ≤ s.size) : (piece s i k).length = k - i := by
  unfold piece; rw [List.length_drop, List.length_take, len_eq]; omega
theorem piece_all (s : ByteArray) (i : Nat) : piece s i s.size = s.data.toList.drop i := by
  unfold piece; rw [List.take_of_length_le (by rw [len_eq]; exact Nat.le_refl _)]
theorem piece_start (s : ByteArray) (i : Nat) : piece s i i = [] := by
  unfold piece; apply List.drop_eq_nil_of_le; rw [List.length_take]; omega
theorem get_head (s : ByteArray) (i : Nat) (h : i < s.size) : (s.data.toList.drop i).head? = some s[i] := by
  rw [List.head?_drop, List.getElem?_eq_getElem (by rw [len_eq]; exact h)]; rfl
theorem not_all (s : ByteArray) (i k : Nat) (hi : i ≤ k) (h : k < s.size) (hd : isDig s[k] = false) : ¬ (s.data.toList.drop i).all isDig = true := by
  intro ha
  rw [List.all_eq_true] at ha
  have hm : s[k] ∈ s.data.toList.drop i := by
    rw [List.mem_iff_getElem?]
    refine ⟨k - i, ?_⟩
    rw [List.getElem?_drop, show i + (k - i) = k by omega, List.getElem?_eq_getElem (by rw [len_eq]; exact h)]; rfl
  rw [ha _ hm] at hd
  cases hd
theorem not_nil (s : ByteArray) (h : 0 < s.size) : ¬ s.toList = [] := by
  rw [toList_nil_iff_emptyBytes]
  intro e
  rw [e] at h
  exact absurd h (by decide)
theorem not_nilB (s : ByteArray) (h : 0 < s.size) : (!s.toList.isEmpty) = true := by
  have := not_nil s h
  cases hl : s.toList with
  | nil => exact absurd hl this
  | cons _ _ => rfl
theorem dig_of {c : UInt8} (h : isDig c = true) : (48 : Int) ≤ (c.toNat : Int) ∧ (c.toNat : Int) ≤ 57 := by simp [isDig] at h; omega
theorem dig_not {c : UInt8} (h : isDig c = false) : (c.toNat : Int) < 48 ∨ (57 : Int) < (c.toNat : Int) := by
  have : ¬ (48 ≤ c.toNat ∧ c.toNat ≤ 57) := by intro g; have : isDig c = true := by simp [isDig, g.1, g.2]
                                               rw [this] at h; cases h
  omega
theorem byte_is (c d : UInt8) (h : (c.toNat : Int) = d.toNat) : c = d := UInt8.toNat_inj.1 (by omega)
theorem val_bd (s : ByteArray) (i k : Nat) (h : (piece s i k).all isDig = true) (hk : k ≤ s.size) (hl : s.size - i ≤ 10) : (val (piece s i k) : Int) ≤ 10000000000 := by
  have h1 := val_lt _ h
  rw [piece_len s i k hk] at h1
  have h2 : 10 ^ (k - i) ≤ 10 ^ 10 := Nat.pow_le_pow_right (by decide) (by omega)
  omega

def RdPost (s : ByteArray) (w : World) (e : Ending) (w' : World) : Prop := e = .returned (.tuple #[.int .i64 (rdV s.data.toList), .bool (rdB s.data.toList)]) ∧ w = w'
theorem rd_none {s : ByteArray} {w : World} (h : rd s.data.toList = none) : RdPost s w (.returned (.tuple #[.int .i64 0, .bool false])) w := by
  refine ⟨?_, rfl⟩; simp [rdV, rdB, h]
theorem rd_some {s : ByteArray} {w : World} {v : Int} (h : rd s.data.toList = some v) : RdPost s w (.returned (.tuple #[.int .i64 v, .bool true])) w := by
  refine ⟨?_, rfl⟩; simp [rdV, rdB, h]

theorem empty_calls (w : World) : Calls Tryz.prog 30 #[.string ⟨#[]⟩] w fun e w' => e = .returned (.tuple #[.int .i64 0, .bool false]) ∧ w = w' := by
  go_enter Tryz.func30, Tryz.ntmps30
  go_wp2
  go_ret2
  exact ⟨rfl, rfl⟩

set_option maxHeartbeats 1000000 in
theorem long_plain (s : ByteArray) (w : World) (hs : s.size ≤ 9223372036854775807) (h0 : 0 < s.size) (g1 : (((s[0]'h0).toNat : Int) == 45) = false) (hl : 10 < s.size) :
    Calls Tryz.prog 30 #[.string s] w fun e w' => e = .returned (.tuple #[.int .i64 0, .bool false]) ∧ w = w' := by
  have g2 : (0 : Int) < (s.size : Int) := by omega
  have g3 := not_nil s h0
  have g5 := not_nilB s h0
  go_enter Tryz.func30, Tryz.ntmps30
  go_wp2
  go_ret2
  exact ⟨rfl, rfl⟩
set_option maxHeartbeats 4000000 in
theorem short_plain (s : ByteArray) (w : World) (h0 : 0 < s.size) (g1 : (((s[0]'h0).toNat : Int) == 45) = false) (hlo : 1 ≤ s.size) (hl : s.size ≤ 10)
    (hrd : rd s.data.toList = if ¬ (s.data.toList.drop 0).all isDig = true then none else if ((s[0]'(by omega)).toNat = 48 ∧ 1 < s.size) then none else if isW (val (s.data.toList.drop 0) : Int) then some (val (s.data.toList.drop 0) : Int) else none) :
    Calls Tryz.prog 30 #[.string s] w (RdPost s w) := by
  have HR := Lib.hid hrd; clear hrd
  have g2 : (0 : Int) < (s.size : Int) := by omega
  have g3 := not_nil s h0
  have g5 := not_nilB s h0
  have g4 : (0 : Int) < (s.size : Int) := by omega
  go_enter Tryz.func30, Tryz.ntmps30
  go_wp2
  go_loop [6, 7] (fun n i => ∃ k : Nat, 0 ≤ k ∧ k ≤ s.size ∧ i = .int .i64 k ∧ n = .int .i64 (val (piece s 0 k)) ∧ (piece s 0 k).all isDig = true) (fun _ i => s.size - (intOf i).toNat)
  case atStart => exact ⟨0, Nat.le_refl _, by omega, rfl, by rw [piece_start]; rfl, by rw [piece_start]; rfl⟩
  case round =>
    obtain ⟨k, hk0, hk, rfl, rfl, hall⟩ := hrel
    have hv := val_bd s 0 k hall hk (by omega)
    have HA := Lib.hid hall; clear hall
    by_cases hlt : k < s.size
    · have hps := piece_snoc s 0 k hk0 hlt
      have HP := Lib.hid hps; clear hps
      cases hd : isDig s[k]
      · have hn := rd_none (s := s) (w := w) (by rw [HR.out, if_pos (not_all s 0 k hk0 hlt hd)])
        have HN := Lib.hid hn; clear hn
        have hx := dig_not hd
        clear hd
        rcases hx with hx | hx
        · go_wp2
          go_ret2
          exact HN.out
        · go_wp2
          go_ret2
          exact HN.out
      · obtain ⟨d0, d1⟩ := dig_of hd
        have HD := Lib.hid hd; clear hd
        go_wp2
        go_round
        case rel =>
          refine ⟨k + 1, by omega, by omega, by go_num, ?_, ?_⟩
          · rw [HP.out, val_snoc]; go_num
          · rw [HP.out, List.all_append, HA.out]; simp [HD.out]
        case measure => simp [intOf]; omega
    · obtain rfl : k = s.size := by omega
      have hall := HA.out
      rw [piece_all] at hall hv ⊢
      have HL := Lib.hid hall; clear hall HA
      have hr : rd s.data.toList = if ((s[0]'(by omega)).toNat = 48 ∧ 1 < s.size) then none else if isW (val (s.data.toList.drop 0) : Int) then some (val (s.data.toList.drop 0) : Int) else none := by
        rw [HR.out, if_neg (fun g => g HL.out)]
      have H2 := Lib.hid hr; clear hr HR
      generalize hg : (val (s.data.toList.drop 0) : Int) = v at hv H2 ⊢
      have HG := Lib.hid hg; clear hg
      have v0 : 0 ≤ v := by rw [← HG.out]; omega
      by_cases hz : (s[0]'(by omega)).toNat = 48 ∧ 1 < s.size
      · have hn := rd_none (s := s) (w := w) (by rw [H2.out, if_pos hz])
        have HN := Lib.hid hn; clear hn
        have z1 : (((s[0]'(by omega)).toNat : Int) == 48) = true := by rw [beq_iff_eq]; omega
        have z2 : (1 : Int) < (s.size : Int) := by omega
        have HZ := Lib.hid hz; clear hz
        go_wp2
        go_ret2
        exact HN.out
      · have hr : rd s.data.toList = if isW v then some v else none := by rw [H2.out, if_neg hz]
        have H3 := Lib.hid hr; clear hr H2
        have hz' : (((s[0]'(by omega)).toNat : Int) == 48) = false ∨ ((((s[0]'(by omega)).toNat : Int) == 48) = true ∧ ¬ (1 : Int) < (s.size : Int)) := by
          by_cases q : (s[0]'(by omega)).toNat = 48
          · exact Or.inr ⟨by rw [beq_iff_eq]; omega, by omega⟩
          · exact Or.inl (by rw [beq_eq_false_iff_ne]; omega)
        clear hz
        cases hw : isW v
        · have hn := rd_none (s := s) (w := w) (by rw [H3.out, hw]; rfl)
          have HN := Lib.hid hn; clear hn
          rcases hz' with z1 | ⟨z1, z2⟩
          all_goals
            go_wp2_with (go_at_call 41; refine (l1Word_any _ _).mono ?_; rintro e w' ⟨rfl, rfl⟩)
            go_ret2
            exact HN.out
        · have hn := rd_some (s := s) (w := w) (v := v) (by rw [H3.out, hw]; rfl)
          have HN := Lib.hid hn; clear hn
          rcases hz' with z1 | ⟨z1, z2⟩
          all_goals
            go_wp2_with (go_at_call 41; refine (l1Word_any _ _).mono ?_; rintro e w' ⟨rfl, rfl⟩)
            go_ret2
            exact HN.out

set_option maxHeartbeats 1000000 in
theorem long_minus (s : ByteArray) (w : World) (hs : s.size ≤ 9223372036854775807) (h0 : 0 < s.size) (g1 : (((s[0]'h0).toNat : Int) == 45) = true) (hl : 11 < s.size) :
    Calls Tryz.prog 30 #[.string s] w fun e w' => e = .returned (.tuple #[.int .i64 0, .bool false]) ∧ w = w' := by
  have g2 : (0 : Int) < (s.size : Int) := by omega
  have g3 := not_nil s h0
  have g5 := not_nilB s h0
  go_enter Tryz.func30, Tryz.ntmps30
  go_wp2
  go_ret2
  exact ⟨rfl, rfl⟩
set_option maxHeartbeats 4000000 in
theorem short_minus (s : ByteArray) (w : World) (h0 : 0 < s.size) (g1 : (((s[0]'h0).toNat : Int) == 45) = true) (hlo : 2 ≤ s.size) (hl : s.size ≤ 11)
    (hrd : rd s.data.toList = if ¬ (s.data.toList.drop 1).all isDig = true then none else if (s[1]'(by omega)).toNat = 48 then none else if isW (-(val (s.data.toList.drop 1) : Int)) then some (-(val (s.data.toList.drop 1) : Int)) else none) :
    Calls Tryz.prog 30 #[.string s] w (RdPost s w) := by
  have HR := Lib.hid hrd; clear hrd
  have g2 : (0 : Int) < (s.size : Int) := by omega
  have g3 := not_nil s h0
  have g5 := not_nilB s h0
  have g4 : (1 : Int) < (s.size : Int) := by omega
  go_enter Tryz.func30, Tryz.ntmps30
  go_wp2
  go_loop [6, 7] (fun n i => ∃ k : Nat, 1 ≤ k ∧ k ≤ s.size ∧ i = .int .i64 k ∧ n = .int .i64 (val (piece s 1 k)) ∧ (piece s 1 k).all isDig = true) (fun _ i => s.size - (intOf i).toNat)
  case atStart => exact ⟨1, Nat.le_refl _, by omega, rfl, by rw [piece_start]; rfl, by rw [piece_start]; rfl⟩
  case round =>
    obtain ⟨k, hk0, hk, rfl, rfl, hall⟩ := hrel
    have hv := val_bd s 1 k hall hk (by omega)
    have HA := Lib.hid hall; clear hall
    by_cases hlt : k < s.size
    · have hps := piece_snoc s 1 k hk0 hlt
      have HP := Lib.hid hps; clear hps
      cases hd : isDig s[k]
      · have hn := rd_none (s := s) (w := w) (by rw [HR.out, if_pos (not_all s 1 k hk0 hlt hd)])
        have HN := Lib.hid hn; clear hn
        have hx := dig_not hd
        clear hd
        rcases hx with hx | hx
        · go_wp2
          go_ret2
          exact HN.out
        · go_wp2
          go_ret2
          exact HN.out
      · obtain ⟨d0, d1⟩ := dig_of hd
        have HD := Lib.hid hd; clear hd
        go_wp2
        go_round
        case rel =>
          refine ⟨k + 1, by omega, by omega, by go_num, ?_, ?_⟩
          · rw [HP.out, val_snoc]; go_num
          · rw [HP.out, List.all_append, HA.out]; simp [HD.out]
        case measure => simp [intOf]; omega
    · obtain rfl : k = s.size := by omega
      have hall := HA.out
      rw [piece_all] at hall hv ⊢
      have HL := Lib.hid hall; clear hall HA
      have hr : rd s.data.toList = if (s[1]'(by omega)).toNat = 48 then none else if isW (-(val (s.data.toList.drop 1) : Int)) then some (-(val (s.data.toList.drop 1) : Int)) else none := by
        rw [HR.out, if_neg (fun g => g HL.out)]
      have H2 := Lib.hid hr; clear hr HR
      generalize hg : (val (s.data.toList.drop 1) : Int) = v at hv H2 ⊢
      have HG := Lib.hid hg; clear hg
      have v0 : 0 ≤ v := by rw [← HG.out]; omega
      by_cases hz : (s[1]'(by omega)).toNat = 48
      · have hn := rd_none (s := s) (w := w) (by rw [H2.out, if_pos hz])
        have HN := Lib.hid hn; clear hn
        have z1 : (((s[1]'(by omega)).toNat : Int) == 48) = true := by rw [beq_iff_eq]; omega
        have HZ := Lib.hid hz; clear hz
        go_wp2
        go_ret2
        exact HN.out
      · have z1 : (((s[1]'(by omega)).toNat : Int) == 48) = false := by rw [beq_eq_false_iff_ne]; omega
        have hr : rd s.data.toList = if isW (-v) then some (-v) else none := by rw [H2.out, if_neg hz]
        have H3 := Lib.hid hr; clear hr H2 hz
        cases hw : isW (-v)
        · have hn := rd_none (s := s) (w := w) (by rw [H3.out, hw]; rfl)
          have HN := Lib.hid hn; clear hn
          go_wp2_with (go_at_call 41; refine (l1Word_any _ _).mono ?_; rintro e w' ⟨rfl, rfl⟩)
          go_ret2
          exact HN.out
        · have hn := rd_some (s := s) (w := w) (v := -v) (by rw [H3.out, hw]; rfl)
          have HN := Lib.hid hn; clear hn
          go_wp2_with (go_at_call 41; refine (l1Word_any _ _).mono ?_; rintro e w' ⟨rfl, rfl⟩)
          go_ret2
          exact HN.out

set_option maxHeartbeats 1000000 in
theorem one_minus (s : ByteArray) (w : World) (h0 : 0 < s.size) (g1 : (((s[0]'h0).toNat : Int) == 45) = true) (hl : s.size = 1) :
    Calls Tryz.prog 30 #[.string s] w fun e w' => e = .returned (.tuple #[.int .i64 0, .bool false]) ∧ w = w' := by
  have g2 : (0 : Int) < (s.size : Int) := by omega
  have g3 := not_nil s h0
  have g5 := not_nilB s h0
  have g4 : (s.size : Int) ≤ 1 := by omega
  clear hl
  go_enter Tryz.func30, Tryz.ntmps30
  go_wp2
  go_ret2
  exact ⟨rfl, rfl⟩

theorem specRead_any (s : ByteArray) (w : World) (hs : s.size ≤ 9223372036854775807) : Calls Tryz.prog 30 #[.string s] w (RdPost s w) := by
  by_cases h0 : 0 < s.size
  · have hh := get_head s 0 h0
    rw [List.drop_zero] at hh
    by_cases hm : (s[0]'h0).toNat = 45
    · have hc : s[0]'h0 = 45 := byte_is _ _ (by rw [hm]; rfl)
      have hhead : s.data.toList.head? = some 45 := by rw [hh, hc]
      have htail : s.data.toList.tail = s.data.toList.drop 1 := by cases s.data.toList <;> rfl
      have hlen : (s.data.toList.drop 1).length = s.size - 1 := by rw [List.length_drop, len_eq]
      have g1 : (((s[0]'h0).toNat : Int) == 45) = true := by rw [beq_iff_eq]; omega
      have hrd : rd s.data.toList = if s.size - 1 < 1 ∨ 10 < s.size - 1 then none else if ¬ (s.data.toList.drop 1).all isDig = true then none else if (s.data.toList.drop 1).head? = some 48 then none else if isW (-(val (s.data.toList.drop 1) : Int)) then some (-(val (s.data.toList.drop 1) : Int)) else none := by
        unfold rd; rw [if_pos hhead, htail, hlen]
      by_cases hl : 11 < s.size
      · refine (long_minus s w hs h0 g1 hl).mono ?_
        rintro e w' ⟨rfl, rfl⟩
        exact rd_none (by rw [hrd, if_pos (by omega)])
      · by_cases h1 : 2 ≤ s.size
        · refine short_minus s w h0 g1 h1 (by omega) ?_
          rw [hrd, if_neg (by omega)]
          have h2 := get_head s 1 (by omega)
          rw [h2]
          have he : (some (s[1]'(by omega)) = some (48 : UInt8)) ↔ (s[1]'(by omega)).toNat = 48 := by
            rw [Option.some.injEq]
            exact ⟨fun e => by rw [e]; rfl, fun e => byte_is _ _ (by rw [e]; rfl)⟩
          by_cases hz : (s[1]'(by omega)).toNat = 48
          · rw [if_pos (he.2 hz), if_pos hz]
          · rw [if_neg (fun e => hz (he.1 e)), if_neg hz]
        · refine (one_minus s w h0 g1 (by omega)).mono ?_
          rintro e w' ⟨rfl, rfl⟩
          exact rd_none (by rw [hrd, if_pos (by omega)])
    · have hhead : ¬ s.data.toList.head? = some 45 := by
        rw [hh, Option.some.injEq]; intro e; apply hm; rw [e]; rfl
      have g1 : (((s[0]'h0).toNat : Int) == 45) = false := by rw [beq_eq_false_iff_ne]; omega
      have hrd : rd s.data.toList = if s.size < 1 ∨ 10 < s.size then none else if ¬ (s.data.toList.drop 0).all isDig = true then none else if (s.data.toList.drop 0).head? = some 48 ∧ 1 < s.size then none else if isW (val (s.data.toList.drop 0) : Int) then some (val (s.data.toList.drop 0) : Int) else none := by
        unfold rd; rw [if_neg hhead, len_eq, List.drop_zero]
      by_cases hl : 10 < s.size
      · refine (long_plain s w hs h0 g1 hl).mono ?_
        rintro e w' ⟨rfl, rfl⟩
        exact rd_none (by rw [hrd, if_pos (by omega)])
      · refine short_plain s w h0 g1 (by omega) (by omega) ?_
        rw [hrd, if_neg (by omega)]
        have h2 := get_head s 0 h0
        rw [h2]
        have he : (some (s[0]'h0) = some (48 : UInt8) ∧ 1 < s.size) ↔ ((s[0]'h0).toNat = 48 ∧ 1 < s.size) := by
          rw [Option.some.injEq]
          exact ⟨fun e => ⟨by rw [e.1]; rfl, e.2⟩, fun e => ⟨byte_is _ _ (by rw [e.1]; rfl), e.2⟩⟩
        by_cases hz : (s[0]'h0).toNat = 48 ∧ 1 < s.size
        · rw [if_pos (he.2 hz), if_pos hz]
        · rw [if_neg (fun e => hz (he.1 e)), if_neg hz]
  · obtain rfl : s = ⟨#[]⟩ := by
      obtain ⟨a⟩ := s
      have : a.size = 0 := by have : ¬ 0 < a.size := h0; omega
      rw [Array.size_eq_zero_iff] at this
      rw [this]
    refine (empty_calls w).mono ?_
    rintro e w' ⟨rfl, rfl⟩
    exact rd_none rfl
end Go.Proofs.YtoiphglfngkoiaaGreatDoor.Rp
namespace Go.Proofs
set_option linter.unusedVariables false
open Go.Shelf
def Tryz.laysM173_ren : Go.Shelf.Ren := ⟨fun | 173 => 76 | 246 => 79 | 283 => 85 | 284 => 86 | 285 => 87 | 286 => 88 | 129 => 95 | 317 => 94 | 318 => 96 | 319 => 97 | 320 => 98 | 337 => 100 | 338 => 101 | n => n, fun | 2 => 2 | 3 => 3 | 9 => 9 | 4 => 4 | 171 => 114 | 0 => 0 | 53 => 107 | 37 => 53 | 5 => 5 | 173 => 117 | 212 => 126 | 51 => 127 | 20 => 20 | 213 => 128 | 46 => 110 | 232 => 136 | 233 => 137 | n => n, fun | 17 => 2 | 18 => 3 | 19 => 4 | n => n⟩
theorem Tryz.laysM173 : Go.Proofs.LaysM.n173 Tryz.prog Tryz.laysM173_ren := {
  mixed := by kernel_rfl
  f129 := Tryz.func95.trans (congrArg some (by kernel_rfl))
  f173 := Tryz.func76.trans (congrArg some (by kernel_rfl))
  f246 := Tryz.func79.trans (congrArg some (by kernel_rfl))
  f283 := Tryz.func85.trans (congrArg some (by kernel_rfl))
  f284 := Tryz.func86.trans (congrArg some (by kernel_rfl))
  f285 := Tryz.func87.trans (congrArg some (by kernel_rfl))
  f286 := Tryz.func88.trans (congrArg some (by kernel_rfl))
  f317 := Tryz.func94.trans (congrArg some (by kernel_rfl))
  f318 := Tryz.func96.trans (congrArg some (by kernel_rfl))
  f319 := Tryz.func97.trans (congrArg some (by kernel_rfl))
  f320 := Tryz.func98.trans (congrArg some (by kernel_rfl))
  f337 := Tryz.func100.trans (congrArg some (by kernel_rfl))
  f338 := Tryz.func101.trans (congrArg some (by kernel_rfl))
  t0 := Tryz.underlying0
  a0 := Tryz.isAgg0
  z0 := Tryz.sizeOf0
  v0 := Tryz.zeroValue0
  t2 := Tryz.underlying2
  a2 := Tryz.isAgg2
  z2 := Tryz.sizeOf2
  v2 := Tryz.zeroValue2
  t3 := Tryz.underlying3
  a3 := Tryz.isAgg3
  z3 := Tryz.sizeOf3
  v3 := Tryz.zeroValue3
  t4 := Tryz.underlying4
  a4 := Tryz.isAgg4
  z4 := Tryz.sizeOf4
  v4 := Tryz.zeroValue4
  t5 := Tryz.underlying5
  a5 := Tryz.isAgg5
  z5 := Tryz.sizeOf5
  v5 := Tryz.zeroValue5
  t9 := Tryz.underlying9
  a9 := Tryz.isAgg9
  z9 := Tryz.sizeOf9
  v9 := Tryz.zeroValue9
  t20 := Tryz.underlying20
  a20 := Tryz.isAgg20
  z20 := Tryz.sizeOf20
  v20 := Tryz.zeroValue20
  t37 := Tryz.underlying53
  a37 := Tryz.isAgg53
  z37 := Tryz.sizeOf53
  v37 := Tryz.zeroValue53
  t46 := Tryz.underlying110
  a46 := Tryz.isAgg110
  z46 := Tryz.sizeOf110
  v46 := Tryz.zeroValue110
  t51 := Tryz.underlying127
  a51 := Tryz.isAgg127
  z51 := Tryz.sizeOf127
  v51 := Tryz.zeroValue127
  t53 := Tryz.underlying107
  a53 := Tryz.isAgg107
  z53 := Tryz.sizeOf107
  v53 := Tryz.zeroValue107
  t171 := Tryz.underlying114
  a171 := Tryz.isAgg114
  z171 := Tryz.sizeOf114
  v171 := Tryz.zeroValue114
  t173 := Tryz.underlying117
  a173 := Tryz.isAgg117
  z173 := Tryz.sizeOf117
  v173 := Tryz.zeroValue117
  t212 := Tryz.underlying126
  a212 := Tryz.isAgg126
  z212 := Tryz.sizeOf126
  v212 := Tryz.zeroValue126
  t213 := Tryz.underlying128
  a213 := Tryz.isAgg128
  z213 := Tryz.sizeOf128
  t232 := Tryz.underlying136
  a232 := Tryz.isAgg136
  z232 := Tryz.sizeOf136
  v232 := Tryz.zeroValue136
  t233 := Tryz.underlying137
  a233 := Tryz.isAgg137
  z233 := Tryz.sizeOf137
  v233 := Tryz.zeroValue137
  g17 := by kernel_rfl
  g18 := by kernel_rfl
  g19 := by kernel_rfl
  i0 := by kernel_rfl
  i2 := by kernel_rfl
  i3 := by kernel_rfl
  i4 := by kernel_rfl
  i5 := by kernel_rfl
  i9 := by kernel_rfl
  i20 := by kernel_rfl
  i37 := by kernel_rfl
  i46 := by kernel_rfl
  i51 := by kernel_rfl
  i53 := by kernel_rfl
  i171 := by kernel_rfl
  i173 := by kernel_rfl
  i212 := by kernel_rfl
  i232 := by kernel_rfl
  i233 := by kernel_rfl
  m17 := by kernel_rfl
  m18 := by kernel_rfl
  m19 := by kernel_rfl }
def Tryz.laysC174_ren : Go.Shelf.Ren := ⟨fun | 174 => 75 | 247 => 77 | 245 => 78 | 287 => 80 | 279 => 81 | 280 => 82 | 281 => 83 | 282 => 84 | 321 => 89 | 322 => 90 | 316 => 91 | 171 => 93 | 205 => 92 | 243 => 99 | 246 => 79 | 283 => 85 | 284 => 86 | 285 => 87 | 286 => 88 | 129 => 95 | 317 => 94 | 318 => 96 | 319 => 97 | 320 => 98 | 337 => 100 | 338 => 101 | n => n, fun | 9 => 9 | 3 => 3 | 2 => 2 | 75 => 101 | 85 => 102 | 4 => 4 | 167 => 106 | 5 => 5 | 53 => 107 | 175 => 108 | 46 => 110 | 168 => 111 | 37 => 53 | 0 => 0 | 210 => 122 | 21 => 21 | 127 => 131 | 145 => 134 | 143 => 132 | 171 => 114 | 173 => 117 | 212 => 126 | 51 => 127 | 20 => 20 | 213 => 128 | 232 => 136 | 233 => 137 | 80 => 68 | n => n, fun | 15 => 0 | 16 => 1 | 17 => 2 | 18 => 3 | 19 => 4 | n => n⟩
theorem Tryz.laysC174 : Go.Proofs.LaysC.n174 Tryz.prog Tryz.laysC174_ren := {
  mixed := by kernel_rfl
  f129 := Tryz.func95.trans (congrArg some (by kernel_rfl))
  f171 := Tryz.func93.trans (congrArg some (by kernel_rfl))
  f174 := Tryz.func75.trans (congrArg some (by kernel_rfl))
  f205 := Tryz.func92.trans (congrArg some (by kernel_rfl))
  f243 := Tryz.func99.trans (congrArg some (by kernel_rfl))
  f245 := Tryz.func78.trans (congrArg some (by kernel_rfl))
  f246 := Tryz.func79.trans (congrArg some (by kernel_rfl))
  f247 := Tryz.func77.trans (congrArg some (by kernel_rfl))
  f279 := Tryz.func81.trans (congrArg some (by kernel_rfl))
  f280 := Tryz.func82.trans (congrArg some (by kernel_rfl))
  f281 := Tryz.func83.trans (congrArg some (by kernel_rfl))
  f282 := Tryz.func84.trans (congrArg some (by kernel_rfl))
  f283 := Tryz.func85.trans (congrArg some (by kernel_rfl))
  f284 := Tryz.func86.trans (congrArg some (by kernel_rfl))
  f285 := Tryz.func87.trans (congrArg some (by kernel_rfl))
  f286 := Tryz.func88.trans (congrArg some (by kernel_rfl))
  f287 := Tryz.func80.trans (congrArg some (by kernel_rfl))
  f316 := Tryz.func91.trans (congrArg some (by kernel_rfl))
  f317 := Tryz.func94.trans (congrArg some (by kernel_rfl))
  f318 := Tryz.func96.trans (congrArg some (by kernel_rfl))
  f319 := Tryz.func97.trans (congrArg some (by kernel_rfl))
  f320 := Tryz.func98.trans (congrArg some (by kernel_rfl))
  f321 := Tryz.func89.trans (congrArg some (by kernel_rfl))
  f322 := Tryz.func90.trans (congrArg some (by kernel_rfl))
  f337 := Tryz.func100.trans (congrArg some (by kernel_rfl))
  f338 := Tryz.func101.trans (congrArg some (by kernel_rfl))
  t0 := Tryz.underlying0
  a0 := Tryz.isAgg0
  z0 := Tryz.sizeOf0
  v0 := Tryz.zeroValue0
  t2 := Tryz.underlying2
  a2 := Tryz.isAgg2
  z2 := Tryz.sizeOf2
  v2 := Tryz.zeroValue2
  t3 := Tryz.underlying3
  a3 := Tryz.isAgg3
  z3 := Tryz.sizeOf3
  v3 := Tryz.zeroValue3
  t4 := Tryz.underlying4
  a4 := Tryz.isAgg4
  z4 := Tryz.sizeOf4
  v4 := Tryz.zeroValue4
  t5 := Tryz.underlying5
  a5 := Tryz.isAgg5
  z5 := Tryz.sizeOf5
  v5 := Tryz.zeroValue5
  t9 := Tryz.underlying9
  a9 := Tryz.isAgg9
  z9 := Tryz.sizeOf9
  v9 := Tryz.zeroValue9
  t20 := Tryz.underlying20
  a20 := Tryz.isAgg20
  z20 := Tryz.sizeOf20
  v20 := Tryz.zeroValue20
  t21 := Tryz.underlying21
  a21 := Tryz.isAgg21
  z21 := Tryz.sizeOf21
  v21 := Tryz.zeroValue21
  t37 := Tryz.underlying53
  a37 := Tryz.isAgg53
  z37 := Tryz.sizeOf53
  v37 := Tryz.zeroValue53
  t46 := Tryz.underlying110
  a46 := Tryz.isAgg110
  z46 := Tryz.sizeOf110
  v46 := Tryz.zeroValue110
  t51 := Tryz.underlying127
  a51 := Tryz.isAgg127
  z51 := Tryz.sizeOf127
  v51 := Tryz.zeroValue127
  t53 := Tryz.underlying107
  a53 := Tryz.isAgg107
  z53 := Tryz.sizeOf107
  v53 := Tryz.zeroValue107
  t75 := Tryz.underlying101
  a75 := Tryz.isAgg101
  z75 := Tryz.sizeOf101
  v75 := Tryz.zeroValue101
  t85 := Tryz.underlying102
  a85 := Tryz.isAgg102
  z85 := Tryz.sizeOf102
  v85 := Tryz.zeroValue102
  t127 := Tryz.underlying131
  a127 := Tryz.isAgg131
  z127 := Tryz.sizeOf131
  v127 := Tryz.zeroValue131
  t143 := Tryz.underlying132
  a143 := Tryz.isAgg132
  z143 := Tryz.sizeOf132
  v143 := Tryz.zeroValue132
  t145 := Tryz.underlying134
  a145 := Tryz.isAgg134
  z145 := Tryz.sizeOf134
  v145 := Tryz.zeroValue134
  t167 := Tryz.underlying106
  a167 := Tryz.isAgg106
  z167 := Tryz.sizeOf106
  v167 := Tryz.zeroValue106
  t168 := Tryz.underlying111
  a168 := Tryz.isAgg111
  z168 := Tryz.sizeOf111
  v168 := Tryz.zeroValue111
  t171 := Tryz.underlying114
  a171 := Tryz.isAgg114
  z171 := Tryz.sizeOf114
  v171 := Tryz.zeroValue114
  t173 := Tryz.underlying117
  a173 := Tryz.isAgg117
  z173 := Tryz.sizeOf117
  v173 := Tryz.zeroValue117
  t175 := Tryz.underlying108
  a175 := Tryz.isAgg108
  z175 := Tryz.sizeOf108
  v175 := Tryz.zeroValue108
  t210 := Tryz.underlying122
  a210 := Tryz.isAgg122
  z210 := Tryz.sizeOf122
  v210 := Tryz.zeroValue122
  t212 := Tryz.underlying126
  a212 := Tryz.isAgg126
  z212 := Tryz.sizeOf126
  v212 := Tryz.zeroValue126
  t213 := Tryz.underlying128
  a213 := Tryz.isAgg128
  z213 := Tryz.sizeOf128
  t232 := Tryz.underlying136
  a232 := Tryz.isAgg136
  z232 := Tryz.sizeOf136
  v232 := Tryz.zeroValue136
  t233 := Tryz.underlying137
  a233 := Tryz.isAgg137
  z233 := Tryz.sizeOf137
  v233 := Tryz.zeroValue137
  g15 := by kernel_rfl
  g16 := by kernel_rfl
  g17 := by kernel_rfl
  g18 := by kernel_rfl
  g19 := by kernel_rfl
  t80 := Tryz.underlying68
  a80 := Tryz.isAgg68
  z80 := Tryz.sizeOf68
  v80 := Tryz.zeroValue68
  i0 := by kernel_rfl
  i2 := by kernel_rfl
  i3 := by kernel_rfl
  i4 := by kernel_rfl
  i5 := by kernel_rfl
  i9 := by kernel_rfl
  i20 := by kernel_rfl
  i21 := by kernel_rfl
  i37 := by kernel_rfl
  i46 := by kernel_rfl
  i51 := by kernel_rfl
  i53 := by kernel_rfl
  i75 := by kernel_rfl
  i80 := by kernel_rfl
  i85 := by kernel_rfl
  i127 := by kernel_rfl
  i143 := by kernel_rfl
  i145 := by kernel_rfl
  i167 := by kernel_rfl
  i168 := by kernel_rfl
  i171 := by kernel_rfl
  i173 := by kernel_rfl
  i175 := by kernel_rfl
  i210 := by kernel_rfl
  i212 := by kernel_rfl
  i232 := by kernel_rfl
  i233 := by kernel_rfl
  m15 := by kernel_rfl
  m16 := by kernel_rfl
  m17 := by kernel_rfl
  m18 := by kernel_rfl
  m19 := by kernel_rfl
  c0 := by kernel_rfl
  c2 := by kernel_rfl
  c3 := by kernel_rfl
  c4 := by kernel_rfl
  c5 := by kernel_rfl
  c9 := by kernel_rfl
  c20 := by kernel_rfl
  c21 := by kernel_rfl
  c37 := by kernel_rfl
  c46 := by kernel_rfl
  c51 := by kernel_rfl
  c53 := by kernel_rfl
  c75 := by kernel_rfl
  c80 := by kernel_rfl
  c85 := by kernel_rfl
  c127 := by kernel_rfl
  c143 := by kernel_rfl
  c145 := by kernel_rfl
  c167 := by kernel_rfl
  c168 := by kernel_rfl
  c171 := by kernel_rfl
  c173 := by kernel_rfl
  c175 := by kernel_rfl
  c210 := by kernel_rfl
  c212 := by kernel_rfl
  c213 := by kernel_rfl
  c232 := by kernel_rfl
  c233 := by kernel_rfl }
open Go.RowKit Go.Sort Go.Lib in
theorem Tryz.strconv_FormatInt_10 (n : Int) (h0 : -9223372036854775808 ≤ n) (h1 : n ≤ 9223372036854775807) (w : World) (htab : Lib.TabIs Tryz.prog w "internal/strconv.uint64pow10" .u64 Lib.pow10Tab) :
    Calls Tryz.prog 76 #[.int .i64 n, .int .i64 10] w fun e w' => e = .returned (.string ⟨(Lib.itoa n).toArray⟩) ∧ ∃ k os, w' = grow (w.drewN k) os := Any.strconv_FormatInt_10 Tryz.laysM173 n h0 h1 w htab
open Go.RowKit in
theorem Tryz.strconv_ParseInt_10_at32_ok (s : ByteArray) (hmax : s.size ≤ 9223372036854775806) (v : Int) (h : Lib.parseIntB 32 s.data.toList = .ok v) (w : World) :
    Calls Tryz.prog 75 #[.string s, .int .i64 10, .int .i64 32] w fun e w' => e = .returned (.tuple #[.int .i64 v, .nilIface]) ∧ (w' = w ∨ ∃ t, w' = Lib.bytesWorld w 5 t) := Any.strconv_ParseInt_10_at32_ok Tryz.laysC174 s hmax v h w
open Go.RowKit in
theorem Tryz.strconv_ParseInt_10_at32_range_var (s : ByteArray) (hlim : s.size ≤ 281474976710656) (h : Lib.parseIntB 32 s.data.toList = .range) (tp : TypeId) (p : Value) (w : World) (hvar : w.var? Tryz.prog "strconv.ErrRange" = some #[.iface tp p]) :
    Calls Tryz.prog 75 #[.string s, .int .i64 10, .int .i64 32] w fun e w' => ∃ N, e = .returned (.tuple #[.int .i64 (Lib.intSat 32 s.data.toList), .iface 111 (.pointer (some ⟨N, 0, none⟩))]) ∧ w.heap.size ≤ N ∧ w'.heap[N]? = some (.cells #[.string ⟨#[80, 97, 114, 115, 101, 73, 110, 116]⟩, .string s, .iface tp p] 122 (0, 0)) ∧ Below w.heap.size w w' := Any.strconv_ParseInt_10_at32_range_var Tryz.laysC174 s hlim h tp p w hvar
end Go.Proofs
namespace Go.Proofs.YtoiphglfngkoiaaGreatDoor.Rp
set_option linter.unusedVariables false
open Go.RowKit Wd
def Lib3 (w : World) : Prop := (∃ tp p, w.var? Tryz.prog "strconv.ErrSyntax" = some #[.iface tp p]) ∧ (∃ tp p, w.var? Tryz.prog "strconv.ErrRange" = some #[.iface tp p]) ∧ Lib.TabIs Tryz.prog w "internal/strconv.uint64pow10" .u64 Lib.pow10Tab ∧ 0 < w.heap.size ∧ 1 < w.heap.size ∧ 2 < w.heap.size
theorem gS : Tryz.prog.globalNamed "strconv.ErrSyntax" = some 0 := by kernel_rfl
theorem gR : Tryz.prog.globalNamed "strconv.ErrRange" = some 1 := by kernel_rfl
theorem gT : Tryz.prog.globalNamed "internal/strconv.uint64pow10" = some 2 := by kernel_rfl
theorem Lib3.carry {w w' : World} {B : Nat} (h : Lib3 w) (hb : Below B w w') (hB : 0 < B ∧ 1 < B ∧ 2 < B) : Lib3 w' := by
  obtain ⟨⟨t1, p1, h1⟩, ⟨t2, p2, h2⟩, h3, h4, h5, h6⟩ := h
  have hs := hb.size
  exact ⟨⟨t1, p1, var?_below hb gS hB.1 h1⟩, ⟨t2, p2, var?_below hb gR hB.2.1 h2⟩, var?_below hb gT hB.2.2 h3, by omega, by omega, by omega⟩

def RdGrown (s : ByteArray) (w : World) (e : Ending) (w' : World) : Prop := e = .returned (.tuple #[.int .i64 (rdV s.data.toList), .bool (rdB s.data.toList)]) ∧ Below w.heap.size w w'
theorem rdg_none {s : ByteArray} {w w' : World} (h : rd s.data.toList = none) (hb : Below w.heap.size w w') : RdGrown s w (.returned (.tuple #[.int .i64 0, .bool false])) w' := by
  refine ⟨?_, hb⟩; simp [rdV, rdB, h]
theorem rdg_some {s : ByteArray} {w w' : World} {v : Int} (h : rd s.data.toList = some v) (hb : Below w.heap.size w w') : RdGrown s w (.returned (.tuple #[.int .i64 v, .bool true])) w' := by
  refine ⟨?_, hb⟩; simp [rdV, rdB, h]

theorem lists_ne {t s : ByteArray} (h : ¬ t = s) : (t.toList == s.toList) = false := by
  rw [beq_eq_false_iff_ne]
  intro e
  rw [Lib.toList_data, Lib.toList_data] at e
  apply h
  obtain ⟨a⟩ := t
  obtain ⟨b⟩ := s
  have : a = b := Array.toList_inj.1 e
  rw [this]
set_option maxHeartbeats 1000000 in
theorem implRead_err (s : ByteArray) (w : World) (hr : rd s.data.toList = none) (x : Int) (T : Nat)
    (hp : Calls Tryz.prog 75 #[.string s, .int .i64 10, .int .i64 32] w fun e w' => ∃ N, e = .returned (.tuple #[.int .i64 x, .iface T (.pointer (some ⟨N, 0, none⟩))]) ∧ Below w.heap.size w w') :
    Calls Tryz.prog 71 #[.string s] w (RdGrown s w) := by
  have HP := Lib.hid hp; clear hp
  have HR := Lib.hid hr; clear hr
  go_enter Tryz.func71, Tryz.ntmps71
  go_wp2_with fail
  refine HP.out.mono ?_; rintro e w1 ⟨N, rfl, hb⟩
  go_wp2
  go_ret2
  exact rdg_none HR.out hb

set_option maxHeartbeats 1000000 in
theorem implRead_ok (s : ByteArray) (w : World) (hL : Lib3 w) (hs : s.size ≤ 9223372036854775806) (v : Int) (hv : Lib.parseIntB 32 s.data.toList = .ok v) :
    Calls Tryz.prog 71 #[.string s] w (RdGrown s w) := by
  have hp := Tryz.strconv_ParseInt_10_at32_ok s hs v hv w
  have hw := (isW_iff v).1 (parse_isW hv)
  have HP := Lib.hid hp; clear hp
  have HV := Lib.hid hv; clear hv
  have HL := Lib.hid hL; clear hL
  go_enter Tryz.func71, Tryz.ntmps71
  go_wp2_with fail
  refine HP.out.mono ?_; rintro e w1 ⟨rfl, hw1⟩
  have hb1 : Below w.heap.size w w1 := by
    rcases hw1 with rfl | ⟨t, rfl⟩
    · exact Below.refl _ _
    · exact Lib.bytesWorld_below _ _ _
  clear hw1
  have hL1 : Lib3 w1 := HL.out.carry hb1 ⟨HL.out.2.2.2.1, HL.out.2.2.2.2.1, HL.out.2.2.2.2.2⟩
  have HL1 := Lib.hid hL1; clear hL1
  have hf := Tryz.strconv_FormatInt_10 v (by omega) (by omega) w1 HL1.out.2.2.1
  have HF := Lib.hid hf; clear hf
  by_cases he : Lib.itoa v = s.data.toList
  · have hs' : (⟨(Lib.itoa v).toArray⟩ : ByteArray) = s := by rw [he]
    have hf : Calls Tryz.prog 76 #[.int .i64 v, .int .i64 10] w1 fun e w' => e = .returned (.string s) ∧ Below w1.heap.size w1 w' := by
      refine HF.out.mono ?_; rintro e w2 ⟨rfl, k, os, rfl⟩
      exact ⟨by rw [hs'], Lib.below_grow _ _ (Nat.le_refl _) _ _⟩
    have HF2 := Lib.hid hf; clear hf HF
    have hr := rd_ok HV.out he
    have HR := Lib.hid hr; clear hr he hs'
    go_wp2_with (go_at_call 76; refine HF2.out.mono ?_; rintro e w2 ⟨rfl, hb2⟩)
    go_ret2
    exact rdg_some HR.out (hb1.trans (hb2.mono hb1.size))
  · have hs' : ¬ (⟨(Lib.itoa v).toArray⟩ : ByteArray) = s := by
      intro e; apply he; rw [← e]
    have hf : Calls Tryz.prog 76 #[.int .i64 v, .int .i64 10] w1 fun e w' => ∃ t : ByteArray, (t.toList == s.toList) = false ∧ e = .returned (.string t) ∧ Below w1.heap.size w1 w' := by
      refine HF.out.mono ?_; rintro e w2 ⟨rfl, k, os, rfl⟩
      exact ⟨_, lists_ne hs', rfl, Lib.below_grow _ _ (Nat.le_refl _) _ _⟩
    have HF2 := Lib.hid hf; clear hf HF
    have hr := rd_other HV.out he
    have HR := Lib.hid hr; clear hr he hs'
    go_wp2_with (go_at_call 76; refine HF2.out.mono ?_; rintro e w2 ⟨t, ht, rfl, hb2⟩)
    go_ret2
    exact rdg_none HR.out (hb1.trans (hb2.mono hb1.size))
theorem implRead_any (s : ByteArray) (w : World) (hL : Lib3 w) (hs : s.size ≤ 281474976710656) : Calls Tryz.prog 71 #[.string s] w (RdGrown s w) := by
  cases hv : Lib.parseIntB 32 s.data.toList
  · rename_i v
    exact implRead_ok s w hL (by omega) v hv
  · obtain ⟨tp, p, h1⟩ := hL.1
    exact implRead_err s w (rd_bad fun v e => by rw [hv] at e; cases e) _ _ ((Any.strconv_ParseInt_10_at32_syntax_var Tryz.laysC174 s hs hv tp p w h1).mono fun e w' ⟨N, h, _, _, hb⟩ => ⟨N, h, hb⟩)
  · obtain ⟨tp, p, h1⟩ := hL.2.1
    exact implRead_err s w (rd_bad fun v e => by rw [hv] at e; cases e) _ _ ((Tryz.strconv_ParseInt_10_at32_range_var s hs hv tp p w h1).mono fun e w' ⟨N, h, _, _, hb⟩ => ⟨N, h, hb⟩)
end Go.Proofs.YtoiphglfngkoiaaGreatDoor.Rp
namespace Go.Proofs.YtoiphglfngkoiaaGreatDoor.Rp
set_option linter.unusedVariables false
open Go.RowKit Go.ChangeShapes
theorem star : "*" ++ "errors.errorString" = "*errors.errorString" := by decide
theorem rowOf (u : TypeId) (h : Tryz.prog.typeName? 3 u = some "*errors.errorString") : u = 132 :=
  typeName_ptr_named (nm := "errors.errorString") (by rw [star]; kernel_rfl) (by kernel_rfl) (by decide) u (by rw [star]; exact h)
theorem lt_of_var {w : World} {n : String} {g : Nat} {cs : Array Value} {v : Value} (hg : Tryz.prog.globalNamed n = some g) (h : w.var? Tryz.prog n = some cs) (hv : cs[0]? = some v) : g < w.heap.size := by
  have := World.var?_cell hg h 0
  rw [hv] at this
  exact Lib.lt_of_cell this
theorem lib3_of {W : World} (h : laidMet Tryz.prog [("internal/strconv.uint64pow10", Rows.laid_internal_strconv_uint64pow10), ("strconv.ErrRange", Rows.laid_strconv_ErrRange), ("strconv.ErrSyntax", Rows.laid_strconv_ErrSyntax)] W) : Lib3 W := by
  have e : (Rows.laid_internal_strconv_uint64pow10 : DataW Unit) = Lib.tabData .u64 Lib.pow10Tab := by kernel_rfl
  have h1 := h
  rw [e] at h1
  have ht := Lib.tabIs_of_head (g := 2) gT (by kernel_rfl : (Tryz.prog.globals[2]?).map (·.type) = some 126) Tryz.underlying126 Tryz.underlying107 (by kernel_rfl) (by kernel_rfl) h1
  obtain ⟨a0, s0, hv0, -, -, -⟩ := laid_sentinel h.tail gR (by kernel_rfl : (Tryz.prog.globals[1]?).map (·.type) = some 101) Tryz.underlying101 rowOf Tryz.underlying132 Tryz.underlying134 rfl rfl Tryz.underlying9 (by kernel_rfl) (by kernel_rfl)
  obtain ⟨a1, s1, hv1, -, -, -⟩ := laid_sentinel h.tail.tail gS (by kernel_rfl : (Tryz.prog.globals[0]?).map (·.type) = some 101) Tryz.underlying101 rowOf Tryz.underlying132 Tryz.underlying134 rfl rfl Tryz.underlying9 (by kernel_rfl) (by kernel_rfl)
  refine ⟨⟨_, _, hv1⟩, ⟨_, _, hv0⟩, ht, lt_of_var gS hv1 rfl, lt_of_var gR hv0 rfl, ?_⟩
  exact Lib.lt_of_cell (ht.cell gT 0 (by decide))
end Go.Proofs.YtoiphglfngkoiaaGreatDoor.Rp
namespace Go.Proofs.YtoiphglfngkoiaaGreatDoor.Cl
set_option linter.unusedVariables false
open Go.RowKit Wd Rp Kp
theorem tx_inj {a b : Tk} (h : tx a = tx b) : a = b := by rw [← tx_data a, ← tx_data b, h]
theorem tx_ne {a b : Tk} (h : ¬ a = b) : ((tx a).toList == (tx b).toList) = false := lists_ne fun e => h (tx_inj e)
theorem tx_beq (a : Tk) : ((tx a).toList == (tx a).toList) = true := by simp
set_option maxHeartbeats 4000000 in
set_option maxRecDepth 100000 in
theorem l1At_any (w : World) (a : Option Addr) (cap : Nat) (l : List Tk) (n : Nat) (s : Tk) (hn : l.length = n) (hv : V1 w a cap (txL l)) (hl : n ≤ 4194304) :
    Calls Tryz.prog 39 #[.slice a n cap, .string (tx s)] w fun e w' => e = .returned (.int .i64 (atI l s)) ∧ w = w' := by
  have HV := Lib.hid hv; clear hv
  have HN := Lib.hid hn; clear hn
  go_enter Tryz.func39, Tryz.ntmps39
  go_wp2_with fail
  go_loop [5] (fun i => ∃ k : Nat, k ≤ n ∧ i = .int .i64 k ∧ ∀ (j : Nat) (y : Tk), j < k → l[j]? = some y → y ≠ s) (fun i => n - (intOf i).toNat)
  case atStart => exact ⟨0, Nat.zero_le _, rfl, fun j y hj => by omega⟩
  case round =>
    obtain ⟨k, hk, rfl, hno⟩ := hrel
    have HO := Lib.hid hno; clear hno
    by_cases hlt : k < n
    · obtain ⟨c, hc⟩ : ∃ c, l[k]? = some c := ⟨l[k]'(by have := HN.out; omega), List.getElem?_eq_getElem _⟩
      obtain ⟨g, o, rfl, hg, c0⟩ := HV.out.tx hc
      have HC := Lib.hid hc; clear hc hg
      by_cases he : c = s
      · subst he
        have HA := Lib.hid (show atI l c = (k : Int) by unfold atI; rw [at?_at HC.out HO.out])
        have q1 := tx_beq c
        generalize tx c = x at *
        go_wp2_with fail
        go_ret
        exact ⟨by rw [HA.out]; rfl, rfl⟩
      · have q1 := tx_ne he
        generalize tx c = x at *
        generalize tx s = y at *
        go_wp2_with fail
        go_round
        case rel =>
          refine ⟨k + 1, by omega, by go_num, fun j z hj hz => ?_⟩
          by_cases e : j = k
          · subst e
            rw [HC.out] at hz; cases hz; exact he
          · exact HO.out j z (by omega) hz
        case measure => simp [intOf]; omega
    · obtain rfl : k = n := by omega
      have HA := Lib.hid (show atI l s = -1 by unfold atI; rw [at?_none fun j y hy => HO.out j y (by have := (List.getElem?_eq_some_iff.1 hy).1; have := HN.out; omega) hy])
      go_wp2_with fail
      go_ret
      exact ⟨by rw [HA.out]; rfl, rfl⟩
theorem litT {B : Nat} (w : World) (l : List Tk) (hl : l.length ≤ 1000) : V1 (w.alloc (.cells (l.map tv).toArray 9)) (some ⟨w.heap.size, 0, none⟩) l.length (txL l) := by
  have h := O1.lit (T := 9) (Nat.zero_le w.heap.size) (l.map tv).toArray (by unfold maxLen; simp; omega)
  rw [show (l.map tv).toArray.size = l.length by simp] at h
  exact h.vw
set_option maxRecDepth 100000 in
theorem l8Ops_any (w : World) : Calls Tryz.prog 40 #[] w fun e w' => e = .returned (.slice (some ⟨w.heap.size, 0, none⟩) 7 7) ∧ w' = w.alloc (.cells #[.string ⟨#[43]⟩, .string ⟨#[45]⟩, .string ⟨#[42]⟩, .string ⟨#[47]⟩, .string ⟨#[60]⟩, .string ⟨#[61]⟩, .string ⟨#[38]⟩] 9) := by
  go_enter Tryz.func40, Tryz.ntmps40
  go_wp2_with fail
  go_ret
  exact ⟨rfl, rfl⟩
set_option maxRecDepth 100000 in
theorem l8Op_any (w : World) (s : Tk) : Calls Tryz.prog 28 #[.string (tx s)] w fun e w' => e = .returned (.int .i64 (opN s)) ∧ Below w.heap.size w w' := by
  have HB := Lib.hid (bel1 w)
  have HA := Lib.hid (l1At_any (w.alloc (.cells #[.string ⟨#[43]⟩, .string ⟨#[45]⟩, .string ⟨#[42]⟩, .string ⟨#[47]⟩, .string ⟨#[60]⟩, .string ⟨#[61]⟩, .string ⟨#[38]⟩] 9)) (some ⟨w.heap.size, 0, none⟩) 7 opsL 7 s rfl (litT (B := 0) w opsL (by decide)) (by decide))
  have HI := Lib.hid (opN_I s)
  have HL := Lib.hid (opN_le s)
  have hlo : 0 ≤ atI opsL s + 1 := by rw [HI.out]; omega
  have hhi : atI opsL s + 1 ≤ 7 := by rw [HI.out]; have := HL.out; omega
  generalize atI opsL s = m at *
  generalize tx s = x at *
  go_enter Tryz.func28, Tryz.ntmps28
  go_wp2_with fail
  refine (l8Ops_any _).mono ?_; rintro e w1 ⟨rfl, rfl⟩
  go_wp2_with fail
  refine HA.out.mono ?_; rintro e w1 ⟨rfl, rfl⟩
  go_wp2_with fail
  go_ret
  exact ⟨by rw [← HI.out]; rfl, HB.out _⟩
set_option maxRecDepth 100000 in
theorem l8Given_any (w : World) (s : Tk) : Calls Tryz.prog 29 #[.string (tx s)] w fun e w' => e = .returned (.int .i64 ((gvN s : Int) - 1)) ∧ Below w.heap.size w w' := by
  have HB := Lib.hid (bel1 w)
  have HA := Lib.hid (l1At_any (w.alloc (.cells #[.string ⟨#[64, 48]⟩, .string ⟨#[64, 49]⟩, .string ⟨#[64, 50]⟩] 9)) (some ⟨w.heap.size, 0, none⟩) 3 gvsL 3 s rfl (litT (B := 0) w gvsL (by decide)) (by decide))
  have HI := Lib.hid (show atI gvsL s = (gvN s : Int) - 1 by have := gvN_I s; omega)
  generalize atI gvsL s = m at *
  generalize tx s = x at *
  go_enter Tryz.func29, Tryz.ntmps29
  go_wp2_with fail
  refine HA.out.mono ?_; rintro e w1 ⟨rfl, rfl⟩
  go_wp2_with fail
  go_ret
  exact ⟨by rw [← HI.out]; rfl, HB.out _⟩
theorem rdS_any (s : Tk) (w : World) (hs : s.length ≤ 9223372036854775807) : Calls Tryz.prog 30 #[.string (tx s)] w fun e w' => e = .returned (.tuple #[.int .i64 (rdV s), .bool (rdB s)]) ∧ w = w' := by
  have h := specRead_any (tx s) w (by rw [tx_size]; exact hs)
  unfold RdPost at h
  rw [tx_data] at h; exact h
theorem rdI_any (s : Tk) (w : World) (hL : Lib3 w) (hs : s.length ≤ 281474976710656) : Calls Tryz.prog 71 #[.string (tx s)] w fun e w' => e = .returned (.tuple #[.int .i64 (rdV s), .bool (rdB s)]) ∧ Below w.heap.size w w' := by
  have h := implRead_any (tx s) w hL (by rw [tx_size]; exact hs)
  unfold RdGrown at h
  rw [tx_data] at h; exact h
theorem nmS_any (s : Tk) (w : World) (hs : s.length ≤ 9223372036854775806) : Calls Tryz.prog 35 #[.string (tx s)] w fun e w' => e = .returned (.bool (nmB s)) ∧ w = w' := by
  have h := specName_any (tx s) w (by rw [tx_size]; exact hs)
  unfold NmPost at h
  rw [tx_data] at h; exact h
theorem nmI_any (s : Tk) (w : World) : Calls Tryz.prog 55 #[.string (tx s)] w fun e w' => e = .returned (.bool (nmB s)) ∧ w = w' := by
  have h := implName_any (tx s) w
  unfold NmPost at h
  rw [tx_data] at h; exact h
theorem ta_op (v : Value) (w : World) : (Instr.typeAssert (.iface 75 v) 86 75 true).run Tryz.prog w = .ok (.tuple #[v, .bool true]) w := by kernel_rfl
theorem ta_op_gv (v : Value) (w : World) : (Instr.typeAssert (.iface 89 v) 86 75 true).run Tryz.prog w = .ok (.tuple #[.int .i64 0, .bool false]) w := by kernel_rfl
theorem ta_op_nm (v : Value) (w : World) : (Instr.typeAssert (.iface 90 v) 86 75 true).run Tryz.prog w = .ok (.tuple #[.int .i64 0, .bool false]) w := by kernel_rfl
theorem ta_op_wd (v : Value) (w : World) : (Instr.typeAssert (.iface 88 v) 86 75 true).run Tryz.prog w = .ok (.tuple #[.int .i64 0, .bool false]) w := by kernel_rfl
theorem nn_if (T : TypeId) (v : Value) (w : World) : (binOp BinOp.eql 86 (.iface T v) .nilIface).run Tryz.prog w = .ok (.bool false) w := by kernel_rfl
theorem nn_nil (w : World) : (binOp BinOp.eql 86 .nilIface .nilIface).run Tryz.prog w = .ok (.bool true) w := by kernel_rfl
end Go.Proofs.YtoiphglfngkoiaaGreatDoor.Cl
