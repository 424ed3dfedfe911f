/-
  Plain facts on keys (chapter 2): names, the fixed decimal form of 7 digits, the text of a key, and the key of a text: 'kof' says what spec.KeyOf gives; it is the key whose text it is ('kof_iff'); so is what impl.KeyOf gives ('kof_of_cut', 'kof_not').
-/
import Derived.Test.YtopcjiaakefmeaaRp
import Derived.Lib.IndexMore
import Derived.Lib.Repeat
namespace Go.Proofs.Ytopcjiaakefmeaa.Kp
open Wd Rp

def isLow (c : UInt8) : Bool := decide (97 ≤ c.toNat) && decide (c.toNat ≤ 122)
/-- Is it a name? -/
def nmB (l : List UInt8) : Bool := l.all isLow && (decide (1 ≤ l.length) && decide (l.length ≤ 8))
/-- Is it a valid key? -/
def keyB (r b : List UInt8) (t : Int) : Bool := nmB r && (nmB b && inB t 0 1000000)
theorem keyB_iff {r b : List UInt8} {t : Int} : keyB r b t = true ↔ nmB r = true ∧ nmB b = true ∧ 0 ≤ t ∧ t ≤ 1000000 := by
  unfold keyB inB; simp
theorem nm_len {l : List UInt8} (h : nmB l = true) : 1 ≤ l.length ∧ l.length ≤ 8 := by
  unfold nmB at h; simp at h; exact ⟨by omega, by omega⟩
theorem nm_low {l : List UInt8} (h : nmB l = true) : ∀ c ∈ l, isLow c = true := by
  unfold nmB at h; rw [Bool.and_eq_true] at h; exact List.all_eq_true.1 h.1
theorem low_one {c : UInt8} (h : isLow c = true) : c ≠ 1 := by
  intro e; subst e; revert h; decide
theorem nm_one {l : List UInt8} (h : nmB l = true) : (1 : UInt8) ∉ l := fun hm => low_one (nm_low h 1 hm) rfl

/-- The last k decimal digits of n, with leading zeros. -/
def fixd : Nat → Nat → List UInt8
  | 0, _ => []
  | k + 1, n => fixd k (n / 10) ++ [UInt8.ofNat (48 + n % 10)]
theorem fix_len : ∀ k n, (fixd k n).length = k
  | 0, _ => rfl
  | k + 1, n => by simp [fixd, fix_len k]
theorem fix_dig : ∀ k n, (fixd k n).all isDig = true
  | 0, _ => rfl
  | k + 1, n => by rw [fixd, List.all_append, fix_dig k, List.all_cons, dig_ofNat (n % 10) (by omega)]; rfl
theorem fix_val : ∀ k n, n < 10 ^ k → val (fixd k n) = n
  | 0, n, h => by simp at h; subst h; rfl
  | k + 1, n, h => by
    rw [fixd, val_snoc, fix_val k (n / 10) (by rw [Nat.pow_succ] at h; omega), ofNat_toNat _ (by omega)]; omega
theorem fix_of (l : List UInt8) (h : l.all isDig = true) : fixd l.length (val l) = l := by
  revert h
  refine snoc_rec (P := fun l => l.all isDig = true → fixd l.length (val l) = l) (fun _ => rfl) (fun l c ih h => ?_) l
  rw [List.all_append, Bool.and_eq_true] at h
  have hc : isDig c = true := by simpa using h.2
  simp [isDig] at hc
  rw [List.length_append, List.length_singleton, fixd, val_snoc, show (val l * 10 + (c.toNat - 48)) / 10 = val l by omega, ih h.1, show (val l * 10 + (c.toNat - 48)) % 10 = c.toNat - 48 by omega, byte_eq c hc.1]
theorem fix_zero : ∀ k, fixd k 0 = List.replicate k 48
  | 0 => rfl
  | k + 1 => by rw [fixd, show 0 / 10 = 0 from rfl, fix_zero k, List.replicate_succ']; rfl
/-- With a 1 ahead, the usual form. -/
theorem dec_fix : ∀ k n, n < 10 ^ k → Lib.decDigits (10 ^ k + n) = 49 :: fixd k n
  | 0, n, h => by
    have : n = 0 := by simpa using h
    subst this
    rw [Lib.decDigits_one (by decide)]; rfl
  | k + 1, n, h => by
    rw [Nat.pow_succ] at h ⊢
    have hp : 1 ≤ 10 ^ k := Nat.one_le_pow _ _ (by decide)
    rw [Lib.decDigits, dif_neg (by omega), show (10 ^ k * 10 + n) / 10 = 10 ^ k + n / 10 by omega, dec_fix k (n / 10) (by omega), show (10 ^ k * 10 + n) % 10 = n % 10 by omega, fixd]; rfl
/-- The usual form behind zeros. -/
theorem pad_fix : ∀ k n, n < 10 ^ (k + 1) → List.replicate (k + 1 - (Lib.decDigits n).length) 48 ++ Lib.decDigits n = fixd (k + 1) n
  | 0, n, h => by
    rw [Lib.decDigits_one (by simpa using h)]
    simp only [List.length_singleton, Nat.sub_self, List.replicate_zero, List.nil_append, fixd]
    rw [show n % 10 = n by omega]
  | k + 1, n, h => by
    by_cases h10 : n < 10
    · rw [Lib.decDigits_one h10, fixd, show n / 10 = 0 by omega, fix_zero, show n % 10 = n by omega]
      simp
    · rw [Lib.decDigits, dif_neg h10, fixd, List.length_append, List.length_singleton, ← pad_fix k (n / 10) (by rw [Nat.pow_succ] at h; omega), List.append_assoc]
      congr 2; omega

/-- The text of the key. -/
def ktx (r b : List UInt8) (t : Int) : List UInt8 := if keyB r b t then r ++ (1 :: (b ++ (1 :: fixd 7 (1000000 - t).toNat))) else []
theorem ktx_no {r b : List UInt8} {t : Int} (h : keyB r b t = false) : ktx r b t = [] := by simp [ktx, h]
theorem ktx_yes {r b : List UInt8} {t : Int} (h : keyB r b t = true) : ktx r b t = r ++ (1 :: (b ++ (1 :: fixd 7 (1000000 - t).toNat))) := by simp [ktx, h]

/-- The pieces of a text between bytes d, the first of them going on from cur. -/
def splAt (d : UInt8) (cur : List UInt8) : List UInt8 → List (List UInt8)
  | [] => [cur]
  | c :: r => if c = d then cur :: splAt d [] r else splAt d (cur ++ [c]) r
def spl (d : UInt8) (l : List UInt8) : List (List UInt8) := splAt d [] l
theorem splAt_none (d : UInt8) : ∀ (l cur : List UInt8), d ∉ l → splAt d cur l = [cur ++ l]
  | [], cur, _ => by simp [splAt]
  | c :: r, cur, h => by
    rw [splAt, if_neg (fun e => h (by simp [e])), splAt_none d r (cur ++ [c]) (fun hm => h (List.mem_cons_of_mem _ hm))]; simp
theorem splAt_app (d : UInt8) : ∀ (l cur r : List UInt8), d ∉ l → splAt d cur (l ++ d :: r) = (cur ++ l) :: splAt d [] r
  | [], cur, r, _ => by simp [splAt]
  | c :: l, cur, r, h => by
    rw [List.cons_append, splAt, if_neg (fun e => h (by simp [e])), splAt_app d l (cur ++ [c]) r (fun hm => h (List.mem_cons_of_mem _ hm))]; simp
theorem spl_none {d : UInt8} {l : List UInt8} (h : d ∉ l) : spl d l = [l] := splAt_none d l [] h
theorem spl_app {d : UInt8} {l r : List UInt8} (h : d ∉ l) : spl d (l ++ d :: r) = l :: spl d r := splAt_app d l [] r h
theorem splAt_ne (d : UInt8) : ∀ (l cur : List UInt8), splAt d cur l ≠ []
  | [], cur => by simp [splAt]
  | c :: r, cur => by
    rw [splAt]; split
    · simp
    · exact splAt_ne d r _
/-- What it is split into, joined. -/
def joined (d : UInt8) : List (List UInt8) → List UInt8
  | [] => []
  | [a] => a
  | a :: b :: r => a ++ d :: joined d (b :: r)
theorem joined_cons (d : UInt8) (a : List UInt8) {r : List (List UInt8)} (h : r ≠ []) : joined d (a :: r) = a ++ d :: joined d r := by
  cases r with
  | nil => exact absurd rfl h
  | cons b r => rfl
theorem joined_splAt (d : UInt8) : ∀ (l cur : List UInt8), joined d (splAt d cur l) = cur ++ l
  | [], cur => by simp [splAt, joined]
  | c :: r, cur => by
    rw [splAt]
    split
    · rename_i h
      rw [joined_cons d cur (splAt_ne d r []), joined_splAt d r [], h]; simp
    · rw [joined_splAt d r (cur ++ [c])]; simp
theorem joined_spl (d : UInt8) (l : List UInt8) : joined d (spl d l) = l := joined_splAt d l []

/-- What spec.KeyOf gives. -/
def kof (l : List UInt8) : Option (List UInt8 × List UInt8 × Int) :=
  match spl 1 l with
  | [a, b, c] => if c.length = 7 ∧ c.all isDig = true ∧ keyB a b (1000000 - (val c : Int)) = true then some (a, b, 1000000 - (val c : Int)) else none
  | _ => none
theorem kof_three {l a b c : List UInt8} (h : spl 1 l = [a, b, c]) : kof l = if c.length = 7 ∧ c.all isDig = true ∧ keyB a b (1000000 - (val c : Int)) = true then some (a, b, 1000000 - (val c : Int)) else none := by
  unfold kof; rw [h]
theorem kof_len {l : List UInt8} (h : (spl 1 l).length ≠ 3) : kof l = none := by
  unfold kof
  split
  · rename_i h'; rw [h'] at h; exact absurd rfl h
  · rfl
theorem kof_iff (l a b : List UInt8) (t : Int) : kof l = some (a, b, t) ↔ keyB a b t = true ∧ ktx a b t = l := by
  constructor
  · intro h
    unfold kof at h
    split at h
    · rename_i a' b' c' hs
      split at h
      · rename_i hc
        cases h
        refine ⟨hc.2.2, ?_⟩
        have hk := (keyB_iff.1 hc.2.2).2.2
        rw [ktx_yes hc.2.2, show (1000000 - (1000000 - (val c' : Int))).toNat = val c' by omega, ← hc.1, fix_of _ hc.2.1]
        have := joined_spl 1 l
        rw [hs] at this
        exact this
      · cases h
    · cases h
  · rintro ⟨h, rfl⟩
    have hk := keyB_iff.1 h
    rw [ktx_yes h]
    have hf : (1 : UInt8) ∉ fixd 7 (1000000 - t).toNat := by
      intro hm
      have := List.all_eq_true.1 (fix_dig 7 (1000000 - t).toNat) 1 hm
      revert this; decide
    have hv := fix_val 7 (1000000 - t).toNat (by omega)
    have hs : spl 1 (a ++ (1 :: (b ++ (1 :: fixd 7 (1000000 - t).toNat)))) = [a, b, fixd 7 (1000000 - t).toNat] := by
      rw [spl_app (nm_one hk.1), spl_app (nm_one hk.2.1), spl_none hf]
    rw [kof_three hs, hv, show (1000000 - (((1000000 - t).toNat : Nat) : Int)) = t by omega, if_pos ⟨fix_len _ _, fix_dig _ _, h⟩]

/-- A cut at a byte. -/
theorem index_not : ∀ (l : List UInt8) (d : UInt8), d ∉ l → Lib.indexByte l d = -1
  | [], _, _ => rfl
  | c :: r, d, h => by
    rw [Lib.indexByte, if_neg (by simp; intro e; exact h (by simp [e])), index_not r d (fun hm => h (List.mem_cons_of_mem _ hm))]; rfl
theorem index_app : ∀ (l : List UInt8) (d : UInt8) (r : List UInt8), d ∉ l → Lib.indexByte (l ++ d :: r) d = l.length
  | [], d, r, _ => by simp [Lib.indexByte]
  | c :: l, d, r, h => by
    rw [List.cons_append, Lib.indexByte, if_neg (by simp; intro e; exact h (by simp [e])), index_app l d r (fun hm => h (List.mem_cons_of_mem _ hm)), if_neg (by rw [beq_iff_eq]; omega)]
    simp
theorem cut_app {l r : List UInt8} {d : UInt8} (h : d ∉ l) : Lib.cut (l ++ d :: r) [d] = (l, r, true) := by
  unfold Lib.cut
  rw [Lib.index_one, index_app l d r h, if_pos (by omega)]
  simp
theorem cut_none {l : List UInt8} {d : UInt8} (h : d ∉ l) : Lib.cut l [d] = (l, [], false) := by
  unfold Lib.cut
  rw [Lib.index_one, index_not l d h, if_neg (by decide)]
theorem cut_len (l s : List UInt8) : (Lib.cut l s).1.length ≤ l.length ∧ (Lib.cut l s).2.1.length ≤ l.length := by
  unfold Lib.cut
  split
  · simp; omega
  · simp

theorem parseM_big (M : Nat) (l : List UInt8) : ∀ acc, l.all isDig = true → foldD acc l ≤ 1000000000 → foldD acc l ≤ M → Lib.parseUintM M acc l = .ok (foldD acc l) := by
  induction l with
  | nil => intro acc _ _ _; rfl
  | cons c r ih =>
    intro acc h hb hm
    have hf : foldD acc (c :: r) = foldD (acc * 10 + (c.toNat - 48)) r := rfl
    rw [hf] at hb hm ⊢
    rw [List.all_cons, Bool.and_eq_true] at h
    have hc := h.1
    simp [isDig] at hc
    have := fold_ge r (acc * 10 + (c.toNat - 48))
    unfold Lib.parseUintM
    rw [if_pos hc, if_neg (by omega), if_neg (by omega)]
    exact ih _ h.2 hb hm
/-- ParseInt of digits. -/
theorem parse_dig (l : List UInt8) (h : l.all isDig = true) (hne : l ≠ []) (hv : val l ≤ 1000000000) : Lib.parseIntB 64 l = .ok (val l : Int) := by
  cases l with
  | nil => exact absurd rfl hne
  | cons c r =>
    have hc : isDig c = true := by rw [List.all_cons, Bool.and_eq_true] at h; exact h.1
    simp [isDig] at hc
    rw [Lib.parseIntB_plain 64 c r (by omega) (by omega)]
    unfold Lib.parseUintB
    have h64 : (2 ^ 64 - 1 : Nat) = 18446744073709551615 := by decide
    rw [if_neg hne, parseM_big _ _ 0 h hv (by show val _ ≤ _; omega), show foldD 0 (c :: r) = val (c :: r) from rfl]
    simp [Lib.signlessC]; omega

/-- impl.KeyOf's three parts. -/
def cutR (l : List UInt8) : List UInt8 := (Lib.cut l [1]).1
def cutB (l : List UInt8) : List UInt8 := (Lib.cut (Lib.cut l [1]).2.1 [1]).1
def cutD (l : List UInt8) : List UInt8 := (Lib.cut (Lib.cut l [1]).2.1 [1]).2.1
theorem kof_cut {l a b : List UInt8} {t : Int} (h : kof l = some (a, b, t)) : cutR l = a ∧ cutB l = b ∧ Lib.parseIntB 64 (cutD l) = .ok (1000000 - t) ∧ 0 ≤ t ∧ t ≤ 1000000 := by
  obtain ⟨h1, rfl⟩ := (kof_iff l a b t).1 h
  have hk := keyB_iff.1 h1
  rw [ktx_yes h1]
  have e1 := cut_app (r := b ++ (1 :: fixd 7 (1000000 - t).toNat)) (nm_one hk.1)
  have e2 := cut_app (r := fixd 7 (1000000 - t).toNat) (nm_one hk.2.1)
  have hv := fix_val 7 (1000000 - t).toNat (by omega)
  refine ⟨by unfold cutR; rw [e1], by unfold cutB; rw [e1, e2], ?_, hk.2.2⟩
  have e3 : cutD (a ++ (1 :: (b ++ (1 :: fixd 7 (1000000 - t).toNat)))) = fixd 7 (1000000 - t).toNat := by unfold cutD; rw [e1, e2]
  rw [e3, parse_dig _ (fix_dig _ _) (by intro e; have := fix_len 7 (1000000 - t).toNat; rw [e] at this; cases this) (by rw [hv]; omega), hv]
  congr 1; omega
/-- ParseInt fails: no key. -/
theorem kof_bad {l : List UInt8} (h : ∀ v, Lib.parseIntB 64 (cutD l) ≠ .ok v) : kof l = none := by
  cases hr : kof l with
  | none => rfl
  | some x => obtain ⟨a, b, t⟩ := x; exact absurd (kof_cut hr).2.2.1 (h _)
/-- It is written back so: the key. -/
theorem kof_back {l : List UInt8} {v t : Int} (h : Lib.parseIntB 64 (cutD l) = .ok v) (e : ktx (cutR l) (cutB l) t = l) : kof l = some (cutR l, cutB l, t) := by
  refine (kof_iff _ _ _ _).2 ⟨?_, e⟩
  cases hk : keyB (cutR l) (cutB l) t with
  | true => rfl
  | false =>
    rw [ktx_no hk] at e
    have : cutD l = [] := by rw [← e]; rfl
    rw [this] at h
    cases h
/-- It is written back otherwise: no key. -/
theorem kof_other {l : List UInt8} {v t : Int} (h : Lib.parseIntB 64 (cutD l) = .ok v) (ht : 0 ≤ v → v ≤ 1000000 → t = 1000000 - v) (e : ktx (cutR l) (cutB l) t ≠ l) : kof l = none := by
  cases hr : kof l with
  | none => rfl
  | some x =>
    obtain ⟨a, b, t'⟩ := x
    obtain ⟨h1, h2, h3, h4, h5⟩ := kof_cut hr
    rw [h] at h3
    cases h3
    have := ht (by omega) (by omega)
    have e' := ((kof_iff _ _ _ _).1 hr).2
    rw [← h1, ← h2, show t' = t by omega] at e'
    exact absurd e' e
end Go.Proofs.Ytopcjiaakefmeaa.Kp
