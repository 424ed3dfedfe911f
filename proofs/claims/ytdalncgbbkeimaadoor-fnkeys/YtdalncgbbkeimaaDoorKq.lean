/-
  Plain facts on the order of keys: texts of valid keys are ordered as the keys are ('ls_text'); of two keys that differ one comes first ('ls_tri'); two keys are compared field by field ('keyEq').
-/
import Derived.Test.YtdalncgbbkeimaaDoorKl
import Derived.Test.YtdalncgbbkeimaaDoorKt
import Derived.Laws.StructEq
namespace Go.Proofs.YtdalncgbbkeimaaDoor.Kp
open Go.RowKit Wd Rp
theorem bl_sep : ∀ (r r' x x' : List UInt8), (∀ c ∈ r, isLow c = true) → (∀ c ∈ r', isLow c = true) → Op.bytesLess (r ++ 1 :: x) (r' ++ 1 :: x') = if r = r' then Op.bytesLess x x' else Op.bytesLess r r'
  | [], [], x, x', _, _ => by simp [Op.bytesLess]
  | [], c :: t, x, x', _, h' => by
    have hc := h' c (by simp)
    have h1 : (1 : UInt8) < c := by rw [UInt8.lt_iff_toNat_lt]; simp [isLow] at hc; show 1 < c.toNat; omega
    simp [Op.bytesLess, h1]
  | c :: t, [], x, x', h, _ => by
    have hc := h c (by simp)
    have h1 : ¬ c < (1 : UInt8) := by rw [UInt8.lt_iff_toNat_lt]; simp [isLow] at hc; show ¬ c.toNat < 1; omega
    have h2 : ¬ c = 1 := low_one hc
    simp [Op.bytesLess, h1, h2]
  | c :: t, d :: t', x, x', h, h' => by
    have ih := bl_sep t t' x x' (fun y hy => h y (List.mem_cons_of_mem _ hy)) (fun y hy => h' y (List.mem_cons_of_mem _ hy))
    rw [List.cons_append, List.cons_append, Op.bytesLess, ih]
    by_cases e : c = d
    · subst e
      by_cases e' : t = t'
      · subst e'; simp
      · simp [e', Op.bytesLess]
    · have hb : (c == d) = false := by rw [beq_eq_false_iff_ne]; exact e
      simp [e, hb, Op.bytesLess]
theorem bl_snoc : ∀ (l l' : List UInt8) (c c' : UInt8), l.length = l'.length → Op.bytesLess (l ++ [c]) (l' ++ [c']) = (Op.bytesLess l l' || (decide (l = l') && decide (c < c')))
  | [], [], c, c', _ => by simp [Op.bytesLess]
  | [], d :: t, c, c', h => by simp at h
  | d :: t, [], c, c', h => by simp at h
  | d :: t, d' :: t', c, c', h => by
    have ih := bl_snoc t t' c c' (by simpa using h)
    rw [List.cons_append, List.cons_append, Op.bytesLess, ih]
    by_cases e : d = d'
    · subst e; simp [Op.bytesLess]
    · have hb : (d == d') = false := by rw [beq_eq_false_iff_ne]; exact e
      simp [e, hb, Op.bytesLess]
theorem fix_inj {k n m : Nat} (hn : n < 10 ^ k) (hm : m < 10 ^ k) (h : fixd k n = fixd k m) : n = m := by
  rw [← fix_val k n hn, h, fix_val k m hm]
theorem bl_fix : ∀ (k n m : Nat), n < 10 ^ k → m < 10 ^ k → Op.bytesLess (fixd k n) (fixd k m) = decide (n < m)
  | 0, n, m, hn, hm => by
    have : n = 0 := by simpa using hn
    have : m = 0 := by simpa using hm
    subst n m; rfl
  | k + 1, n, m, hn, hm => by
    rw [Nat.pow_succ] at hn hm
    have hn' : n / 10 < 10 ^ k := by omega
    have hm' : m / 10 < 10 ^ k := by omega
    rw [fixd, fixd, bl_snoc _ _ _ _ (by rw [fix_len, fix_len]), bl_fix k _ _ hn' hm']
    have hc : (UInt8.ofNat (48 + n % 10) < UInt8.ofNat (48 + m % 10)) ↔ n % 10 < m % 10 := by
      rw [UInt8.lt_iff_toNat_lt, ofNat_toNat _ (by omega), ofNat_toNat _ (by omega)]; omega
    rw [Bool.eq_iff_iff]
    simp only [Bool.or_eq_true, Bool.and_eq_true, decide_eq_true_eq, hc]
    constructor
    · rintro (h | ⟨h1, h2⟩)
      · omega
      · have := fix_inj hn' hm' h1; omega
    · intro h
      by_cases he : n / 10 = m / 10
      · exact Or.inr ⟨by rw [he], by omega⟩
      · exact Or.inl (by omega)
theorem bl_tri : ∀ (x y : List UInt8), (Op.bytesLess x y || Op.bytesLess y x) = !(x == y)
  | [], [] => rfl
  | [], _ :: _ => rfl
  | _ :: _, [] => rfl
  | a :: x, b :: y => by
    have ih := bl_tri x y
    by_cases e : a = b
    · subst e
      simp only [Op.bytesLess]
      simpa using ih
    · have h : a < b ∨ b < a := by
        rw [UInt8.lt_iff_toNat_lt, UInt8.lt_iff_toNat_lt]
        have : a.toNat ≠ b.toNat := fun g => e (UInt8.toNat_inj.1 g)
        omega
      have hne : (a :: x == b :: y) = false := by rw [beq_eq_false_iff_ne]; intro g; exact e (List.cons.inj g).1
      rw [hne]
      rcases h with h | h <;> simp [Op.bytesLess, h]
theorem ls_text {r b : ByteArray} {t : Int} {r' b' : ByteArray} {t' : Int} (h : keyB r.data.toList b.data.toList t = true) (h' : keyB r'.data.toList b'.data.toList t' = true) :
    lsB r b t r' b' t' = Op.bytesLess (tx (ktx r.data.toList b.data.toList t)).toList (tx (ktx r'.data.toList b'.data.toList t')).toList := by
  have hk := keyB_iff.1 h
  have hk' := keyB_iff.1 h'
  rw [Lib.toList_data, Lib.toList_data, tx_data, tx_data, ktx_yes h, ktx_yes h', bl_sep _ _ _ _ (nm_low hk.1) (nm_low hk'.1), bl_sep _ _ _ _ (nm_low hk.2.1) (nm_low hk'.2.1), bl_fix 7 _ _ (by omega) (by omega)]
  unfold lsB
  rw [Lib.toList_data, Lib.toList_data, Lib.toList_data, Lib.toList_data]
  generalize r.data.toList = R, r'.data.toList = R', b.data.toList = S, b'.data.toList = S'
  by_cases e : R = R'
  · by_cases e' : S = S'
    · simp [e, e']; omega
    · simp [e, e']
  · simp [e]
theorem ls_tri (r b : ByteArray) (t : Int) (r' b' : ByteArray) (t' : Int) : (lsB r b t r' b' t' || lsB r' b' t' r b t) = !(r == r' && (b == b' && t == t')) := by
  rw [ba_beq, ba_beq]
  unfold lsB
  have e1 : (r'.toList == r.toList) = (r.toList == r'.toList) := Bool.beq_comm
  have e2 : (b'.toList == b.toList) = (b.toList == b'.toList) := Bool.beq_comm
  rw [e1, e2]
  cases hr : (r.toList == r'.toList)
  · have := bl_tri r.toList r'.toList
    rw [hr] at this
    simpa using this
  · cases hb : (b.toList == b'.toList)
    · have := bl_tri b.toList b'.toList
      rw [hb] at this
      simpa using this
    · rw [Bool.eq_iff_iff]; simp; omega
end Go.Proofs.YtdalncgbbkeimaaDoor.Kp
