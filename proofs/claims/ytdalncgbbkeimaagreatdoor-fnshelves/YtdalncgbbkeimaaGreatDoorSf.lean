/-
  A cell's text read again: what ReadCell accepts is the text of its cell, and the text of a valid cell is read as it.
-/
import Derived.Test.YtdalncgbbkeimaaGreatDoorSb
namespace Go.Proofs.YtdalncgbbkeimaaGreatDoor.Cl
open Go.RowKit Wd Rp Kp
set_option linter.unusedVariables false
theorem joined4 (a b t v : List UInt8) : joined 32 [a, b, t, v] = a ++ (32 :: (b ++ (32 :: (t ++ (32 :: v))))) := by
  rw [joined_cons 32 a (by simp), joined_cons 32 b (by simp), joined_cons 32 t (by simp)]; rfl
theorem gn_iff {v : List UInt8} : gnB v = true ↔ v = [45] := by
  unfold gnB; rw [Lib.toList_data, tx_data]; simp
theorem rd_back {t : List UInt8} (h : rdB t = true) : Lib.itoa (rdV t) = t := by
  unfold rdB at h
  obtain ⟨x, hx⟩ := Option.isSome_iff_exists.1 h
  have : rdV t = x := by unfold rdV; rw [hx]; rfl
  rw [this]; exact ((rd_iff t x).1 hx).2
theorem show_of_read {s a b t v : List UInt8} (h : spl 32 s = [a, b, t, v]) (ok : okR a b t v = true) : shB (tx a) (tx b) (rdV t) (rdV v) (gnB v) = s := by
  unfold okR at ok
  rw [Bool.and_eq_true, Bool.and_eq_true] at ok
  obtain ⟨o1, o2, o3⟩ := ok
  rw [shB_yes o3, tx_data, tx_data]
  have hj := joined_spl 32 s
  rw [h, joined4] at hj
  unfold showB
  rw [rd_back o1]
  have hv : valT (rdV v) (gnB v) = v := by
    unfold valT
    by_cases hg : gnB v = true
    · rw [if_pos hg]; exact (gn_iff.1 hg).symm
    · rw [if_neg hg]
      have : gnB v = false := by simpa using hg
      rw [this, Bool.or_false] at o2
      exact rd_back o2
  rw [hv]; exact hj
theorem dig_not32 {l : List UInt8} (h : l.all isDig = true) : (32 : UInt8) ∉ l := fun hm => by
  have := List.all_eq_true.1 h 32 hm
  revert this; decide
theorem itoa_not32 (n : Int) : (32 : UInt8) ∉ Lib.itoa n := by
  unfold Lib.itoa
  split
  · intro hm
    rcases List.mem_cons.1 hm with h | h
    · revert h; decide
    · exact dig_not32 (dec_is _ n.natAbs (Nat.le_refl _)).1 h
  · exact dig_not32 (dec_is _ n.toNat (Nat.le_refl _)).1
theorem nm_not32 {l : List UInt8} (h : nmB l = true) : (32 : UInt8) ∉ l := fun hm => by
  have := nm_low h 32 hm
  revert this; decide
theorem rd_itoa {n : Int} (h : isW n = true) : rd (Lib.itoa n) = some n := (rd_iff _ _).2 ⟨h, rfl⟩
theorem rd_minus : rd [45] = none := by decide
theorem read_of_show {r b : ByteArray} {t v : Int} {g : Bool} (h : cellB r b t v g = true) : rcV (spl 32 (showB r.data.toList b.data.toList t v g)) = .tuple #[.agg #[.string r, .string b, .int .i64 t, .int .i64 v, .bool g], .bool true] := by
  have hc := h
  obtain ⟨-, -, t0, t1, v0, v1⟩ := cell_facts h
  unfold cellB at hc
  rw [Bool.and_eq_true, Bool.and_eq_true] at hc
  have hk := keyB_iff.1 hc.1
  have hv32 : (32 : UInt8) ∉ valT v g := by
    unfold valT; split
    · decide
    · exact itoa_not32 v
  have hs : spl 32 (showB r.data.toList b.data.toList t v g) = [r.data.toList, b.data.toList, Lib.itoa t, valT v g] := by
    unfold showB
    rw [spl_app (nm_not32 hk.1), spl_app (nm_not32 hk.2.1), spl_app (itoa_not32 t), spl_none hv32]
  rw [hs]
  have ht : rd (Lib.itoa t) = some t := rd_itoa ((isW_iff t).2 ⟨by omega, by omega⟩)
  have e1 : rdB (Lib.itoa t) = true := by unfold rdB; rw [ht]; rfl
  have e2 : rdV (Lib.itoa t) = t := by unfold rdV; rw [ht]; rfl
  have hw := rd_itoa hc.2.1
  have key : gnB (valT v g) = g ∧ rdV (valT v g) = v ∧ (rdB (valT v g) || gnB (valT v g)) = true := by
    cases g with
    | true =>
      have hz : v = 0 := by simpa using hc.2.2
      have hm : gnB [45] = true := gn_iff.2 rfl
      refine ⟨hm, ?_, by show (_ || gnB [45]) = true; rw [hm, Bool.or_true]⟩
      show rdV [45] = v
      unfold rdV; rw [rd_minus, hz]; rfl
    | false =>
      have hm : gnB (Lib.itoa v) = false := by
        cases hx : gnB (Lib.itoa v) with
        | false => rfl
        | true =>
          rw [gn_iff.1 hx, rd_minus] at hw; cases hw
      refine ⟨hm, ?_, ?_⟩
      · show rdV (Lib.itoa v) = v
        unfold rdV; rw [hw]; rfl
      · show (rdB (Lib.itoa v) || _) = true
        unfold rdB; rw [hw]; rfl
  show (if okR r.data.toList b.data.toList (Lib.itoa t) (valT v g) then cellV r.data.toList b.data.toList (Lib.itoa t) (valT v g) else zeroV) = _
  have hok : okR r.data.toList b.data.toList (Lib.itoa t) (valT v g) = true := by
    unfold okR; rw [e1, e2, key.2.2, key.2.1, key.1, tx_of, tx_of, h]; rfl
  rw [if_pos hok]
  unfold cellV
  rw [e2, key.2.1, key.1, tx_of, tx_of]
theorem show_ne {r b : List UInt8} {t v : Int} {g : Bool} : showB r b t v g ≠ [] := by unfold showB; simp
/-- What is not accepted gives zero. -/
theorem rc_cases (s : List UInt8) : rcV (spl 32 s) = zeroV ∨ ∃ (r b : ByteArray) (t v : Int) (g : Bool), rcV (spl 32 s) = .tuple #[.agg #[.string r, .string b, .int .i64 t, .int .i64 v, .bool g], .bool true] ∧ shB r b t v g = s ∧ r.size ≤ s.length ∧ b.size ≤ s.length := by
  by_cases h4 : (spl 32 s).length = 4
  · obtain ⟨a, b, t, v, h⟩ := four_of h4
    rw [h]
    cases ok : okR a b t v
    · left; show (if okR a b t v then _ else _) = _; rw [ok]; rfl
    · right
      have hp : ∀ p ∈ spl 32 s, p.length ≤ s.length := fun p hp => by have := sub_small 32 s [] p hp; simpa using this
      rw [h] at hp
      exact ⟨tx a, tx b, rdV t, rdV v, gnB v, by show (if okR a b t v then _ else _) = _; rw [ok]; rfl, show_of_read h ok, by rw [tx_size]; exact hp a (by simp), by rw [tx_size]; exact hp b (by simp)⟩
  · exact Or.inl (rcV_no h4)
end Go.Proofs.YtdalncgbbkeimaaGreatDoor.Cl
