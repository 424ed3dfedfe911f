/-
  The contract of spec.l1Split: it gives the pieces 'spl' of the text's bytes, as a slice that the call has made; nothing that was there turns.
-/
import Derived.Test.YtdalncgbbkeimaaGreatDoorRp
import Derived.Test.YtdalncgbbkeimaaGreatDoorTx
import Derived.Maps.AppendAt
import Derived.OwnWalk
namespace Go.Proofs.YtdalncgbbkeimaaGreatDoor.Kp
open Go.RowKit Wd Rp
/-- How far the split has come. -/
def SplR (d : UInt8) (s : ByteArray) (P : List (List UInt8)) (f k : Nat) : Prop := (k ≤ s.size ∧ f ≤ k ∧ P.length ≤ k ∧ P ++ splAt d (sub s f k) (s.data.toList.drop k) = spl d s.data.toList) ∨ (k = s.size + 1 ∧ P = spl d s.data.toList)
set_option maxHeartbeats 2000000 in
theorem split_any (s : ByteArray) (d : UInt8) (w : World) (hs : s.size ≤ 4194304) :
    Calls Tryz.prog 49 #[.string s, .int .u8 d.toNat] w fun e w' => ∃ v, e = .returned v ∧ OwnS w.heap.size w' v (spl d s.data.toList) ∧ Below w.heap.size w w' := by
  obtain ⟨i0, hi, hz0, hz1, hz2⟩ := info_parts infoS
  go_enter Tryz.func49, Tryz.ntmps49
  go_wp2
  go_loopw [5, 6, 7] (fun out fr i wr => ∃ (k f : Nat) (P : List (List UInt8)), i = .int .i64 k ∧ fr = .int .i64 f ∧ OwnS w.heap.size wr out P ∧ Below w.heap.size w wr ∧ SplR d s P f k) (fun _ _ i _ => s.size + 1 - intV i)
  case atStart => exact ⟨0, 0, [], rfl, rfl, OwnS.start (Nat.le_refl _), bel1 _ _, Or.inl ⟨Nat.zero_le _, Nat.le_refl _, Nat.le_refl _, rfl⟩⟩
  case round =>
    obtain ⟨k, f, P, rfl, rfl, ⟨hne, hown⟩, hbel, hR⟩ := hrel
    have HB := Lib.hid hbel; clear hbel
    have hB : w.heap.size ≤ wr.heap.size := HB.out.size
    rcases hR with ⟨hk, hf, hl, he⟩ | ⟨rfl, rfl⟩
    · have HE := Lib.hid he; clear he
      by_cases hlt : k < s.size
      · have q1 : ((k : Int) == (s.size : Int)) = false := by rw [beq_eq_false_iff_ne]; omega
        by_cases hc : s[k] = d
        · have q2 : (((s[k]).toNat : Int) == (d.toNat : Int)) = true := by rw [hc]; simp
          have q3 : (f : Int) ≤ (k : Int) := by omega
          have HC := Lib.hid hc; clear hc
          go_wp2_with (first
            | (at_builtin; refine wpList_append_own_at _ rfl (.tmp 26) (.tmp 31) 51 rfl w.heap.size 9 i0 (.string ⟨#[]⟩) 1 16 Tryz.underlying51 hi hz0 hz1 hz2 rfl (by decide) _ _ _ rfl (hown.alloc _) ⟨wr.heap.size, 0, none⟩ 1 1 [.string (s.extract f k)] rfl rfl (cell_one_new _ _ _) (by intro u hu; simp at hu; subst hu; rfl) (by unfold maxLen; omega) (by omega) (by simp; omega) ?_; intro v1 w1 hown1 hgrow1 hnil1 hat1))
          go_roundw
          case rel =>
            rw [sub_ext] at hown1
            refine ⟨k + 1, k + 1, P ++ [sub s f k], by go_num, by go_num, OwnS.snoc (fun e => hne (hnil1.1 e).1) hown1, (HB.out.alloc hB _).grown hgrow1 (by simp; omega) (fun j hj => (hown.lt j hj).1), Or.inl ⟨by omega, Nat.le_refl _, by simp; omega, ?_⟩⟩
            rw [← HE.out, drop_cons s k hlt, splAt, if_pos HC.out, sub_self]; simp
          case measure => simp [intV]; omega
        · have q2 : (((s[k]).toNat : Int) == (d.toNat : Int)) = false := by
            rw [beq_eq_false_iff_ne]; intro e; exact hc (UInt8.toNat_inj.1 (by omega))
          have HC := Lib.hid hc; clear hc
          go_wp2_with fail
          go_roundw
          case rel =>
            refine ⟨k + 1, f, P, by go_num, rfl, ⟨hne, hown⟩, HB.out, Or.inl ⟨by omega, by omega, by omega, ?_⟩⟩
            rw [← HE.out, drop_cons s k hlt, splAt, if_neg HC.out, sub_snoc s f k hf hlt]
          case measure => simp [intV]; omega
      · obtain rfl : k = s.size := by omega
        have q1 : ((s.size : Int) == (s.size : Int)) = true := by simp
        have q3 : (f : Int) ≤ (s.size : Int) := by omega
        go_wp2_with (first
          | (at_builtin; refine wpList_append_own_at _ rfl (.tmp 26) (.tmp 31) 51 rfl w.heap.size 9 i0 (.string ⟨#[]⟩) 1 16 Tryz.underlying51 hi hz0 hz1 hz2 rfl (by decide) _ _ _ rfl (hown.alloc _) ⟨wr.heap.size, 0, none⟩ 1 1 [.string (s.extract f s.size)] rfl rfl (cell_one_new _ _ _) (by intro u hu; simp at hu; subst hu; rfl) (by unfold maxLen; omega) (by omega) (by simp; omega) ?_; intro v1 w1 hown1 hgrow1 hnil1 hat1))
        go_roundw
        case rel =>
          rw [sub_ext] at hown1
          refine ⟨s.size + 1, s.size + 1, P ++ [sub s f s.size], by go_num, by go_num, OwnS.snoc (fun e => hne (hnil1.1 e).1) hown1, (HB.out.alloc hB _).grown hgrow1 (by simp; omega) (fun j hj => (hown.lt j hj).1), Or.inr ⟨rfl, ?_⟩⟩
          rw [← HE.out, drop_all]; rfl
        case measure => simp [intV]
    · have HO := Lib.hid (show OwnS w.heap.size wr _ (spl d s.data.toList) from ⟨hne, hown⟩)
      clear hne hown
      have q1 : ¬ ((s.size : Int) + 1 ≤ (s.size : Int)) := by omega
      go_wp2_with fail
      go_ret
      exact ⟨_, rfl, HO.out, HB.out⟩
end Go.Proofs.YtdalncgbbkeimaaGreatDoor.Kp
