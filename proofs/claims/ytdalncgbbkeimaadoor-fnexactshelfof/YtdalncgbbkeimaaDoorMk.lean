/-
  Contracts of spec.Mark and impl.Mark: both give 'mkN' of the text's bytes, for every text, the world untouched.
-/
import Derived.Test.YtdalncgbbkeimaaDoorWd
import Derived.WalkSpells
import Derived.Below
import Derived.Laws.Closers25b
import Derived.Lib.Strings
import Derived.Lib.SmallJoins
namespace Go.Proofs.YtdalncgbbkeimaaDoor.Fq
open Go.RowKit Wd
/-- The checksum of a text. -/
def mkN (l : List UInt8) : Nat := l.foldl (fun h c => (131 * h + c.toNat + 1) % 65521) 7
theorem mk_snoc (l : List UInt8) (c : UInt8) : mkN (l ++ [c]) = (131 * mkN l + c.toNat + 1) % 65521 := by simp [mkN, List.foldl_append]
theorem mk_lt (l : List UInt8) : mkN l < 65521 := by
  have : ∀ (l : List UInt8) (h : Nat), h < 65521 → l.foldl (fun h (c : UInt8) => (131 * h + c.toNat + 1) % 65521) h < 65521 := by
    intro l
    induction l with
    | nil => intro h hh; exact hh
    | cons c r ih => intro h _; exact ih _ (Nat.mod_lt _ (by decide))
  exact this l 7 (by decide)
theorem mtake_snoc (s : ByteArray) (k : Nat) (h : k < s.size) : s.data.toList.take (k + 1) = s.data.toList.take k ++ [s[k]] := by
  rw [List.take_succ_eq_append_getElem (by simpa using h)]; rfl
theorem mtake_all (s : ByteArray) : s.data.toList.take s.size = s.data.toList := List.take_of_length_le (by rw [Lib.size_eq]; exact Nat.le_refl _)
def MkPost (s : ByteArray) (w : World) (e : Ending) (w' : World) : Prop := e = .returned (.int .i64 (mkN s.data.toList)) ∧ w = w'
theorem mk_step {s : ByteArray} {k : Nat} (h : k < s.size) : ((mkN (s.data.toList.take (k + 1)) : Nat) : Int) = (131 * (mkN (s.data.toList.take k) : Int) + ((s[k]).toNat : Int) + 1) % 65521 := by
  rw [mtake_snoc s k h, mk_snoc]; omega
set_option maxHeartbeats 1000000 in
theorem specMark_any (s : ByteArray) (w : World) (hs : s.size ≤ 9223372036854775806) : Calls Tryd.prog 98 #[.string s] w (MkPost s w) := by
  go_enter Tryd.func98, Tryd.ntmps98
  go_wp2
  go_loop [3, 4] (fun h i => ∃ (k g : Nat), k ≤ s.size ∧ i = .int .i64 k ∧ h = .int .i64 g ∧ g = mkN (s.data.toList.take k) ∧ g ≤ 65520) (fun _ i => s.size - (intOf i).toNat)
  case atStart => exact ⟨0, 7, Nat.zero_le _, rfl, rfl, rfl, by decide⟩
  case round =>
    obtain ⟨k, g, hk, rfl, rfl, hg, hg1⟩ := hrel
    have HG := Lib.hid hg; clear hg
    by_cases hlt : k < s.size
    · have hst := mk_step hlt
      rw [← HG.out] at hst
      have HS := Lib.hid hst; clear hst
      have hb : ((s[k]).toNat : Int) ≤ 255 := by have := (s[k]).toNat_lt; omega
      have hb0 : 0 ≤ ((s[k]).toNat : Int) := by omega
      go_wp2
      go_round
      case rel => exact ⟨k + 1, _, by omega, by go_num, by rw [← HS.out], rfl, Nat.le_of_lt_succ (mk_lt _)⟩
      case measure => simp [intOf]; omega
    · obtain rfl : k = s.size := by omega
      have HE := Lib.hid (mtake_all s)
      go_wp2
      go_ret
      exact ⟨by rw [HG.out, HE.out]; rfl, rfl⟩
set_option maxHeartbeats 1000000 in
theorem implMark_any (s : ByteArray) (w : World) (hs : s.size ≤ 9223372036854775806) : Calls Tryd.prog 102 #[.string s] w (MkPost s w) := by
  go_enter Tryd.func102, Tryd.ntmps102
  go_wp2
  go_loop [3, 7] (fun h i => ∃ (k g : Nat), k ≤ s.size ∧ i = .int .i64 k ∧ h = .int .i64 g ∧ g = mkN (s.data.toList.take k) ∧ g ≤ 65520) (fun _ i => s.size - (intOf i).toNat)
  case atStart => exact ⟨0, 7, Nat.zero_le _, rfl, rfl, rfl, by decide⟩
  case round =>
    obtain ⟨k, g, hk, rfl, rfl, hg, hg1⟩ := hrel
    have HG := Lib.hid hg; clear hg
    by_cases hlt : k < s.size
    · have hst := mk_step hlt
      rw [← HG.out] at hst
      have HS := Lib.hid hst; clear hst
      have hb : ((s[k]).toNat : Int) ≤ 255 := by have := (s[k]).toNat_lt; omega
      have hb0 : 0 ≤ ((s[k]).toNat : Int) := by omega
      go_wp2
      go_round
      case rel => exact ⟨k + 1, _, by omega, by go_num, by rw [← HS.out], rfl, Nat.le_of_lt_succ (mk_lt _)⟩
      case measure => simp [intOf]; omega
    · obtain rfl : k = s.size := by omega
      have HE := Lib.hid (mtake_all s)
      go_wp2
      go_ret
      exact ⟨by rw [HG.out, HE.out]; rfl, rfl⟩
end Go.Proofs.YtdalncgbbkeimaaDoor.Fq
