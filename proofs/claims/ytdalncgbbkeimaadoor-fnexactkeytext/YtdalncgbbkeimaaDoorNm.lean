/-
  Contracts of spec.NameOk and impl.NameOk: both give 'nmB' of the text's bytes, for every text, the world untouched.
-/
import Derived.Test.YtdalncgbbkeimaaDoorRp
import Derived.Test.YtdalncgbbkeimaaDoorTx
import Derived.WalkSpells
import Derived.Below
import Derived.Laws.Closers25b
import Derived.Lib.Strings
namespace Go.Proofs.YtdalncgbbkeimaaDoor.Kp
open Go.RowKit Wd Rp
theorem low_of {c : UInt8} (h : isLow c = true) : (97 : Int) ≤ (c.toNat : Int) ∧ (c.toNat : Int) ≤ 122 := by simp [isLow] at h; omega
theorem low_not {c : UInt8} (h : isLow c = false) : (c.toNat : Int) < 97 ∨ (122 : Int) < (c.toNat : Int) := by
  have : ¬ (97 ≤ c.toNat ∧ c.toNat ≤ 122) := by intro g; have : isLow c = true := by simp [isLow, g.1, g.2]
                                                rw [this] at h; cases h
  omega
def NmPost (s : ByteArray) (w : World) (e : Ending) (w' : World) : Prop := e = .returned (.bool (nmB s.data.toList)) ∧ w = w'
theorem nm_no {s : ByteArray} {w : World} (k : Nat) (h : k < s.size) (hd : isLow s[k] = false) : NmPost s w (.returned (.bool false)) w := by
  refine ⟨?_, rfl⟩; unfold nmB; rw [lnot_all s k h hd]; rfl
theorem nm_in {s : ByteArray} {w : World} (h : (s.data.toList.take s.size).all isLow = true) : NmPost s w (.returned (.bool (inB (s.size : Int) 1 8))) w := by
  rw [List.take_of_length_le (by rw [llen]; exact Nat.le_refl _)] at h
  refine ⟨?_, rfl⟩; unfold nmB inB; rw [h, llen, Bool.true_and]
  congr 3 <;> (congr 1; simp; omega)
theorem nm_range {s : ByteArray} {w : World} (h : s.size < 1 ∨ 8 < s.size) : NmPost s w (.returned (.bool false)) w := by
  refine ⟨?_, rfl⟩; unfold nmB; rw [llen]
  have : (decide (1 ≤ s.size) && decide (s.size ≤ 8)) = false := by simp; omega
  rw [this, Bool.and_false]
theorem nm_yes {s : ByteArray} {w : World} (h : (s.data.toList.take s.size).all isLow = true) (h1 : 1 ≤ s.size) (h2 : s.size ≤ 8) : NmPost s w (.returned (.bool true)) w := by
  rw [List.take_of_length_le (by rw [llen]; exact Nat.le_refl _)] at h
  refine ⟨?_, rfl⟩; unfold nmB; rw [llen, h]; simp [h1, h2]

set_option maxHeartbeats 1000000 in
theorem specName_any (s : ByteArray) (w : World) (hs : s.size ≤ 9223372036854775806) : Calls Tryd.prog 24 #[.string s] w (NmPost s w) := by
  go_enter Tryd.func24, Tryd.ntmps24
  go_wp2
  go_loop [3] (fun i => ∃ k : Nat, k ≤ s.size ∧ i = .int .i64 k ∧ (s.data.toList.take k).all isLow = true) (fun i => s.size - (intOf i).toNat)
  case atStart => exact ⟨0, Nat.zero_le _, rfl, rfl⟩
  case round =>
    obtain ⟨k, hk, rfl, hall⟩ := hrel
    have HA := Lib.hid hall; clear hall
    by_cases hlt : k < s.size
    · have hps := ltake_snoc s k hlt
      have HP := Lib.hid hps; clear hps
      cases hd : isLow s[k]
      · have hn := nm_no (w := w) k hlt hd
        have HN := Lib.hid hn; clear hn
        have hx := low_not hd
        clear hd
        rcases hx with hx | hx
        · go_wp2
          go_ret
          exact HN.out
        · go_wp2
          go_ret
          exact HN.out
      · obtain ⟨d0, d1⟩ := low_of hd
        have HD := Lib.hid hd; clear hd
        go_wp2
        go_round
        case rel => exact ⟨k + 1, by omega, by go_num, by rw [HP.out, List.all_append, HA.out]; simp [HD.out]⟩
        case measure => simp [intOf]; omega
    · obtain rfl : k = s.size := by omega
      have hn := nm_in (w := w) HA.out
      have HN := Lib.hid hn; clear hn
      go_wp2_with (go_at_call 62; refine (l1In_any _ _ _ _).mono ?_; rintro e w' ⟨rfl, rfl⟩)
      go_ret
      exact HN.out
set_option maxHeartbeats 1000000 in
theorem implName_short (s : ByteArray) (w : World) (h : s.size < 1 ∨ 8 < s.size) : Calls Tryd.prog 23 #[.string s] w (NmPost s w) := by
  have hn := nm_range (w := w) h
  have HN := Lib.hid hn; clear hn
  rcases h with h | h
  · have h1 : (s.size : Int) < 1 := by omega
    have h2 : decide ((s.size : Int) < 1) = true := by simpa using h1
    go_enter Tryd.func23, Tryd.ntmps23
    go_wp2
    go_ret
    exact HN.out
  · have h1 : ¬ (s.size : Int) < 1 := by omega
    have h2 : decide ((s.size : Int) < 1) = false := by simpa using h1
    have h3 : 8 < (s.size : Int) := by omega
    go_enter Tryd.func23, Tryd.ntmps23
    go_wp2
    go_ret
    exact HN.out
set_option maxHeartbeats 1000000 in
theorem implName_long (s : ByteArray) (w : World) (h1 : 1 ≤ s.size) (h2 : s.size ≤ 8) : Calls Tryd.prog 23 #[.string s] w (NmPost s w) := by
  have g1 : ¬ (s.size : Int) < 1 := by omega
  have g2 : decide ((s.size : Int) < 1) = false := by simpa using g1
  have g3 : ¬ 8 < (s.size : Int) := by omega
  go_enter Tryd.func23, Tryd.ntmps23
  go_wp2
  go_loop [3, 14] (fun _ i => ∃ k : Nat, k ≤ s.size ∧ i = .int .i64 k ∧ (s.data.toList.take k).all isLow = true) (fun _ i => s.size - (intOf i).toNat)
  case atStart => exact ⟨0, Nat.zero_le _, rfl, rfl⟩
  case round =>
    obtain ⟨k, hk, rfl, hall⟩ := hrel
    have HA := Lib.hid hall; clear hall
    by_cases hlt : k < s.size
    · have hps := ltake_snoc s k hlt
      have HP := Lib.hid hps; clear hps
      cases hd : isLow s[k]
      · have hn := nm_no (w := w) k hlt hd
        have HN := Lib.hid hn; clear hn
        have hx := low_not hd
        clear hd
        rcases hx with hx | hx
        · go_wp2
          go_ret
          exact HN.out
        · go_wp2
          go_ret
          exact HN.out
      · obtain ⟨d0, d1⟩ := low_of hd
        have HD := Lib.hid hd; clear hd
        go_wp2
        go_round
        case rel => exact ⟨k + 1, by omega, by go_num, by rw [HP.out, List.all_append, HA.out]; simp [HD.out]⟩
        case measure => simp [intOf]; omega
    · obtain rfl : k = s.size := by omega
      have hn := nm_yes (w := w) HA.out h1 h2
      have HN := Lib.hid hn; clear hn
      go_wp2
      go_ret
      exact HN.out
theorem implName_any (s : ByteArray) (w : World) : Calls Tryd.prog 23 #[.string s] w (NmPost s w) := by
  by_cases h : s.size < 1 ∨ 8 < s.size
  · exact implName_short s w h
  · exact implName_long s w (by omega) (by omega)
end Go.Proofs.YtdalncgbbkeimaaDoor.Kp
