/-
  The contract of laws.pick: some number below n, whatever the code; the world untouched.
-/
import Derived.Test.YthlcdbmcpjipdaaDoorCx
namespace Go.Proofs.YthlcdbmcpjipdaaDoor.Cu
open Go.RowKit
set_option maxHeartbeats 1000000 in
theorem pick_below (w : World) (a : Option Addr) (len cap : Nat) (seed n : Int) (hb : IsBytes w a len) (hl : len ≤ 4096) (s0 : 0 ≤ seed) (s1 : seed ≤ 100) (n0 : 1 ≤ n) (n1 : n ≤ 9223372036854775807) :
    Calls Tryd.prog 22 #[.slice a len cap, .int .i64 seed, .int .i64 n] w fun e w' => ∃ r : Int, e = .returned (.int .i64 r) ∧ 0 ≤ r ∧ r < n ∧ w = w' := by
  have HB := Lib.hid hb; clear hb
  have d0 : ¬ n = 0 := by omega
  have d1 : (n == 0) = false := by rw [beq_eq_false_iff_ne]; exact d0
  go_enter Tryd.func22, Tryd.ntmps22
  go_wp2
  go_loop [7, 8] (fun h i => ∃ (k : Nat) (g : Int), k ≤ len ∧ i = .int .i64 k ∧ h = .int .i64 g ∧ 0 ≤ g ∧ g ≤ 2000000) (fun _ i => len - (intOf i).toNat)
  case atStart => exact ⟨0, _, Nat.zero_le _, rfl, rfl, by omega, by omega⟩
  case round =>
    obtain ⟨k, g, hk, rfl, rfl, g0, g1⟩ := hrel
    by_cases hlt : k < len
    · obtain ⟨ab, ao, ha, hab, hcell⟩ := HB.out.2 (by omega)
      subst ha
      obtain ⟨z, hz, z0, z1⟩ := hcell k hlt
      clear hcell
      go_wp2
      go_round
      case rel => exact ⟨k + 1, _, by omega, by go_num, rfl, Int.emod_nonneg _ (by decide), by omega⟩
      case measure => simp [intOf]; omega
    · go_wp2
      go_ret
      exact ⟨_, rfl, Int.emod_nonneg _ d0, Int.emod_lt_of_pos _ (by omega), rfl⟩
end Go.Proofs.YthlcdbmcpjipdaaDoor.Cu
