/-
  Numbers of a call's own, marked: contract of laws.markInt64S.
-/
import Derived.Test.YtfnnoehpahdgcaaGreatDoorYb
namespace Go.Proofs.YtfnnoehpahdgcaaGreatDoor.Cl
open Go.RowKit Wd Rp Kp
set_option linter.unusedVariables false
theorem O1.own {T : TypeId} {B : Nat} {w : World} {v : Value} {l : List Value} (h : O1 T B w v l) : ∃ a cap, v = .slice a l.length cap ∧ (∀ k, k < l.length → ∃ g, a = some ⟨g, 0, none⟩ ∧ g < w.heap.size) := by
  rcases h.2 with ⟨rfl, hn⟩ | ⟨g, cap, cur, rfl, hB, hg, hn, hc, -⟩
  · exact ⟨none, 0, by rw [hn], fun k hk => by omega⟩
  · exact ⟨_, cap, rfl, fun k _ => ⟨g, rfl, (Array.getElem?_eq_some_iff.1 hg).1⟩⟩
set_option maxRecDepth 100000 in
set_option maxHeartbeats 4000000 in
theorem markInts_own {B : Nat} {v : Value} {l : List Int} {n s : Nat} (w : World) (hv : ON B w v l) (hn : l.length = n) (hl : n ≤ 4194304) (hs1 : 1 ≤ s) (hs2 : s ≤ 20000000) :
    Calls Tryz.prog 38 #[v, .int .i64 (s : Int)] w fun e w' => e = .returned (.int .i64 ((s + n : Nat) : Int)) ∧ w.grownBy w' v.ownBlock := by
  have ho : O1 2 B w v (inL l) := hv
  obtain ⟨a, ca, rfl, ha⟩ := ho.own
  rw [inL_len, hn] at ha ho ⊢
  have hil : (inL l).length = n := by rw [inL_len, hn]
  have HA := Lib.hid ha; clear ha
  have HO := Lib.hid ho; clear ho hv
  go_enter Tryz.func38, Tryz.ntmps38
  go_wp2
  go_loopw [1, 5] (fun q i wr => ∃ (k : Nat) (m : List Value), k ≤ n ∧ i = .int .i64 k ∧ q = .int .i64 ((s + k : Nat) : Int) ∧ w.grownBy wr (Value.slice a n ca).ownBlock ∧ m.length = n ∧ O1 2 B wr (.slice a n ca) m) (fun _ i _ => n - intV i)
  case atStart => exact ⟨0, inL l, Nat.zero_le _, rfl, rfl, World.grownBy.refl _ _, hil, HO.out⟩
  case round =>
    obtain ⟨k, m, hk, rfl, rfl, hgr, hm, hown⟩ := hrel
    have HG := Lib.hid hgr; clear hgr
    have HW := Lib.hid hown; clear hown HO
    by_cases hlt : k < n
    · obtain ⟨g, rfl, -⟩ := HA.out k (by omega)
      obtain ⟨d, hd⟩ : ∃ d, m[k]? = some d := ⟨m[k], List.getElem?_eq_getElem (by omega)⟩
      obtain ⟨g', o', e', hg', hc⟩ := (HW.out.vw).cell hd
      cases e'
      rw [Nat.zero_add] at hc
      have hf := HW.out.frozen hm.symm k
      have hw9 : IntKind.i64.wrap ((s + k : Nat) : Int) = ((s + k : Nat) : Int) := by rw [IntKind.wrap_i64]; omega
      have hw8 : IntKind.i64.wrap (((s + k : Nat) : Int) + 1) = ((s + (k + 1) : Nat) : Int) := by rw [IntKind.wrap_i64]; omega
      have HS := Lib.hid (HW.out.set hm.symm k (.int .i64 ((s + k : Nat) : Int)))
      have q1 : ((s + k : Nat) : Int) + 1 = ((s + (k + 1) : Nat) : Int) := by omega
      have hi8 : ((s + k : Nat) : Int) ≤ 9223372036854775806 := by omega
      clear hd hg'
      go_wp2_with fail
      go_roundw
      case rel => exact ⟨k + 1, m.set k (.int .i64 ((s + k : Nat) : Int)), by omega, by go_num, by first | go_num | (rw [q1]), HG.out.trans ⟨rfl, rfl, rfl, by rw [World.size_setCell]; exact Nat.le_refl _, fun j hj hne => Below.heap_setCell _ _ _ j (fun e => hne (by rw [e]; rfl))⟩, by rw [List.length_set]; exact hm, HS.out⟩
      case measure => simp [intV]; omega
    · obtain rfl : k = n := by omega
      go_wp2_with fail
      go_ret
      exact ⟨rfl, HG.out⟩
end Go.Proofs.YtfnnoehpahdgcaaGreatDoor.Cl
