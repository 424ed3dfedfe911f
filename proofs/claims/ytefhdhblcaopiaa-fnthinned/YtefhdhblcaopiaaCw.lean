/-
  Contracts of spec.l1Byte, l1Below, l1Once.
-/
import Derived.Test.YtefhdhblcaopiaaCv
namespace Go.Proofs.Ytefhdhblcaopiaa.Cu
open Go.RowKit

theorem heap_set {w : World} {b : Nat} {x y z : Value} {T : Nat} (h : w.heap[b]? = some (.cells #[x, y, z] T (0, 0))) (v : Value) :
    (w.setCell ⟨b, 2, none⟩ v).heap[b]? = some (.cells #[x, y, v] T (0, 0)) ∧ (w.setCell ⟨b, 1, none⟩ v).heap[b]? = some (.cells #[x, v, z] T (0, 0)) := by
  constructor <;> simp [World.setCell, Array.getElem?_modify, h]

theorem byte_any (B b : Nat) (w : World) (hc : Cur B b w) : Calls Try.prog 122 #[.pointer (some ⟨b, 0, none⟩)] w (Draws B b w 0 255) := by
  have hlt := hc.lt
  obtain ⟨hB, a, len, cap, i, h, i0, i1, hl, hb, hh⟩ := hc
  obtain ⟨c0, c1, c2, f1, f2⟩ := cells_of hh
  by_cases hi : i < (len : Int)
  · obtain ⟨n, rfl⟩ := Int.eq_ofNat_of_zero_le i0
    obtain ⟨ab, ao, rfl, hab, hcell⟩ := hb (by omega)
    obtain ⟨z, hz, z0, z1⟩ := hcell n (by omega)
    refine (byte_step b ab ao cap len n h z w c0 c1 c2 f1 f2 hi hl (by omega) hz z0 z1).mono ?_
    rintro e w' ⟨x, h', rfl, x0, x1, hw, ho, ht, hp⟩
    have hset := (heap_set ((heap_set hh (.int .i64 h')).1) (.int .i64 ((n : Int) + 1))).2
    have hoth : ∀ k, k ≠ b → w'.heap[k]? = w.heap[k]? := fun k hk => by
      rw [hw, Below.heap_setCell _ _ _ _ (by simpa using hk), Below.heap_setCell _ _ _ _ (by simpa using hk)]
    refine ⟨x, rfl, x0, x1, ⟨hB, some ⟨ab, ao, none⟩, len, cap, (n : Int) + 1, h', by omega, by omega, hl, ?_, by rw [hw]; exact hset⟩, ⟨ho, ht, hp, by rw [hw]; simp [World.setCell], fun k _ hk => hoth k hk⟩⟩
    exact hb.carry fun k hk => hoth k (by omega)
  · refine (byte_end b a cap len i h w c0 c1 c2 f2 hi).mono ?_
    rintro e w' ⟨x, h', rfl, x0, x1, hw, ho, ht, hp⟩
    have hset := (heap_set hh (.int .i64 h')).1
    have hoth : ∀ k, k ≠ b → w'.heap[k]? = w.heap[k]? := fun k hk => by
      rw [hw, Below.heap_setCell _ _ _ _ (by simpa using hk)]
    refine ⟨x, rfl, x0, x1, ⟨hB, a, len, cap, i, h', i0, i1, hl, ?_, by rw [hw]; exact hset⟩, ⟨ho, ht, hp, by rw [hw]; simp [World.setCell], fun k _ hk => hoth k hk⟩⟩
    exact hb.carry fun k hk => hoth k (by omega)

set_option maxRecDepth 100000 in
set_option maxHeartbeats 400000 in
theorem below_small (B b : Nat) (n : Int) (w : World) (hc : Cur B b w) (n1 : 1 ≤ n) (n2 : n ≤ 256) : Calls Try.prog 75 #[.pointer (some ⟨b, 0, none⟩), .int .i64 n] w (Draws B b w 0 (n - 1)) := by
  have HC := Lib.hid hc; clear hc
  go_enter Try.func75, Try.ntmps75
  go_wp2_with (go_at_call 122; refine (byte_any B b _ HC.out).mono ?_; rintro e w' ⟨x, rfl, x0, x1, hc1, hw1⟩)
  go_ret
  exact ⟨_, rfl, Int.emod_nonneg _ (by omega), by have := Int.emod_lt_of_pos x (show 0 < n by omega); omega, hc1, hw1⟩

set_option maxRecDepth 100000 in
set_option maxHeartbeats 1000000 in
theorem below_big (B b : Nat) (n : Int) (w : World) (hc : Cur B b w) (n1 : 256 < n) (n2 : n ≤ 9223372036854775807) : Calls Try.prog 75 #[.pointer (some ⟨b, 0, none⟩), .int .i64 n] w (Draws B b w 0 (n - 1)) := by
  have HC := Lib.hid hc; clear hc
  go_enter Try.func75, Try.ntmps75
  go_wp2_with fail
  refine (byte_any B b _ HC.out).mono ?_; rintro e w1 ⟨x, rfl, x0, x1, hc1, hw1⟩
  go_wp2_with fail
  refine (byte_any B b _ hc1).mono ?_; rintro e w2 ⟨y, rfl, y0, y1, hc2, hw2⟩
  go_wp2_with fail
  refine (byte_any B b _ hc2).mono ?_; rintro e w3 ⟨z, rfl, z0, z1, hc3, hw3⟩
  go_wp2_with fail
  refine (byte_any B b _ hc3).mono ?_; rintro e w4 ⟨u, rfl, u0, u1, hc4, hw4⟩
  go_wp2_with fail
  go_ret
  exact ⟨_, rfl, Int.emod_nonneg _ (by omega), by have := Int.emod_lt_of_pos (x * 16777216 + y * 65536 + z * 256 + u) (show 0 < n by omega); omega, hc4, ((hw1.trans hw2).trans hw3).trans hw4⟩

theorem below_any (B b : Nat) (n : Int) (w : World) (hc : Cur B b w) (n1 : 1 ≤ n) (n2 : n ≤ 9223372036854775807) : Calls Try.prog 75 #[.pointer (some ⟨b, 0, none⟩), .int .i64 n] w (Draws B b w 0 (n - 1)) := by
  by_cases h : n ≤ 256
  · exact below_small B b n w hc n1 h
  · exact below_big B b n w hc (by omega) n2

/-- A draw of a truth value. -/
def DrawsB (B b : Nat) (w : World) (e : Ending) (w' : World) : Prop := ∃ t : Bool, e = .returned (.bool t) ∧ Cur B b w' ∧ But b w w'
theorem once_any (B b : Nat) (n : Int) (w : World) (hc : Cur B b w) (n1 : 1 ≤ n) (n2 : n ≤ 9223372036854775807) : Calls Try.prog 76 #[.pointer (some ⟨b, 0, none⟩), .int .i64 n] w (DrawsB B b w) := by
  have HC := Lib.hid hc; clear hc
  go_enter Try.func76, Try.ntmps76
  go_wp2_with (go_at_call 75; refine (below_any B b _ _ HC.out n1 n2).mono ?_; rintro e w' ⟨x, rfl, x0, x1, hc1, hw1⟩)
  go_ret
  exact ⟨_, rfl, hc1, hw1⟩
end Go.Proofs.Ytefhdhblcaopiaa.Cu
