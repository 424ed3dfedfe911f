/-
  Contracts of spec.l1DrawWord, l1DrawAny, l1New, DrawWordOk.
-/
import Derived.Test.YthlcdbmcpjipdaaDoorCw
namespace Go.Proofs.YthlcdbmcpjipdaaDoor.Cu
open Go.RowKit

/-- A slice literal of int64, each from lo to hi, kept while a cursor draws. -/
theorem pick_cell {w w1 : World} {b T : Nat} {vs : Array Value} {lo hi : Int} (hb : b < w.heap.size) (h : But b (w.alloc (.cells vs T)) w1) (hv : ∀ k, k < vs.size → ∃ v : Int, vs[k]? = some (.int .i64 v) ∧ lo ≤ v ∧ v ≤ hi) (k : Nat) (hk : k < vs.size) :
    ∃ v : Int, w1.cell? ⟨w.heap.size, k, none⟩ = some (.int .i64 v) ∧ lo ≤ v ∧ v ≤ hi := by
  obtain ⟨v, h1, h2⟩ := hv k hk
  refine ⟨v, ?_, h2⟩
  have hp : (w.alloc (.cells vs T)).heap[w.heap.size]? = some (.cells vs T) := by show (w.heap.push _)[w.heap.size]? = _; simp
  have hc : (w.alloc (.cells vs T)).cell? ⟨w.heap.size, k, none⟩ = some (.int .i64 v) := by simp only [World.cell?, hp]; exact h1
  exact (h.cell (p := ⟨w.heap.size, k, none⟩) (by simp) (by show w.heap.size ≠ b; omega)).trans hc


/-- The bytes behind a slice that came in. -/
def IsBytes (w : World) (a : Option Addr) (len : Nat) : Prop :=
  len ≤ 9223372036854775806 ∧ Bytes w w.heap.size a len

/-- What l1New leaves: a cursor in a new block. -/
def NewCur (w : World) (e : Ending) (w' : World) : Prop := ∃ b, e = .returned (.pointer (some ⟨b, 0, none⟩)) ∧ Cur w.heap.size b w' ∧ Below w.heap.size w w'
set_option maxHeartbeats 1000000 in
theorem new_any (w : World) (a : Option Addr) (len cap : Nat) (hb : IsBytes w a len) (hl : len ≤ 4096) : Calls Tryd.prog 26 #[.slice a len cap] w (NewCur w) := by
  have HB := Lib.hid hb; clear hb
  have A := and30
  go_enter Tryd.func26, Tryd.ntmps26
  go_wp2
  go_loop [3, 4] (fun h i => ∃ (k : Nat) (g : Int), k ≤ len ∧ i = .int .i64 k ∧ h = .int .i64 g ∧ 0 ≤ g ∧ g ≤ 2000000000) (fun _ i => len - (intOf i).toNat)
  case atStart => exact ⟨0, _, Nat.zero_le _, rfl, rfl, by omega, by omega⟩
  case round =>
    obtain ⟨k, g, hk, rfl, rfl, g0, g1⟩ := hrel
    by_cases hlt : k < len
    · obtain ⟨ab, ao, ha, hab, hcell⟩ := HB.out.2 (by omega)
      subst ha
      obtain ⟨z, hz, z0, z1⟩ := hcell k hlt
      clear hcell
      go_wp2
      go_round
      case rel => exact ⟨k + 1, _, by omega, by go_num, rfl, Int.emod_nonneg _ (by decide), by omega⟩
      case measure => simp [intOf]; omega
    · go_wp2
      go_ret
      refine ⟨w.heap.size, rfl, ⟨Nat.le_refl _, a, len, cap, 0, g, Int.le_refl _, by omega, by omega, HB.out.2.carry (fun j hj => Below.heap_alloc _ _ _ hj), ?_⟩, (Below.refl _ _).alloc (Nat.le_refl _) _⟩
      show (w.heap.push _)[w.heap.size]? = _
      simp

/-- A drawn int64, in a world that has only grown. -/
def Drawn (w : World) (lo hi : Int) (e : Ending) (w' : World) : Prop := ∃ x : Int, e = .returned (.int .i64 x) ∧ lo ≤ x ∧ x ≤ hi ∧ Below w.heap.size w w'
end Go.Proofs.YthlcdbmcpjipdaaDoor.Cu
