/-
  Contracts of spec.l1DrawWord, l1DrawAny, l1New, DrawWordOk.
-/
import Derived.Test.YtefhdhblcaopiaaCw
namespace Go.Proofs.Ytefhdhblcaopiaa.Cu
open Go.RowKit

/-- A slice literal of int64, each from lo to hi, kept while a cursor draws. -/
theorem pick_cell {w w1 : World} {b T : Nat} {vs : Array Value} {lo hi : Int} (hb : b < w.heap.size) (h : But b (w.alloc (.cells vs T)) w1) (hv : ∀ k, k < vs.size → ∃ v : Int, vs[k]? = some (.int .i64 v) ∧ lo ≤ v ∧ v ≤ hi) (k : Nat) (hk : k < vs.size) :
    ∃ v : Int, w1.cell? ⟨w.heap.size, k, none⟩ = some (.int .i64 v) ∧ lo ≤ v ∧ v ≤ hi := by
  obtain ⟨v, h1, h2⟩ := hv k hk
  refine ⟨v, ?_, h2⟩
  have hp : (w.alloc (.cells vs T)).heap[w.heap.size]? = some (.cells vs T) := by show (w.heap.push _)[w.heap.size]? = _; simp
  have hc : (w.alloc (.cells vs T)).cell? ⟨w.heap.size, k, none⟩ = some (.int .i64 v) := by simp only [World.cell?, hp]; exact h1
  exact (h.cell (p := ⟨w.heap.size, k, none⟩) (by simp) (by show w.heap.size ≠ b; omega)).trans hc

set_option maxRecDepth 100000 in
set_option maxHeartbeats 1000000 in
theorem drawWord_any (B b : Nat) (w : World) (hc : Cur B b w) : Calls Try.prog 133 #[.pointer (some ⟨b, 0, none⟩)] w (Draws B b w (-2147483648) 2147483647) := by
  have HC := Lib.hid hc; clear hc
  go_enter Try.func133, Try.ntmps133
  go_wp2_with fail
  refine (below_any B b _ _ HC.out (by decide) (by decide)).mono ?_; rintro e w1 ⟨x, rfl, x0, x1, hc1, hw1⟩
  by_cases h0 : x = 0
  · subst h0
    go_wp2_with fail
    have hlt := hc1.lt
    refine (below_any B b _ _ (hc1.alloc _) (by decide) (by decide)).mono ?_; rintro e w2 ⟨y, rfl, y0, y1, hc2, hw2⟩
    obtain ⟨n, rfl⟩ := Int.eq_ofNat_of_zero_le y0
    obtain ⟨v, hv, v0, v1⟩ := pick_cell (lo := -2147483648) (hi := 2147483647) hlt hw2 (fun k hk => by
      have hk : k < 6 := hk
      match k, hk with
      | 0, _ => exact ⟨_, rfl, by decide, by decide⟩
      | 1, _ => exact ⟨_, rfl, by decide, by decide⟩
      | 2, _ => exact ⟨_, rfl, by decide, by decide⟩
      | 3, _ => exact ⟨_, rfl, by decide, by decide⟩
      | 4, _ => exact ⟨_, rfl, by decide, by decide⟩
      | 5, _ => exact ⟨_, rfl, by decide, by decide⟩) n (by show n < 6; omega)
    have n1 : (n : Int) < 6 := by omega
    go_wp2_with fail
    go_ret
    exact ⟨_, rfl, v0, v1, hc2, hw1.trans (((But.refl b w1).alloc _).trans hw2)⟩
  by_cases h1 : x = 1
  · subst h1
    go_wp2_with fail
    refine (below_any B b _ _ hc1 (by decide) (by decide)).mono ?_; rintro e w2 ⟨y, rfl, y0, y1, hc2, hw2⟩
    go_wp2_with fail
    go_ret
    exact ⟨_, rfl, by omega, by omega, hc2, hw1.trans hw2⟩
  · have e0 : (x == 0) = false := beq_eq_false_iff_ne.2 h0
    have e1 : (x == 1) = false := beq_eq_false_iff_ne.2 h1
    go_wp2_with fail
    refine (below_any B b _ _ hc1 (by decide) (by decide)).mono ?_; rintro e w2 ⟨y, rfl, y0, y1, hc2, hw2⟩
    go_wp2_with fail
    go_ret
    exact ⟨_, rfl, by omega, by omega, hc2, hw1.trans hw2⟩
set_option maxRecDepth 100000 in
set_option maxHeartbeats 1000000 in
theorem drawAny_any (B b : Nat) (w : World) (hc : Cur B b w) : Calls Try.prog 108 #[.pointer (some ⟨b, 0, none⟩)] w (Draws B b w (-4611686018427387904) 4611686018427387904) := by
  have HC := Lib.hid hc; clear hc
  go_enter Try.func108, Try.ntmps108
  go_wp2_with fail
  refine (once_any B b _ _ HC.out (by decide) (by decide)).mono ?_; rintro e w1 ⟨t, rfl, hc1, hw1⟩
  cases t
  · go_wp2_with fail
    refine (drawWord_any B b _ hc1).mono ?_; rintro e w2 ⟨y, rfl, y0, y1, hc2, hw2⟩
    go_wp2_with fail
    go_ret
    exact ⟨_, rfl, by omega, by omega, hc2, hw1.trans hw2⟩
  · go_wp2_with fail
    have hlt := hc1.lt
    refine (below_any B b _ _ (hc1.alloc _) (by decide) (by decide)).mono ?_; rintro e w2 ⟨y, rfl, y0, y1, hc2, hw2⟩
    obtain ⟨n, rfl⟩ := Int.eq_ofNat_of_zero_le y0
    obtain ⟨v, hv, v0, v1⟩ := pick_cell (lo := -4611686018427387904) (hi := 4611686018427387904) hlt hw2 (fun k hk => by
      have hk : k < 4 := hk
      match k, hk with
      | 0, _ => exact ⟨_, rfl, by decide, by decide⟩
      | 1, _ => exact ⟨_, rfl, by decide, by decide⟩
      | 2, _ => exact ⟨_, rfl, by decide, by decide⟩
      | 3, _ => exact ⟨_, rfl, by decide, by decide⟩) n (by show n < 4; omega)
    have n1 : (n : Int) < 4 := by omega
    go_wp2_with fail
    go_ret
    exact ⟨_, rfl, v0, v1, hc2, hw1.trans (((But.refl b w1).alloc _).trans hw2)⟩

/-- The bytes behind a slice that came in. -/
def IsBytes (w : World) (a : Option Addr) (len : Nat) : Prop :=
  len ≤ 9223372036854775806 ∧ Bytes w w.heap.size a len

/-- What l1New leaves: a cursor in a new block. -/
def NewCur (w : World) (e : Ending) (w' : World) : Prop := ∃ b, e = .returned (.pointer (some ⟨b, 0, none⟩)) ∧ Cur w.heap.size b w' ∧ Below w.heap.size w w'
set_option maxRecDepth 100000 in
set_option maxHeartbeats 1000000 in
theorem new_any (w : World) (a : Option Addr) (len cap : Nat) (hb : IsBytes w a len) (hl : len ≤ 4096) : Calls Try.prog 56 #[.slice a len cap] w (NewCur w) := by
  have HB := Lib.hid hb; clear hb
  have A := and30
  go_enter Try.func56, Try.ntmps56
  go_wp2
  go_loop [3, 4] (fun h i => ∃ (k : Nat) (g : Int), k ≤ len ∧ i = .int .i64 k ∧ h = .int .i64 g ∧ 0 ≤ g ∧ g ≤ 2000000000) (fun _ i => len - (intOf i).toNat)
  case atStart => exact ⟨0, _, Nat.zero_le _, rfl, rfl, by omega, by omega⟩
  case round =>
    obtain ⟨k, g, hk, rfl, rfl, g0, g1⟩ := hrel
    by_cases hlt : k < len
    · obtain ⟨ab, ao, ha, hab, hcell⟩ := HB.out.2 (by omega)
      subst ha
      obtain ⟨z, hz, z0, z1⟩ := hcell k hlt
      clear hcell
      go_wp2
      go_round
      case rel => exact ⟨k + 1, _, by omega, by go_num, rfl, Int.emod_nonneg _ (by decide), by omega⟩
      case measure => simp [intOf]; omega
    · go_wp2
      go_ret
      refine ⟨w.heap.size, rfl, ⟨Nat.le_refl _, a, len, cap, 0, g, Int.le_refl _, by omega, by omega, HB.out.2.carry (fun j hj => Below.heap_alloc _ _ _ hj), ?_⟩, (Below.refl _ _).alloc (Nat.le_refl _) _⟩
      show (w.heap.push _)[w.heap.size]? = _
      simp

/-- A drawn int64, in a world that has only grown. -/
def Drawn (w : World) (lo hi : Int) (e : Ending) (w' : World) : Prop := ∃ x : Int, e = .returned (.int .i64 x) ∧ lo ≤ x ∧ x ≤ hi ∧ Below w.heap.size w w'
end Go.Proofs.Ytefhdhblcaopiaa.Cu
