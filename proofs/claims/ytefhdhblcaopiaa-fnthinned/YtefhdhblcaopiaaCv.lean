/-
  The walk of spec.l1Byte: some byte, whatever the cursor holds.
-/
import Derived.Test.YtefhdhblcaopiaaCu
namespace Go.Proofs.Ytefhdhblcaopiaa.Cu
open Go.RowKit

/-- What l1Byte leaves at the end of the bytes: the mix has turned. -/
def EndOf (b : Nat) (w : World) (e : Ending) (w' : World) : Prop := ∃ x h' : Int, e = .returned (.int .i64 x) ∧ 0 ≤ x ∧ x ≤ 255 ∧ w'.heap = (w.setCell ⟨b, 2, none⟩ (.int .i64 h')).heap ∧ w'.os = w.os ∧ w'.tape = w.tape ∧ w'.output = w.output
/-- What it leaves before their end: the place too. -/
def StepOf (b : Nat) (i : Int) (w : World) (e : Ending) (w' : World) : Prop := ∃ x h' : Int, e = .returned (.int .i64 x) ∧ 0 ≤ x ∧ x ≤ 255 ∧ w'.heap = ((w.setCell ⟨b, 2, none⟩ (.int .i64 h')).setCell ⟨b, 1, none⟩ (.int .i64 (i + 1))).heap ∧ w'.os = w.os ∧ w'.tape = w.tape ∧ w'.output = w.output

set_option maxRecDepth 100000 in
set_option maxHeartbeats 1000000 in
theorem byte_end (b : Nat) (a : Option Addr) (cap len : Nat) (i h : Int) (w : World) (h0 : w.cell? ⟨b, 0, none⟩ = some (.slice a len cap)) (h1 : w.cell? ⟨b, 1, none⟩ = some (.int .i64 i)) (h2 : w.cell? ⟨b, 2, none⟩ = some (.int .i64 h)) (f2 : w.frozen? ⟨b, 2, none⟩ = false)
    (hi : ¬ i < (len : Int)) :
    Calls Try.prog 122 #[.pointer (some ⟨b, 0, none⟩)] w (EndOf b w) := by
  have A := and255
  go_enter Try.func122, Try.ntmps122
  go_wp2
  go_quiet (fail)
  go_wp2
  go_quiet (fail)
  go_wp2
  go_ret
  exact ⟨_, _, rfl, Int.emod_nonneg _ (by decide), by omega, rfl, rfl, rfl, rfl⟩
set_option maxRecDepth 100000 in
set_option maxHeartbeats 1000000 in
theorem byte_step (b : Nat) (ab ao cap len : Nat) (i : Nat) (h z : Int) (w : World) (h0 : w.cell? ⟨b, 0, none⟩ = some (.slice (some ⟨ab, ao, none⟩) len cap)) (h1 : w.cell? ⟨b, 1, none⟩ = some (.int .i64 (i : Int))) (h2 : w.cell? ⟨b, 2, none⟩ = some (.int .i64 h)) (f1 : w.frozen? ⟨b, 1, none⟩ = false) (f2 : w.frozen? ⟨b, 2, none⟩ = false)
    (hi : (i : Int) < (len : Int)) (hl : len ≤ 9223372036854775806) (hne : ab ≠ b) (hz : w.cell? ⟨ab, ao + i, none⟩ = some (.int .u8 z)) (z0 : 0 ≤ z) (z1 : z ≤ 255) :
    Calls Try.prog 122 #[.pointer (some ⟨b, 0, none⟩)] w (StepOf b i w) := by
  have A := and255
  have p0 : (0 : Int) ≤ (i : Int) := by omega
  have p1 : (i : Int) + 1 ≤ 9223372036854775807 := by omega
  go_enter Try.func122, Try.ntmps122
  go_wp2
  go_quiet (fail)
  go_wp2
  go_quiet (fail)
  go_wp2
  go_quiet (fail)
  go_wp2
  go_ret
  exact ⟨_, _, rfl, Int.emod_nonneg _ (by decide), by omega, rfl, rfl, rfl, rfl⟩
end Go.Proofs.Ytefhdhblcaopiaa.Cu
