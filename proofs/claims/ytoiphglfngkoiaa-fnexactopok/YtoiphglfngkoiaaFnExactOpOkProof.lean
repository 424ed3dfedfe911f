/-
  Proved: for every input the Go function laws.FnExactOpOk returns true, and each argument reads afterwards as it read before.
  Conditions: none beyond those of the given row.
-/
import Derived.Test.YtoiphglfngkoiaaRows
import Derived.WalkKit
import Derived.ProofKit
import Derived.OpenShut
import Derived.ShutString
import Derived.Carry
import Derived.Below
import Derived.Test.YtoiphglfngkoiaaOi
import Derived.Test.YtoiphglfngkoiaaOj
namespace Go.Proofs.Ytoiphglfngkoiaa.fnExactOpOk
open Go.ChangeShapes Go.WideShapes Go.ChangeAt Go.RowKit
open Go.ChangeMaps (open_string shut_string)
set_option linter.unusedVariables false

theorem laidOut : laidOutB Try.prog = true := by kernel_rfl
theorem own : ownKnob Try.prog.godebug = none := by kernel_rfl

open Kp Cl
set_option maxHeartbeats 1000000 in
theorem walk (k n : Int) (m : Tk) (hm : m.length ≤ 9223372036854775807) (w : World) :
    Calls Try.prog 3 #[.agg #[.int .i64 k, .int .i64 n, .string (tx m)]] w fun e w' => e = .returned (.bool true) ∧ Below w.heap.size w w' := by
  have HB := Lib.hid (bel1 w (.cells #[.int .i64 k, .int .i64 n, .string (tx m)] 23))
  have HX := Lib.hid (Q3.made k n m w 23)
  by_cases hs : szO m 1048576 < 0
  · go_enter Try.func3, Try.ntmps3
    go_wp2_with fail
    refine (szOp_any k n 1048576 m _ hm (by decide) (by decide)).mono ?_; rintro e w1 ⟨rfl, b1⟩
    have B1 := Lib.hid (bel_tr HB.out b1 (Nat.le_refl _))
    have X1 := Lib.hid (HX.out.next b1)
    obtain ⟨x0, x1, x2, -, -, -, -⟩ := id X1.out
    clear b1
    go_wp2_with fail
    go_ret
    exact ⟨rfl, B1.out⟩
  · have hml : m.length ≤ 9223372036854775806 := by
      unfold szO at hs
      split at hs <;> omega
    go_enter Try.func3, Try.ntmps3
    go_wp2_with fail
    refine (szOp_any k n 1048576 m _ hm (by decide) (by decide)).mono ?_; rintro e w1 ⟨rfl, b1⟩
    have B1 := Lib.hid (bel_tr HB.out b1 (Nat.le_refl _))
    have X1 := Lib.hid (HX.out.next b1)
    obtain ⟨x0, x1, x2, -, -, -, -⟩ := id X1.out
    clear b1
    go_wp2_with fail
    refine (toOp_any k n m _).mono ?_; rintro e w2 ⟨rfl, b2⟩
    have B2 := Lib.hid (bel_tr B1.out b2 (Nat.le_refl _))
    have X2 := Lib.hid (X1.out.next b2)
    clear b2 x0 x1 x2
    go_wp2_with fail
    refine (specOp_any k n m _ hml).mono ?_; rintro e w3 ⟨rfl, b3⟩
    have B3 := Lib.hid (bel_tr B2.out b3 (Nat.le_refl _))
    have X3 := Lib.hid (X2.out.next b3)
    obtain ⟨x0, x1, x2, -, -, -, -⟩ := id X3.out
    clear b3
    go_wp2_with fail
    refine (toOp_any k n m _).mono ?_; rintro e w4 ⟨rfl, b4⟩
    have B4 := Lib.hid (bel_tr B3.out b4 (Nat.le_refl _)); clear b4 x0 x1 x2
    go_wp2_with fail
    refine (implOp_any k n m _ hml).mono ?_; rintro e w5 ⟨rfl, b5⟩
    have B5 := Lib.hid (bel_tr B4.out b5 (Nat.le_refl _)); clear b5
    have hself : (!(opB ⟨k, n, m⟩ == opB ⟨k, n, m⟩)) = false := by simp
    go_wp2_with fail
    go_ret
    exact ⟨rfl, B5.out⟩

set_option maxRecDepth 100000 in
theorem lifted (os : Os) (started : os.Started) (H : Type) (enc : TypeId × Value → H) :
    ReturnsInHanded {} Try.checked os 3 .any (Rows.fnExactOpOkSpec.pre6 enc Try.prog Try.f3 Rows.fnExactOpOkRow.domain false) (Rows.fnExactOpOkSpec.post enc Try.prog Try.f3 false true false false) := by
  refine returnsInHanded_of_change (C := Try.checked) own started (by kernel_rfl) Try.func3
    (ChangeSpec.witness6 (enc := enc) (C := Try.checked) false ⟨#[], #[.agg #[.int .i64 0, .int .i64 0, .string ByteArray.empty]], []⟩ 8 (by kernel_rfl) (by kernel_rfl) (by kernel_rfl) (by kernel_rfl)) ?_
  intro W base args ds gs before hval0 hW hcnd _
  have hval : ∀ (j : Nat) t v, Try.f3.params[j]? = some t → args[j]? = some v → Value.okWide Try.prog W .any base t v := hval0
  have hW' := hW
  obtain ⟨p, q, hA0, hV, rfl, hfz, hnd⟩ := hW
  have hA : DataW.TrodAll enc Try.prog W 0 (fun _ => true) true Try.f3.params.toList args.toList ds p := hA0
  rw [Try.params3] at hA hval
  obtain ⟨v0, vs0, d0, ds0, p0, q0, hargs, rfl, rfl, h0, r0⟩ := trodAll_cons hA
  obtain ⟨rfl, rfl, rfl⟩ := trodAll_nil r0
  obtain rfl : args = #[v0] := by cases args; simp_all
  obtain ⟨rfl, rfl⟩ := trodVars_none hV
  have k0 := h0
  have lt0 : ∀ x ∈ p0, x.block < W.heap.size := by obtain ⟨m, hm⟩ := k0; exact DataW.trod_lt m _ _ _ hm
  clear hA0 hval0
  obtain ⟨k, n, m, rfl, hm, -, -⟩ := Fr.openOp (hval 0 23 v0 rfl rfl) h0
  refine (walk k n m (by unfold maxLen at hm; omega) W).mono fun e W' ⟨he, bel⟩ => ?_
  subst he
  exact ⟨_, rfl, _, _, _, [], _, [], hW', trodAll_mk1 (shut_bool Try.underlying4 _), (trodAll_cons_mk (Below.trod laidOut (by kernel_rfl) (of_decide_eq_true (by kernel_rfl)) k0 bel lt0) trodAll_mk0), rfl, bel.frame _, fun h => by cases h⟩

theorem over : Rows.fnExactOpOkRow.holds Try.pinned (OpenSpec.ofChange Rows.fnExactOpOkSpec) :=
  OpenClaim.holds_of_wide 3 Try.f3 rfl rfl rfl rfl rfl rfl rfl ⟨rfl, rfl, rfl, rfl, rfl⟩ rfl rfl rfl rfl rfl (by kernel_rfl) Try.func3 (by kernel_rfl)
    (of_decide_eq_true (by kernel_rfl)) (by unfold Func.isWrapper; first | (rw [if_pos (by decide +kernel)]; kernel_rfl) | (rw [if_neg (by decide +kernel)]; exact ⟨rfl, rfl⟩))
    (fun os started H enc _ => lifted os started H enc)

theorem proved : Rows.FnExactOpOkSaid := over
#print axioms proved
end Go.Proofs.Ytoiphglfngkoiaa.fnExactOpOk
