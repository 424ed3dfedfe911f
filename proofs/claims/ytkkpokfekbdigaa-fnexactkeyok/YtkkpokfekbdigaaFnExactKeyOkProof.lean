/-
  Proved: for every input the Go function laws.FnExactKeyOk returns true, and each argument reads afterwards as it read before.
  Conditions: none beyond those of the given row.
-/
import Derived.Test.YtkkpokfekbdigaaRows
import Derived.WalkKit
import Derived.ProofKit
import Derived.OpenShut
import Derived.ShutString
import Derived.Carry
import Derived.Below
import Derived.Test.YtkkpokfekbdigaaKy
import Derived.Test.YtkkpokfekbdigaaFr
namespace Go.Proofs.Ytkkpokfekbdigaa.fnExactKeyOk
open Go.ChangeShapes Go.WideShapes Go.ChangeAt Go.RowKit
open Go.ChangeMaps (open_string shut_string)
set_option linter.unusedVariables false

theorem laidOut : laidOutB Try.prog = true := by kernel_rfl
theorem own : ownKnob Try.prog.godebug = none := by kernel_rfl

open Kp
set_option maxHeartbeats 1000000 in
theorem walk (r b : ByteArray) (t : Int) (hr : r.size ≤ 9223372036854775807) (hb : b.size ≤ 9223372036854775807) (w : World) :
    Calls Try.prog 6 #[.agg #[.string r, .string b, .int .i64 t]] w fun e w' => e = .returned (.bool true) ∧ Below w.heap.size w w' := by
  have HB := Lib.hid (bel1 w)
  have HX := Lib.hid (Bx.made r b t w)
  by_cases hs : szL r b 1048576 < 0
  · go_enter Try.func6, Try.ntmps6
    go_wp2_with fail
    refine (szKey_any r b t 1048576 _ hr hb (by decide) (by decide)).mono ?_; rintro e w1 ⟨rfl, b1⟩
    go_wp2_with fail
    go_ret
    exact ⟨rfl, bel_tr (HB.out _) b1 (Nat.le_refl _)⟩
  · have hsz : r.size ≤ 1048576 ∧ b.size ≤ 1048576 := by
      unfold szL at hs; split at hs; omega; split at hs; omega; omega
    have HS := Lib.hid hsz; clear hsz
    go_enter Try.func6, Try.ntmps6
    go_wp2_with fail
    refine (szKey_any r b t 1048576 _ hr hb (by decide) (by decide)).mono ?_; rintro e w1 ⟨rfl, b1⟩
    have X1 := (HX.out _).next b1
    have B1 := Lib.hid (bel_tr (HB.out _) b1 (Nat.le_refl _)); clear b1
    obtain ⟨x0, x1, x2, -⟩ := id X1
    have HX1 := Lib.hid X1; clear X1
    go_wp2_with fail
    refine (toKey_any r b t _).mono ?_; rintro e w2 ⟨rfl, b2⟩
    have B2 := Lib.hid (bel_tr B1.out b2 (Nat.le_refl _))
    have X2 := HX1.out.next b2; clear b2 x0 x1 x2 HX1 B1
    have HX2 := Lib.hid X2; clear X2
    go_wp2_with fail
    refine (specKey_any r b t _ (by have := HS.out.1; omega) (by have := HS.out.2; omega)).mono ?_; rintro e w3 ⟨rfl, b3⟩
    have X3 := HX2.out.next b3
    have B3 := Lib.hid (bel_tr B2.out b3 (Nat.le_refl _)); clear b3
    obtain ⟨x0, x1, x2, -⟩ := id X3
    have HX3 := Lib.hid X3; clear X3
    go_wp2_with fail
    refine (toKey_any r b t _).mono ?_; rintro e w4 ⟨rfl, b4⟩
    have B4 := Lib.hid (bel_tr B3.out b4 (Nat.le_refl _)); clear b4 x0 x1 x2
    go_wp2_with fail
    refine (implKey_any r b t _).mono ?_; rintro e w5 ⟨rfl, b5⟩
    have B5 := Lib.hid (bel_tr B4.out b5 (Nat.le_refl _)); clear b5
    have hself : (!(keyB r.data.toList b.data.toList t == keyB r.data.toList b.data.toList t)) = false := by simp
    go_wp2_with fail
    go_ret
    exact ⟨rfl, B5.out⟩

set_option maxRecDepth 100000 in
theorem lifted (os : Os) (started : os.Started) (H : Type) (enc : TypeId × Value → H) :
    ReturnsInHanded {} Try.checked os 6 .any (Rows.fnExactKeyOkSpec.pre6 enc Try.prog Try.f6 Rows.fnExactKeyOkRow.domain false) (Rows.fnExactKeyOkSpec.post enc Try.prog Try.f6 false true false false) := by
  refine returnsInHanded_of_change (C := Try.checked) own started (by kernel_rfl) Try.func6
    (ChangeSpec.witness6 (enc := enc) (C := Try.checked) false ⟨#[], #[.agg #[.string ByteArray.empty, .string ByteArray.empty, .int .i64 0]], []⟩ 8 (by kernel_rfl) (by kernel_rfl) (by kernel_rfl) (by kernel_rfl)) ?_
  intro W base args ds gs before hval0 hW hcnd _
  have hval : ∀ (j : Nat) t v, Try.f6.params[j]? = some t → args[j]? = some v → Value.okWide Try.prog W .any base t v := hval0
  have hW' := hW
  obtain ⟨p, q, hA0, hV, rfl, hfz, hnd⟩ := hW
  have hA : DataW.TrodAll enc Try.prog W 0 (fun _ => true) true Try.f6.params.toList args.toList ds p := hA0
  rw [Try.params6] at hA hval
  obtain ⟨v0, vs0, d0, ds0, p0, q0, hargs, rfl, rfl, h0, r0⟩ := trodAll_cons hA
  obtain ⟨rfl, rfl, rfl⟩ := trodAll_nil r0
  obtain rfl : args = #[v0] := by cases args; simp_all
  obtain ⟨rfl, rfl⟩ := trodVars_none hV
  have k0 := h0
  have lt0 : ∀ x ∈ p0, x.block < W.heap.size := by obtain ⟨m, hm⟩ := k0; exact DataW.trod_lt m _ _ _ hm
  clear hA0 hval0
  obtain ⟨r, b, t, rfl, hr, hb, ht⟩ := Fr.openKey (hval 0 50 v0 rfl rfl) h0
  refine (walk r b t (by unfold maxLen at hr; omega) (by unfold maxLen at hb; omega) W).mono fun e W' ⟨he, bel⟩ => ?_
  subst he
  exact ⟨_, rfl, _, _, _, [], _, [], hW', trodAll_mk1 (shut_bool Try.underlying4 _), (trodAll_cons_mk (Below.trod laidOut (by kernel_rfl) (of_decide_eq_true (by kernel_rfl)) k0 bel lt0) trodAll_mk0), rfl, bel.frame _, fun h => by cases h⟩

theorem over : Rows.fnExactKeyOkRow.holds Try.pinned (OpenSpec.ofChange Rows.fnExactKeyOkSpec) :=
  OpenClaim.holds_of_wide 6 Try.f6 rfl rfl rfl rfl rfl rfl rfl ⟨rfl, rfl, rfl, rfl, rfl⟩ rfl rfl rfl rfl rfl (by kernel_rfl) Try.func6 (by kernel_rfl)
    (of_decide_eq_true (by kernel_rfl)) (by unfold Func.isWrapper; first | (rw [if_pos (by decide +kernel)]; kernel_rfl) | (rw [if_neg (by decide +kernel)]; exact ⟨rfl, rfl⟩))
    (fun os started H enc _ => lifted os started H enc)

theorem proved : Rows.FnExactKeyOkSaid := over
#print axioms proved
end Go.Proofs.Ytkkpokfekbdigaa.fnExactKeyOk
