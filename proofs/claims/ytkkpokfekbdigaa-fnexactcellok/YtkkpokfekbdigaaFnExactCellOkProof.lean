/-
  Proved: for every input the Go function laws.FnExactCellOk returns true, and each argument reads afterwards as it read before.
  Conditions: none beyond those of the given row.
-/
import Derived.Test.YtkkpokfekbdigaaRows
import Derived.WalkKit
import Derived.ProofKit
import Derived.OpenShut
import Derived.ShutString
import Derived.Carry
import Derived.Below
import Derived.Test.YtkkpokfekbdigaaCa
import Derived.Test.YtkkpokfekbdigaaFr
namespace Go.Proofs.Ytkkpokfekbdigaa.fnExactCellOk
open Go.ChangeShapes Go.WideShapes Go.ChangeAt Go.RowKit
open Go.ChangeMaps (open_string shut_string)
set_option linter.unusedVariables false

theorem laidOut : laidOutB Try.prog = true := by kernel_rfl
theorem own : ownKnob Try.prog.godebug = none := by kernel_rfl

open Kp Cl
theorem szL_le {r b : ByteArray} {n : Int} (h : 0 ≤ szL r b n) : (r.size : Int) ≤ n ∧ (b.size : Int) ≤ n ∧ szL r b n ≤ n := by
  unfold szL at h ⊢
  split at h
  · omega
  · split at h
    · omega
    · rename_i h1 h2
      rw [if_neg h1, if_neg h2]; omega
set_option maxHeartbeats 1000000 in
theorem walk (r b : ByteArray) (t v : Int) (g : Bool) (hr : r.size ≤ 9223372036854775807) (hb : b.size ≤ 9223372036854775807) (w : World) :
    Calls Try.prog 7 #[.agg #[.string r, .string b, .int .i64 t, .int .i64 v, .bool g]] w fun e w' => e = .returned (.bool true) ∧ Below w.heap.size w w' := by
  have HB := Lib.hid (bel1 w)
  have HX := Lib.hid (Bc.made r b t v g w)
  by_cases hs : szL r b 1048576 < 0
  · go_enter Try.func7, Try.ntmps7
    go_wp2_with fail
    refine (szCell_any r b t v 1048576 g _ hr hb (by decide) (by decide)).mono ?_; rintro e w1 ⟨rfl, b1⟩
    go_wp2_with fail
    go_ret
    exact ⟨rfl, bel_tr (HB.out _) b1 (Nat.le_refl _)⟩
  · have HS := Lib.hid (szL_le (Int.not_lt.1 hs))
    go_enter Try.func7, Try.ntmps7
    go_wp2_with fail
    refine (szCell_any r b t v 1048576 g _ hr hb (by decide) (by decide)).mono ?_; rintro e w1 ⟨rfl, b1⟩
    have X1 := (HX.out _).next b1
    have B1 := Lib.hid (bel_tr (HB.out _) b1 (Nat.le_refl _)); clear b1
    obtain ⟨x0, x1, x2, x3, x4, -⟩ := id X1
    have HX1 := Lib.hid X1; clear X1
    go_wp2_with fail
    refine (toCell_any r b t v g _).mono ?_; rintro e w2 ⟨rfl, b2⟩
    have B2 := Lib.hid (bel_tr B1.out b2 (Nat.le_refl _))
    have X2 := HX1.out.next b2; clear b2 x0 x1 x2 x3 x4 HX1 B1
    have HX2 := Lib.hid X2; clear X2
    go_wp2_with fail
    refine (specCell_any r b t v g _ (by have := HS.out.1; omega) (by have := HS.out.2.1; omega)).mono ?_; rintro e w3 ⟨rfl, b3⟩
    have X3 := HX2.out.next b3
    have B3 := Lib.hid (bel_tr B2.out b3 (Nat.le_refl _)); clear b3
    obtain ⟨x0, x1, x2, x3, x4, -⟩ := id X3
    have HX3 := Lib.hid X3; clear X3
    go_wp2_with fail
    refine (toCell_any r b t v g _).mono ?_; rintro e w4 ⟨rfl, b4⟩
    have B4 := Lib.hid (bel_tr B3.out b4 (Nat.le_refl _)); clear b4 x0 x1 x2 x3 x4
    go_wp2_with fail
    refine (implCell_any r b t v g _).mono ?_; rintro e w5 ⟨rfl, b5⟩
    have B5 := Lib.hid (bel_tr B4.out b5 (Nat.le_refl _)); clear b5
    have hself : (!(cellB r b t v g == cellB r b t v g)) = false := by simp
    go_wp2_with fail
    go_ret
    exact ⟨rfl, B5.out⟩

set_option maxRecDepth 100000 in
theorem lifted (os : Os) (started : os.Started) (H : Type) (enc : TypeId × Value → H) :
    ReturnsInHanded {} Try.checked os 7 .any (Rows.fnExactCellOkSpec.pre6 enc Try.prog Try.f7 Rows.fnExactCellOkRow.domain false) (Rows.fnExactCellOkSpec.post enc Try.prog Try.f7 false true false false) := by
  refine returnsInHanded_of_change (C := Try.checked) own started (by kernel_rfl) Try.func7
    (ChangeSpec.witness6 (enc := enc) (C := Try.checked) false ⟨#[], #[.agg #[.string ByteArray.empty, .string ByteArray.empty, .int .i64 0, .int .i64 0, .bool false]], []⟩ 8 (by kernel_rfl) (by kernel_rfl) (by kernel_rfl) (by kernel_rfl)) ?_
  intro W base args ds gs before hval0 hW hcnd _
  have hval : ∀ (j : Nat) t v, Try.f7.params[j]? = some t → args[j]? = some v → Value.okWide Try.prog W .any base t v := hval0
  have hW' := hW
  obtain ⟨p, q, hA0, hV, rfl, hfz, hnd⟩ := hW
  have hA : DataW.TrodAll enc Try.prog W 0 (fun _ => true) true Try.f7.params.toList args.toList ds p := hA0
  rw [Try.params7] at hA hval
  obtain ⟨v0, vs0, d0, ds0, p0, q0, hargs, rfl, rfl, h0, r0⟩ := trodAll_cons hA
  obtain ⟨rfl, rfl, rfl⟩ := trodAll_nil r0
  obtain rfl : args = #[v0] := by cases args; simp_all
  obtain ⟨rfl, rfl⟩ := trodVars_none hV
  have k0 := h0
  have lt0 : ∀ x ∈ p0, x.block < W.heap.size := by obtain ⟨m, hm⟩ := k0; exact DataW.trod_lt m _ _ _ hm
  clear hA0 hval0
  obtain ⟨r, b, t, u, g, rfl, hr, hb, -, -⟩ := Fr.openCell (hval 0 56 v0 rfl rfl) h0
  refine (walk r b t u g (by unfold maxLen at hr; omega) (by unfold maxLen at hb; omega) W).mono fun e W' ⟨he, bel⟩ => ?_
  subst he
  exact ⟨_, rfl, _, _, _, [], _, [], hW', trodAll_mk1 (shut_bool Try.underlying4 _), (trodAll_cons_mk (Below.trod laidOut (by kernel_rfl) (of_decide_eq_true (by kernel_rfl)) k0 bel lt0) trodAll_mk0), rfl, bel.frame _, fun h => by cases h⟩

theorem over : Rows.fnExactCellOkRow.holds Try.pinned (OpenSpec.ofChange Rows.fnExactCellOkSpec) :=
  OpenClaim.holds_of_wide 7 Try.f7 rfl rfl rfl rfl rfl rfl rfl ⟨rfl, rfl, rfl, rfl, rfl⟩ rfl rfl rfl rfl rfl (by kernel_rfl) Try.func7 (by kernel_rfl)
    (of_decide_eq_true (by kernel_rfl)) (by unfold Func.isWrapper; first | (rw [if_pos (by decide +kernel)]; kernel_rfl) | (rw [if_neg (by decide +kernel)]; exact ⟨rfl, rfl⟩))
    (fun os started H enc _ => lifted os started H enc)

theorem proved : Rows.FnExactCellOkSaid := over
#print axioms proved
end Go.Proofs.Ytkkpokfekbdigaa.fnExactCellOk
