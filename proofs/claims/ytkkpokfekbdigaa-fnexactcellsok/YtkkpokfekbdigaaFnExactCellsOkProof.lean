/-
  Proved: for every input the Go function laws.FnExactCellsOk returns true, and each argument reads afterwards as it read before.
  Conditions: none beyond those of the given row.
-/
import Derived.Test.YtkkpokfekbdigaaRows
import Derived.WalkKit
import Derived.ProofKit
import Derived.OpenShut
import Derived.ShutString
import Derived.Carry
import Derived.Below
import Derived.Test.YtkkpokfekbdigaaCd
import Derived.Test.YtkkpokfekbdigaaCe
import Derived.Test.YtkkpokfekbdigaaFr
namespace Go.Proofs.Ytkkpokfekbdigaa.fnExactCellsOk
open Go.ChangeShapes Go.WideShapes Go.ChangeAt Go.RowKit
open Go.ChangeMaps (open_string shut_string)
set_option linter.unusedVariables false

theorem laidOut : laidOutB Try.prog = true := by kernel_rfl
theorem own : ownKnob Try.prog.godebug = none := by kernel_rfl

open Kp Cl
theorem mod_of {l : List Cel} {n : Int} (h : ∀ c ∈ l, (c.r.size : Int) ≤ n ∧ (c.b.size : Int) ≤ n) (hn : n ≤ 1048576) : ∀ c ∈ l, c.mod := fun c hc => by
  have := h c hc
  exact ⟨by omega, by omega⟩
set_option maxHeartbeats 4000000 in
theorem walk (w : World) (a : Option Addr) (cap : Nat) (l : List Cel) (hv : Vw w a cap l) (hm : ∀ c ∈ l, c.r.size ≤ 9223372036854775807 ∧ c.b.size ≤ 9223372036854775807) :
    Calls Try.prog 8 #[.slice a l.length cap] w fun e w' => e = .returned (.bool true) ∧ Below w.heap.size w w' := by
  have HV := Lib.hid hv; clear hv
  have HM := Lib.hid hm; clear hm
  go_enter Try.func8, Try.ntmps8
  go_wp2_with fail
  refine (szCellS_any w a cap l 1048576 HV.out HM.out (by decide) (by decide)).mono ?_; rintro e w1 ⟨z, rfl, b1, hz⟩
  have HV1 := Lib.hid (HV.out.below b1)
  have B1 := Lib.hid b1; clear b1
  rcases hz with hz | ⟨z0, z1, hl, hmm⟩
  · go_wp2_with fail
    go_ret
    exact ⟨rfl, B1.out⟩
  · have hll : l.length ≤ 1048576 := by omega
    have HMM := Lib.hid (mod_of hmm (by decide)); clear hmm
    have q0 : ¬ z < 0 := by omega
    go_wp2_with fail
    refine (toCellS_any w1 a cap l HV1.out hll).mono ?_; rintro e w2 ⟨g2, rfl, o2, b2⟩
    have HV2 := Lib.hid (HV1.out.below b2)
    have B2 := Lib.hid (bel_tr B1.out b2 (Nat.le_refl _)); clear b2
    obtain ⟨a2, c2, e2, v2, -⟩ := o2.view
    cases e2
    have HW2 := Lib.hid v2; clear v2 o2
    go_wp2_with fail
    refine (specCells_any w2 _ _ l HW2.out HMM.out (by omega)).mono ?_; rintro e w3 ⟨rfl, b3⟩
    have HV3 := Lib.hid (HV2.out.below b3)
    have B3 := Lib.hid (bel_tr B2.out b3 (Nat.le_refl _)); clear b3
    go_wp2_with fail
    refine (toCellS_any w3 a cap l HV3.out hll).mono ?_; rintro e w4 ⟨g4, rfl, o4, b4⟩
    have HV4 := Lib.hid (HV3.out.below b4)
    have B4 := Lib.hid (bel_tr B3.out b4 (Nat.le_refl _)); clear b4
    obtain ⟨a4, c4, e4, v4, -⟩ := o4.view
    cases e4
    have HW4 := Lib.hid v4; clear v4 o4
    go_wp2_with fail
    refine (implCells_any w4 _ _ l HW4.out (by omega)).mono ?_; rintro e w5 ⟨rfl, b5⟩
    have HV5 := Lib.hid (HV4.out.below b5)
    have HW5 := Lib.hid (HW4.out.below b5)
    have B5 := Lib.hid (bel_tr B4.out b5 (Nat.le_refl _)); clear b5
    have hself : (!(okL l == okL l)) = false := by simp
    generalize okL l = y at *
    go_wp2_with fail
    refine (toCellS_any w5 a cap l HV5.out hll).mono ?_; rintro e w6 ⟨g6, rfl, o6, b6⟩
    have HW6 := Lib.hid (HW5.out.below b6)
    have B6 := Lib.hid (bel_tr B5.out b6 (Nat.le_refl _)); clear b6
    obtain ⟨a6, c6, e6, v6, -⟩ := o6.view
    cases e6
    have HX6 := Lib.hid v6; clear v6 o6
    go_wp2_with fail
    refine (eqCellS_same w6 _ _ _ _ l HW6.out HX6.out (by omega)).mono ?_; rintro e w7 ⟨rfl, b7⟩
    have B7 := Lib.hid (bel_tr B6.out b7 (Nat.le_refl _)); clear b7
    go_wp2_with fail
    go_ret
    exact ⟨rfl, B7.out⟩

set_option maxRecDepth 100000 in
theorem lifted (os : Os) (started : os.Started) (H : Type) (enc : TypeId × Value → H) :
    ReturnsInHanded {} Try.checked os 8 .any (Rows.fnExactCellsOkSpec.pre6 enc Try.prog Try.f8 Rows.fnExactCellsOkRow.domain false) (Rows.fnExactCellsOkSpec.post enc Try.prog Try.f8 false true false false) := by
  refine returnsInHanded_of_change (C := Try.checked) own started (by kernel_rfl) Try.func8
    (ChangeSpec.witness6 (enc := enc) (C := Try.checked) false ⟨#[], #[.slice none 0 0], []⟩ 8 (by kernel_rfl) (by kernel_rfl) (by kernel_rfl) (by kernel_rfl)) ?_
  intro W base args ds gs before hval0 hW hcnd _
  have hval : ∀ (j : Nat) t v, Try.f8.params[j]? = some t → args[j]? = some v → Value.okWide Try.prog W .any base t v := hval0
  have hW' := hW
  obtain ⟨p, q, hA0, hV, rfl, hfz, hnd⟩ := hW
  have hA : DataW.TrodAll enc Try.prog W 0 (fun _ => true) true Try.f8.params.toList args.toList ds p := hA0
  rw [Try.params8] at hA hval
  obtain ⟨v0, vs0, d0, ds0, p0, q0, hargs, rfl, rfl, h0, r0⟩ := trodAll_cons hA
  obtain ⟨rfl, rfl, rfl⟩ := trodAll_nil r0
  obtain rfl : args = #[v0] := by cases args; simp_all
  obtain ⟨rfl, rfl⟩ := trodVars_none hV
  have k0 := h0
  have lt0 : ∀ x ∈ p0, x.block < W.heap.size := by obtain ⟨m, hm⟩ := k0; exact DataW.trod_lt m _ _ _ hm
  clear hA0 hval0
  obtain ⟨a, cap, l, rfl, hvw, hsz⟩ := Fr.openCells (hval 0 60 v0 rfl rfl) h0
  refine (walk W a cap l hvw (fun c hc => by have := hsz c hc; unfold maxLen at this; omega)).mono fun e W' ⟨he, bel⟩ => ?_
  subst he
  exact ⟨_, rfl, _, _, _, [], _, [], hW', trodAll_mk1 (shut_bool Try.underlying4 _), (trodAll_cons_mk (Below.trod laidOut (by kernel_rfl) (of_decide_eq_true (by kernel_rfl)) k0 bel lt0) trodAll_mk0), rfl, bel.frame _, fun h => by cases h⟩

theorem over : Rows.fnExactCellsOkRow.holds Try.pinned (OpenSpec.ofChange Rows.fnExactCellsOkSpec) :=
  OpenClaim.holds_of_wide 8 Try.f8 rfl rfl rfl rfl rfl rfl rfl ⟨rfl, rfl, rfl, rfl, rfl⟩ rfl rfl rfl rfl rfl (by kernel_rfl) Try.func8 (by kernel_rfl)
    (of_decide_eq_true (by kernel_rfl)) (by unfold Func.isWrapper; first | (rw [if_pos (by decide +kernel)]; kernel_rfl) | (rw [if_neg (by decide +kernel)]; exact ⟨rfl, rfl⟩))
    (fun os started H enc _ => lifted os started H enc)

theorem proved : Rows.FnExactCellsOkSaid := over
#print axioms proved
end Go.Proofs.Ytkkpokfekbdigaa.fnExactCellsOk
