/-
  How much a recipe uses: contract of spec.Steps, that of Means given.
-/
import Derived.Test.YtfnnoehpahdgcaaGreatDoorMw
namespace Go.Proofs.YtfnnoehpahdgcaaGreatDoor.Cl
open Go.RowKit Wd Rp Kp
set_option linter.unusedVariables false
/-- What Steps gives. -/
def stV (r : St0) (f : Int) : Int := if r.c = 0 then f - r.f else if r.c = 3 then f else -1
set_option maxHeartbeats 4000000 in
set_option maxRecDepth 100000 in
theorem specSteps_any (w : World) (v1 v2 v3 : Value) (f : Int) (r : St0) (hf : r.c = 0 → IntKind.i64.wrap (f - r.f) = f - r.f) (hM : Calls Tryz.prog 13 #[v1, v2, v3, .int .i64 f] w (EndP w.heap.size r w)) :
    Calls Tryz.prog 14 #[v1, v2, v3, .int .i64 f] w (GivesI (stV r f) w) := by
  have HM := Lib.hid hM; clear hM
  obtain ⟨c, b, rf⟩ := r
  generalize hx : stV ⟨c, b, rf⟩ f = x
  have HX := Lib.hid hx; clear hx
  dsimp only at hf
  by_cases h0 : c = 0
  · subst h0
    have i1 := hf rfl
    have HY := Lib.hid (show f - rf = x from HX.out)
    clear hf
    go_enter Tryz.func14, Tryz.ntmps14
    go_wp2_with fail
    refine HM.out.mono ?_; rintro e w1 ⟨v, rfl, o1, b1⟩
    obtain ⟨va, vc, rfl, -⟩ := o1.view
    have B1 := Lib.hid b1; clear b1 o1
    go_wp2_with fail
    go_ret
    exact ⟨by rw [← HY.out]; rfl, bel_tr B1.out (bel1 _ _) (Nat.le_refl _)⟩
  · have t0 : (c == 0) = false := beq_eq_false_iff_ne.2 h0
    by_cases h3 : c = 3
    · subst h3
      have HY := Lib.hid (show f = x from HX.out)
      clear hf
      go_enter Tryz.func14, Tryz.ntmps14
      go_wp2_with fail
      refine HM.out.mono ?_; rintro e w1 ⟨v, rfl, o1, b1⟩
      obtain ⟨va, vc, rfl, -⟩ := o1.view
      have B1 := Lib.hid b1; clear b1 o1
      go_wp2_with fail
      go_ret
      exact ⟨by rw [← HY.out]; rfl, bel_tr B1.out (bel1 _ _) (Nat.le_refl _)⟩
    · have t3 : (c == 3) = false := beq_eq_false_iff_ne.2 h3
      have HY := Lib.hid (show -1 = x by have := HX.out; unfold stV at this; rw [if_neg h0, if_neg h3] at this; exact this)
      clear hf
      go_enter Tryz.func14, Tryz.ntmps14
      go_wp2_with fail
      refine HM.out.mono ?_; rintro e w1 ⟨v, rfl, o1, b1⟩
      obtain ⟨va, vc, rfl, -⟩ := o1.view
      have B1 := Lib.hid b1; clear b1 o1
      go_wp2_with fail
      go_ret
      exact ⟨by rw [← HY.out]; rfl, bel_tr B1.out (bel1 _ _) (Nat.le_refl _)⟩
end Go.Proofs.YtfnnoehpahdgcaaGreatDoor.Cl
