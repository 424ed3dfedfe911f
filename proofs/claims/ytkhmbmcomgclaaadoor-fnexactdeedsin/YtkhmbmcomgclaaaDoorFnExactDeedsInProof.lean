/-
  Proved: for every input the Go function laws.FnExactDeedsIn returns true, and each argument reads afterwards as it read before (the tied card: the library's variables that the row lists start as the program's text lays them).
  Conditions: none beyond those of the given card.
-/
import Derived.Test.YtkhmbmcomgclaaaDoorRows
import Derived.WalkKit
import Derived.ProofKit
import Derived.OpenShut
import Derived.ShutString
import Derived.Carry
import Derived.Below
import Derived.ChangeOld
import Derived.LaidMore
import Derived.Stop.Joined
import Derived.SevenTiedAt
import Derived.Test.YtkhmbmcomgclaaaDoorCards
import Derived.Test.YtkhmbmcomgclaaaDoorTie
import Derived.Test.YtkhmbmcomgclaaaDoorNh
import Derived.Test.YtkhmbmcomgclaaaDoorLo
import Derived.Test.YtkhmbmcomgclaaaDoorYo
import Derived.Test.YtkhmbmcomgclaaaDoorRl
namespace Go.Proofs.YtkhmbmcomgclaaaDoor.fnExactDeedsIn
open Go.ChangeShapes Go.WideShapes Go.ChangeAt Go.RowKit
open Go.ChangeMaps (open_string shut_string)
set_option linter.unusedVariables false

theorem laidOut : laidOutB Tryd.prog = true := by kernel_rfl
theorem own : ownKnob Tryd.prog.godebug = none := by kernel_rfl

open Kp Cl Rp
set_option maxHeartbeats 4000000 in
set_option maxRecDepth 100000 in
theorem walk (w : World) (a : Option Addr) (ca : Nat) (l : List Tk) (n : Nat) (hn : l.length = n) (hv : V1 w a ca (txL l)) (hm : ∀ s ∈ l, s.length ≤ 9223372036854775807) (hL : Lib3 w) :
    Calls Tryd.prog 7 #[.slice a n ca] w fun e w' => e = .returned (.bool true) ∧ Below w.heap.size w w' := by
  have HV := Lib.hid hv; clear hv
  have HL := Lib.hid hL; clear hL
  have HSZ := Lib.hid (szStringS_any w a ca l n 1048576 hn HV.out hm (by decide) (by decide))
  go_enter Tryd.func7, Tryd.ntmps7
  go_wp2_with fail
  refine HSZ.out.mono ?_; rintro e w1 ⟨z, rfl, b1, hz⟩
  have B1 := Lib.hid b1; clear b1 HSZ
  rcases hz with hz | ⟨z0, z1, hzl, hma⟩
  · go_wp2_with fail
    go_ret
    exact ⟨rfl, B1.out⟩
  have hll : n ≤ 1048576 := by omega
  have HMA := Lib.hid (show ∀ s ∈ l, s.length ≤ 4194304 from fun c hc => by have := hma c hc; omega); clear hma
  have q0 : ¬ z < 0 := by omega
  clear z0 z1 hzl hm
  go_wp2_with fail
  refine (toStringS_is w1 a ca l n hn (HV.out.below B1.out) hll).mono ?_; rintro e w2 ⟨g2, rfl, -, o2, b2⟩
  have B2 := Lib.hid (bel_tr B1.out b2 (Nat.le_refl _)); clear b2
  have O2 := Lib.hid o2; clear o2
  go_wp2_with fail
  refine (specDeedsIn_any w2 _ _ l n hn O2.out.vw (by omega) HMA.out).mono ?_; rintro e w3 ⟨rfl, b3⟩
  have B3 := Lib.hid (bel_tr B2.out b3 (Nat.le_refl _)); clear b3 O2
  generalize hr : dnR l = r at *
  have HR := Lib.hid hr; clear hr
  go_wp2_with fail
  refine (toStringS_is w3 a ca l n hn (HV.out.below B3.out) hll).mono ?_; rintro e w4 ⟨g4, rfl, -, o4, b4⟩
  have B4 := Lib.hid (bel_tr B3.out b4 (Nat.le_refl _)); clear b4
  have O4 := Lib.hid o4; clear o4
  have HI := Lib.hid (implDeedsIn_any w4 _ _ l n hn O4.out.vw (by omega) HMA.out (lib3_below HL.out B4.out))
  rw [HR.out] at HI
  have q1 : (r != r) = false := by simp
  go_wp2_with fail
  refine HI.out.mono ?_; rintro e w5 ⟨rfl, b5⟩
  have B5 := Lib.hid (bel_tr B4.out b5 (Nat.le_refl _))
  have O5 := Lib.hid (O4.out.next b5); clear b5 O4 HI
  go_wp2_with fail
  refine (toStringS_is w5 a ca l n hn (HV.out.below B5.out) hll).mono ?_; rintro e w6 ⟨g6, rfl, -, o6, b6⟩
  have B6 := Lib.hid (bel_tr B5.out b6 (Nat.le_refl _))
  have O6 := Lib.hid (O5.out.next b6); clear b6 O5
  have P6 := Lib.hid o6; clear o6
  go_wp2_with fail
  refine (eqStringS_is w6 _ _ _ _ l n hn O6.out.vw P6.out.vw (by omega)).mono ?_; rintro e w7 ⟨rfl, b7⟩
  have B7 := Lib.hid (bel_tr B6.out b7 (Nat.le_refl _)); clear b7
  go_wp2_with fail
  go_ret
  exact ⟨rfl, B7.out⟩

theorem door_met (os : Os) (args : Array Value) : laidMetH Tryd.prog Rows.fnExactDeedsInRow.laid ((World.doorLaid Tryd.prog 400 os).forCall (fun _ _ => 0) ⟨#[], args, []⟩).memory :=
  laidMetH_of_parts3 (fuel := 8) (laidMet_of_run' 8 (by kernel_rfl) (by kernel_rfl)) (by kernel_rfl) (by kernel_rfl)
set_option maxRecDepth 100000 in
theorem lifted (os : Os) (started : os.Started) (H : Type) (enc : TypeId × Value → H) :
    ReturnsInHanded {} Tryd.checked os 7 .any (fun w args => (Rows.fnExactDeedsInSpec.pre enc Tryd.prog Tryd.f7 Rows.fnExactDeedsInRow.domain false w args ∧ laidMetH Tryd.prog Rows.fnExactDeedsInRow.laid w) ∧ sizedMet enc Tryd.prog Tryd.f7 (OpenSpec.ofChange Rows.fnExactDeedsInSpec) false w args) (Rows.fnExactDeedsInSpec.post enc Tryd.prog Tryd.f7 false true false false) := by
  refine returnsInHanded_of_change_and (C := Tryd.checked) (X := fun w _ => laidMetH Tryd.prog Rows.fnExactDeedsInRow.laid w) (fun _ _ _ hh h => h.of_heap hh) own started (by kernel_rfl) Tryd.func7
    (ChangeSpec.witness_shaped (enc := enc) (C := Tryd.checked) (os := os) (X := fun w _ => laidMetH Tryd.prog Rows.fnExactDeedsInRow.laid w) false (World.doorLaid Tryd.prog 400 os) #[.slice none 0 0] 8 rfl (World.shaped_of_RefB (by kernel_rfl) (by kernel_rfl)) (by kernel_rfl) (by kernel_rfl) (by kernel_rfl) (door_met os _)) ?_
  intro W base args ds gs before hval0 hW hcnd _ hL _
  have hval : ∀ (j : Nat) t v, Tryd.f7.params[j]? = some t → args[j]? = some v → Value.okWide Tryd.prog W .any base t v := hval0
  have hW' := hW
  obtain ⟨p, q, hA0, hV, rfl, hfz, hnd⟩ := hW
  have hA : DataW.TrodAll enc Tryd.prog W 0 (fun _ => true) true Tryd.f7.params.toList args.toList ds p := hA0
  rw [Tryd.params7] at hA hval
  obtain ⟨v0, vs0, d0, ds0, p0, q0, hargs, rfl, rfl, h0, r0⟩ := trodAll_cons hA
  obtain ⟨rfl, rfl, rfl⟩ := trodAll_nil r0
  obtain rfl : args = #[v0] := by cases args; simp_all
  obtain ⟨rfl, rfl⟩ := trodVars_none hV
  have k0 := h0
  have lt0 : ∀ x ∈ p0, x.block < W.heap.size := by obtain ⟨m, hm⟩ := k0; exact DataW.trod_lt m _ _ _ hm
  clear hA0 hval0
  obtain ⟨a, ca, l, rfl, hvw, hsz⟩ := Fr.openTexts (hval 0 22 v0 rfl rfl) h0
  unfold maxLen at hsz
  have hT : Rp.Lib3 W := by
    have hL2 : laidMetH Tryd.prog Rows.fnExactDeedsInRow.laid W := hL
    have hL3 := (MakeChecks.laidMetH_plain _ _ _ (by kernel_rfl)).mp hL2
    exact Rp.lib3_of hL3.tail.tail
  refine (walk W a ca l _ rfl hvw (fun s hs => by have := hsz s hs; omega) hT).mono fun e W' ⟨he, bel⟩ => ?_
  subst he
  exact ⟨_, rfl, _, _, _, [], _, [], hW', trodAll_mk1 (shut_bool Tryd.underlying4 _), (trodAll_cons_mk (Below.trod laidOut (by kernel_rfl) (of_decide_eq_true (by kernel_rfl)) k0 bel lt0) trodAll_mk0), rfl, bel.frame _, fun h => by cases h⟩

theorem over : Rows.fnExactDeedsInRow.holds Tryd.pinned (OpenSpec.ofChange Rows.fnExactDeedsInSpec) :=
  OpenClaim.holds_of_wide 7 Tryd.f7 rfl rfl rfl rfl rfl rfl rfl ⟨rfl, rfl, rfl, rfl, rfl⟩ rfl rfl rfl rfl rfl (by kernel_rfl) Tryd.func7 (by kernel_rfl)
    (of_decide_eq_true (by kernel_rfl)) (by unfold Func.isWrapper; first | (rw [if_pos (by decide +kernel)]; kernel_rfl) | (rw [if_neg (by decide +kernel)]; exact ⟨rfl, rfl⟩))
    (fun os started H enc _ => lifted os started H enc)

theorem row_proved : Rows.FnExactDeedsInSaid := over
theorem proved : Rows.FnExactDeedsInCardSaid :=
  Claim7.holds_tied_plain_at .later [] [.data, .data, .data, .sentinel, .sentinel] true (true, "7ce810de9bbbb2047db74c3d63dbc9282eb4de9e37bb46e47e2460883a784a1e") true
    row_proved (fun _ h => by cases h) (by kernel_rfl) (fun _ h => by cases h) fnExactDeedsIn_row_tie rfl ⟨rfl, rfl⟩ (by kernel_rfl) rfl
    (fun f fn hf hfn => by
      obtain rfl : f = 7 := Option.some.inj ((show Tryd.prog.funcNamed "loop.example/g00526/laws.FnExactDeedsIn" = some 7 by kernel_rfl).symm.trans hf) |>.symm
      obtain rfl : fn = Tryd.f7 := (Option.some.inj (Tryd.func7.symm.trans hfn)).symm
      exact ⟨by kernel_rfl, fun j t ht => by
        rw [Tryd.params7] at ht
        have hm : t ∈ [22] := by simpa using Array.mem_of_getElem? ht
        have hall : ([22].all fun u => !Tryd.prog.wantsStandIn u) = true := by kernel_rfl
        exact (show Tryd.prog.wantsStandIn t = false by simpa using List.all_eq_true.1 hall t hm)⟩)
    (by kernel_rfl)
#print axioms proved
end Go.Proofs.YtkhmbmcomgclaaaDoor.fnExactDeedsIn
