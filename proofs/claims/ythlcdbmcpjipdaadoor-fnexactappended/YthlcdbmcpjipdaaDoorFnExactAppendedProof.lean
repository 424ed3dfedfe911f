/-
  Proved: for every input the Go function laws.FnExactAppended returns true, and each argument reads afterwards as it read before (the tied card: the library's variables that the row lists start as the program's text lays them).
  Conditions: none beyond those of the given card.
-/
import Derived.Test.YthlcdbmcpjipdaaDoorRows
import Derived.WalkKit
import Derived.ProofKit
import Derived.OpenShut
import Derived.ShutString
import Derived.Carry
import Derived.Below
import Derived.ChangeOld
import Derived.LaidMore
import Derived.Stop.Joined
import Derived.SevenTiedAt
import Derived.Test.YthlcdbmcpjipdaaDoorCards
import Derived.Test.YthlcdbmcpjipdaaDoorTie
import Derived.Test.YthlcdbmcpjipdaaDoorFk
import Derived.Test.YthlcdbmcpjipdaaDoorKb
import Derived.Test.YthlcdbmcpjipdaaDoorFr
namespace Go.Proofs.YthlcdbmcpjipdaaDoor.fnExactAppended
open Go.ChangeShapes Go.WideShapes Go.ChangeAt Go.RowKit
open Go.ChangeMaps (open_string shut_string)
set_option linter.unusedVariables false

theorem laidOut : laidOutB Tryd.prog = true := by kernel_rfl
theorem own : ownKnob Tryd.prog.godebug = none := by kernel_rfl

open Fq Kp
theorem apV_form (f : ByteArray) (S : List UInt8) (l : List (List UInt8)) : ∃ x b, apV f S l = .tuple #[.string x, .bool b] := by
  unfold apV; split <;> exact ⟨_, _, rfl⟩
set_option maxHeartbeats 1000000 in
theorem walk (f s : ByteArray) (w : World) (hL : LibT w) :
    Calls Tryd.prog 7 #[.string f, .string s] w fun e w' => e = .returned (.bool true) ∧ Below w.heap.size w w' := by
  by_cases hbig : 1048576 < f.size
  · clear hL
    have h1 : (1048576 : Int) < (f.size : Int) := by omega
    go_enter Tryd.func7, Tryd.ntmps7
    go_wp2
    go_ret
    exact ⟨rfl, Below.refl _ _⟩
  by_cases hbig2 : 1048576 < s.size
  · clear hL
    have h1 : ¬ (1048576 : Int) < (f.size : Int) := by omega
    have h2 : (1048576 : Int) < (s.size : Int) := by omega
    go_enter Tryd.func7, Tryd.ntmps7
    go_wp2
    go_ret
    exact ⟨rfl, Below.refl _ _⟩
  · have HL := Lib.hid hL; clear hL
    have h1 : ¬ (1048576 : Int) < (f.size : Int) := by omega
    have h2 : ¬ (1048576 : Int) < (s.size : Int) := by omega
    go_enter Tryd.func7, Tryd.ntmps7
    go_wp2_with fail
    refine (specApp_any f s w (by omega) (by omega)).mono ?_; rintro e w1 ⟨l, hfi, rfl, b1⟩
    have B1 := Lib.hid b1; clear b1
    have HI := Lib.hid hfi; clear hfi
    obtain ⟨x, b, hx⟩ := apV_form f s.data.toList l
    rw [hx]
    have HX := Lib.hid hx; clear hx
    go_wp2_with fail
    refine (implApp_any f s w1 (HL.out.next B1.out)).mono ?_; rintro e w2 ⟨m, hfm, rfl, b2⟩
    obtain rfl := hfm.uniq HI.out
    clear hfm
    rw [HX.out]
    have B2 := Lib.hid (bel_tr B1.out b2 (Nat.le_refl _)); clear b2
    have hself : (x.toList == x.toList) = true := by simp
    have hself2 : (b == b) = true := by simp
    go_wp2_with fail
    go_ret
    exact ⟨rfl, B2.out⟩

theorem door_met (os : Os) (args : Array Value) : laidMetH Tryd.prog Rows.fnExactAppendedRow.laid ((World.doorLaid Tryd.prog 400 os).forCall (fun _ _ => 0) ⟨#[], args, []⟩).memory :=
  laidMetH_of_parts3 (fuel := 8) (laidMet_of_run' 8 (by kernel_rfl) (by kernel_rfl)) (by kernel_rfl) (by kernel_rfl)
set_option maxRecDepth 100000 in
theorem lifted (os : Os) (started : os.Started) (H : Type) (enc : TypeId × Value → H) :
    ReturnsInHanded {} Tryd.checked os 7 .any (fun w args => (Rows.fnExactAppendedSpec.pre enc Tryd.prog Tryd.f7 Rows.fnExactAppendedRow.domain false w args ∧ laidMetH Tryd.prog Rows.fnExactAppendedRow.laid w) ∧ sizedMet enc Tryd.prog Tryd.f7 (OpenSpec.ofChange Rows.fnExactAppendedSpec) false w args) (Rows.fnExactAppendedSpec.post enc Tryd.prog Tryd.f7 false true false false) := by
  refine returnsInHanded_of_change_and (C := Tryd.checked) (X := fun w _ => laidMetH Tryd.prog Rows.fnExactAppendedRow.laid w) (fun _ _ _ hh h => h.of_heap hh) own started (by kernel_rfl) Tryd.func7
    (ChangeSpec.witness_shaped (enc := enc) (C := Tryd.checked) (os := os) (X := fun w _ => laidMetH Tryd.prog Rows.fnExactAppendedRow.laid w) false (World.doorLaid Tryd.prog 400 os) #[.string ByteArray.empty, .string ByteArray.empty] 8 rfl (World.shaped_of_RefB (by kernel_rfl) (by kernel_rfl)) (by kernel_rfl) (by kernel_rfl) (by kernel_rfl) (door_met os _)) ?_
  intro W base args ds gs before hval0 hW hcnd _ hL _
  have hval : ∀ (j : Nat) t v, Tryd.f7.params[j]? = some t → args[j]? = some v → Value.okWide Tryd.prog W .any base t v := hval0
  have hW' := hW
  obtain ⟨p, q, hA0, hV, rfl, hfz, hnd⟩ := hW
  have hA : DataW.TrodAll enc Tryd.prog W 0 (fun _ => true) true Tryd.f7.params.toList args.toList ds p := hA0
  rw [Tryd.params7] at hA hval
  obtain ⟨v0, vs0, d0, ds0, p0, q0, hargs, rfl, rfl, h0, r0⟩ := trodAll_cons hA
  obtain ⟨v1, vs1, d1, ds1, p1, q1, rfl, rfl, rfl, h1, r1⟩ := trodAll_cons r0
  obtain ⟨rfl, rfl, rfl⟩ := trodAll_nil r1
  obtain rfl : args = #[v0, v1] := by cases args; simp_all
  obtain ⟨rfl, rfl⟩ := trodVars_none hV
  have k0 := h0
  have lt0 : ∀ x ∈ p0, x.block < W.heap.size := by obtain ⟨m, hm⟩ := k0; exact DataW.trod_lt m _ _ _ hm
  have k1 := h1
  have lt1 : ∀ x ∈ p1, x.block < W.heap.size := by obtain ⟨m, hm⟩ := k1; exact DataW.trod_lt m _ _ _ hm
  clear hA0 hval0
  obtain ⟨f, rfl, -, -, hf⟩ := open_string Tryd.underlying9 (hval 0 9 v0 rfl rfl) h0
  obtain ⟨s, rfl, -, -, hs⟩ := open_string Tryd.underlying9 (hval 1 9 v1 rfl rfl) h1
  have hT : LibT W := by
    have hL2 : laidMetH Tryd.prog Rows.fnExactAppendedRow.laid W := hL
    have hL3 := (MakeChecks.laidMetH_plain _ _ _ (by kernel_rfl)).mp hL2
    exact libT_of hL3.tail.tail
  refine (walk f s W hT).mono fun e W' ⟨he, bel⟩ => ?_
  subst he
  exact ⟨_, rfl, _, _, _, [], _, [], hW', trodAll_mk1 (shut_bool Tryd.underlying4 _), (trodAll_cons_mk (Below.trod laidOut (by kernel_rfl) (of_decide_eq_true (by kernel_rfl)) k0 bel lt0) (trodAll_cons_mk (Below.trod laidOut (by kernel_rfl) (of_decide_eq_true (by kernel_rfl)) k1 bel lt1) trodAll_mk0)), rfl, bel.frame _, fun h => by cases h⟩

theorem over : Rows.fnExactAppendedRow.holds Tryd.pinned (OpenSpec.ofChange Rows.fnExactAppendedSpec) :=
  OpenClaim.holds_of_wide 7 Tryd.f7 rfl rfl rfl rfl rfl rfl rfl ⟨rfl, rfl, rfl, rfl, rfl⟩ rfl rfl rfl rfl rfl (by kernel_rfl) Tryd.func7 (by kernel_rfl)
    (of_decide_eq_true (by kernel_rfl)) (by unfold Func.isWrapper; first | (rw [if_pos (by decide +kernel)]; kernel_rfl) | (rw [if_neg (by decide +kernel)]; exact ⟨rfl, rfl⟩))
    (fun os started H enc _ => lifted os started H enc)

theorem row_proved : Rows.FnExactAppendedSaid := over
theorem proved : Rows.FnExactAppendedCardSaid :=
  Claim7.holds_tied_plain_at .later [] [.data, .data, .data] true (true, "67e7abd7a3843577f73edeaaaf2d75b5acd414cba7a8d5ade6979446933a7041") false
    row_proved (fun _ h => by cases h) (by kernel_rfl) (fun _ h => by cases h) fnExactAppended_row_tie rfl ⟨rfl, rfl⟩ (by kernel_rfl) rfl
    (fun f fn hf hfn => by
      obtain rfl : f = 7 := Option.some.inj ((show Tryd.prog.funcNamed "loop.example/g00526/laws.FnExactAppended" = some 7 by kernel_rfl).symm.trans hf) |>.symm
      obtain rfl : fn = Tryd.f7 := (Option.some.inj (Tryd.func7.symm.trans hfn)).symm
      exact ⟨by kernel_rfl, fun j t ht => by
        rw [Tryd.params7] at ht
        have hm : t ∈ [9] := by simpa using Array.mem_of_getElem? ht
        have hall : ([9].all fun u => !Tryd.prog.wantsStandIn u) = true := by kernel_rfl
        exact (show Tryd.prog.wantsStandIn t = false by simpa using List.all_eq_true.1 hall t hm)⟩)
    (by kernel_rfl)
#print axioms proved
end Go.Proofs.YthlcdbmcpjipdaaDoor.fnExactAppended
