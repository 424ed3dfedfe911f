/-
  Proved: for every input the Go function laws.FnExactReadCell returns true, and each argument reads afterwards as it read before (the tied card: the library's variables that the row lists start as the program's text lays them).
  Conditions: none beyond those of the given card.
-/
import Derived.Test.YtdalncgbbkeimaaDoorRows
import Derived.WalkKit
import Derived.ProofKit
import Derived.OpenShut
import Derived.ShutString
import Derived.Carry
import Derived.Below
import Derived.ChangeOld
import Derived.LaidMore
import Derived.Stop.Joined
import Derived.SevenTiedAt
import Derived.Test.YtdalncgbbkeimaaDoorCards
import Derived.Test.YtdalncgbbkeimaaDoorTie
import Derived.Lay
import Derived.Test.YtdalncgbbkeimaaDoorSe
import Derived.Test.YtdalncgbbkeimaaDoorFr
namespace Go.Proofs.YtdalncgbbkeimaaDoor.fnExactReadCell
open Go.ChangeShapes Go.WideShapes Go.ChangeAt Go.RowKit
open Go.ChangeMaps (open_string shut_string)
set_option linter.unusedVariables false

theorem laidOut : laidOutB Tryd.prog = true := by kernel_rfl
theorem own : ownKnob Tryd.prog.godebug = none := by kernel_rfl

open Kp Cl Rp
set_option maxHeartbeats 2000000 in
theorem walk (s : ByteArray) (w : World) (hL : Lib3 w) (hM : LibM w) :
    Calls Tryd.prog 8 #[.string s] w fun e w' => e = .returned (.bool true) ∧ Below w.heap.size w w' := by
  by_cases hbig : 1048576 < s.size
  · clear hL hM
    have h1 : (1048576 : Int) < (s.size : Int) := by omega
    go_enter Tryd.func8, Tryd.ntmps8
    go_wp2
    go_ret
    exact ⟨rfl, Below.refl _ _⟩
  · have HL := Lib.hid hL; clear hL
    have HM := Lib.hid hM; clear hM
    have h1 : ¬ (1048576 : Int) < (s.size : Int) := by omega
    have HSP := Lib.hid (fun w => specReadC_any s w (by omega))
    have HIM := Lib.hid (fun w h h' => implReadC_any s w (by omega) h h')
    unfold RcPost at HSP HIM
    obtain ⟨r, b, t, v, g, ok, hf⟩ := rcV_form (spl 32 s.data.toList)
    rw [hf] at HSP HIM
    clear hf
    have hself : (!(ok == ok)) = false := by simp
    have hself2 : (ok != ok) = false := by simp
    go_enter Tryd.func8, Tryd.ntmps8
    go_wp2_with fail
    refine (HSP.out _).mono ?_; rintro e w1 ⟨rfl, b1⟩
    have B1 := Lib.hid b1; clear b1
    have X1 := Lib.hid (Bc.made r b t v g w1 36)
    have BA := Lib.hid (bel1 w1 (.cells #[.string r, .string b, .int .i64 t, .int .i64 v, .bool g] 36))
    go_wp2_with fail
    generalize w1.alloc (Obj.cells #[Value.string r, Value.string b, Value.int IntKind.i64 t, Value.int IntKind.i64 v, Value.bool g] 36) = w2 at X1 BA ⊢
    have B2 := Lib.hid (bel_tr B1.out BA.out (Nat.le_refl _)); clear B1 BA
    generalize w1.heap.size = q at X1 ⊢
    refine (HIM.out _ (lib3_next HL.out B2.out) (HM.out.next B2.out)).mono ?_; rintro e w3 ⟨rfl, b3⟩
    have B3 := Lib.hid (bel_tr B2.out b3 (Nat.le_refl _))
    have X3 := Lib.hid (X1.out.next b3); clear b3
    have BC := Lib.hid (bel1 w3 (.cells #[.string r, .string b, .int .i64 t, .int .i64 v, .bool g] 36))
    obtain ⟨t0, t1, t2, t3, t4, -⟩ := X3.out.next BC.out
    go_wp2_with fail
    refine (eqCell_same r b t v g _).mono ?_; rintro e w4 ⟨rfl, b4⟩
    have B4 := Lib.hid (bel_tr (bel_tr B3.out BC.out (Nat.le_refl _)) b4 (Nat.le_refl _)); clear b4 t0 t1 t2 t3 t4
    go_wp2_with fail
    go_ret
    exact ⟨rfl, B4.out⟩

set_option maxRecDepth 100000 in
theorem lifted (os : Os) (started : os.Started) (H : Type) (enc : TypeId × Value → H) :
    ReturnsInHanded {} Tryd.checked os 8 .any (fun w args => (Rows.fnExactReadCellSpec.pre enc Tryd.prog Tryd.f8 Rows.fnExactReadCellRow.domain false w args ∧ laidMetH Tryd.prog Rows.fnExactReadCellRow.laid w) ∧ sizedMet enc Tryd.prog Tryd.f8 (OpenSpec.ofChange Rows.fnExactReadCellSpec) false w args) (Rows.fnExactReadCellSpec.post enc Tryd.prog Tryd.f8 false true false false) := by
  refine Fr.handed_and_shaped (C := Tryd.checked) (X := fun w _ => laidMetH Tryd.prog Rows.fnExactReadCellRow.laid w) (fun _ _ _ hh h => h.of_heap hh) own started (by kernel_rfl) Tryd.func8
    (ChangeSpec.witness_shaped (enc := enc) (C := Tryd.checked) (os := os) (X := fun w _ => laidMetH Tryd.prog Rows.fnExactReadCellRow.laid w) false (World.laidAll Tryd.prog os Rows.fnExactReadCellRow.laid) #[.string ByteArray.empty] 8 (World.laidAll_os _ _ _) (World.shaped_of_ZipB (by kernel_rfl) (by kernel_rfl)) (by kernel_rfl) (by kernel_rfl) (by kernel_rfl) (by rw [MakeChecks.laidMetH_plain _ _ _ (by kernel_rfl)]; exact laidMet_laidAll _ (by kernel_rfl) (by kernel_rfl))) ?_
  intro W base args ds gs before hval0 hW hcnd _ hL hsh _
  have hval : ∀ (j : Nat) t v, Tryd.f8.params[j]? = some t → args[j]? = some v → Value.okWide Tryd.prog W .any base t v := hval0
  have hW' := hW
  obtain ⟨p, q, hA0, hV, rfl, hfz, hnd⟩ := hW
  have hA : DataW.TrodAll enc Tryd.prog W 0 (fun _ => true) true Tryd.f8.params.toList args.toList ds p := hA0
  rw [Tryd.params8] at hA hval
  obtain ⟨v0, vs0, d0, ds0, p0, q0, hargs, rfl, rfl, h0, r0⟩ := trodAll_cons hA
  obtain ⟨rfl, rfl, rfl⟩ := trodAll_nil r0
  obtain rfl : args = #[v0] := by cases args; simp_all
  obtain ⟨rfl, rfl⟩ := trodVars_none hV
  have k0 := h0
  have lt0 : ∀ x ∈ p0, x.block < W.heap.size := by obtain ⟨m, hm⟩ := k0; exact DataW.trod_lt m _ _ _ hm
  clear hA0 hval0
  obtain ⟨s, rfl, -, -, hs⟩ := open_string Tryd.underlying9 (hval 0 9 v0 rfl rfl) h0
  have hT : Rp.Lib3 W := by
    have hL2 : laidMetH Tryd.prog Rows.fnExactReadCellRow.laid W := hL
    have hL3 := (MakeChecks.laidMetH_plain _ _ _ (by kernel_rfl)).mp hL2
    exact Cl.lib3_of hL3.tail.tail
  refine (walk s W hT (Cl.libM_of hsh)).mono fun e W' ⟨he, bel⟩ => ?_
  subst he
  exact ⟨_, rfl, _, _, _, [], _, [], hW', trodAll_mk1 (shut_bool Tryd.underlying4 _), (trodAll_cons_mk (Below.trod laidOut (by kernel_rfl) (of_decide_eq_true (by kernel_rfl)) k0 bel lt0) trodAll_mk0), rfl, bel.frame _, fun h => by cases h⟩

theorem over : Rows.fnExactReadCellRow.holds Tryd.pinned (OpenSpec.ofChange Rows.fnExactReadCellSpec) :=
  OpenClaim.holds_of_wide 8 Tryd.f8 rfl rfl rfl rfl rfl rfl rfl ⟨rfl, rfl, rfl, rfl, rfl⟩ rfl rfl rfl rfl rfl (by kernel_rfl) Tryd.func8 (by kernel_rfl)
    (of_decide_eq_true (by kernel_rfl)) (by unfold Func.isWrapper; first | (rw [if_pos (by decide +kernel)]; kernel_rfl) | (rw [if_neg (by decide +kernel)]; exact ⟨rfl, rfl⟩))
    (fun os started H enc _ => lifted os started H enc)

theorem row_proved : Rows.FnExactReadCellSaid := over
theorem proved : Rows.FnExactReadCellCardSaid :=
  Claim7.holds_tied_plain_at .later [] [.data, .data, .data, .data, .sentinel, .sentinel, .pinned] true (true, "613096e7dbea012c8784386493c07f8b2d7642914d7d7ac9330c688bac471690") true
    row_proved (fun _ h => by cases h) (by kernel_rfl) (fun _ h => by cases h) fnExactReadCell_row_tie rfl ⟨rfl, rfl⟩ (by kernel_rfl) rfl
    (fun f fn hf hfn => by
      obtain rfl : f = 8 := Option.some.inj ((show Tryd.prog.funcNamed "loop.example/g00526/laws.FnExactReadCell" = some 8 by kernel_rfl).symm.trans hf) |>.symm
      obtain rfl : fn = Tryd.f8 := (Option.some.inj (Tryd.func8.symm.trans hfn)).symm
      exact ⟨by kernel_rfl, fun j t ht => by
        rw [Tryd.params8] at ht
        have hm : t ∈ [9] := by simpa using Array.mem_of_getElem? ht
        have hall : ([9].all fun u => !Tryd.prog.wantsStandIn u) = true := by kernel_rfl
        exact (show Tryd.prog.wantsStandIn t = false by simpa using List.all_eq_true.1 hall t hm)⟩)
    (by kernel_rfl)
#print axioms proved
end Go.Proofs.YtdalncgbbkeimaaDoor.fnExactReadCell
