/-
  Proved: for every input the Go function laws.FnExactReadOp returns true, and each argument reads afterwards as it read before (the tied card: the library's variables that the row lists start as the program's text lays them).
  Conditions: none beyond those of the given card.
-/
import Derived.Test.YtoiphglfngkoiaaDoorRows
import Derived.WalkKit
import Derived.ProofKit
import Derived.OpenShut
import Derived.ShutString
import Derived.Carry
import Derived.Below
import Derived.ChangeOld
import Derived.LaidMore
import Derived.Stop.Joined
import Derived.SevenTiedAt
import Derived.Test.YtoiphglfngkoiaaDoorCards
import Derived.Test.YtoiphglfngkoiaaDoorTie
import Derived.ChangeVars
import Derived.Test.YtoiphglfngkoiaaDoorOy
import Derived.Test.YtoiphglfngkoiaaDoorFr
namespace Go.Proofs.YtoiphglfngkoiaaDoor.fnExactReadOp
open Go.ChangeShapes Go.WideShapes Go.ChangeAt Go.RowKit
open Go.ChangeMaps (open_string shut_string)
set_option linter.unusedVariables false

theorem laidOut : laidOutB Tryd.prog = true := by kernel_rfl
theorem own : ownKnob Tryd.prog.godebug = none := by kernel_rfl

open Kp Cl Rp
set_option maxHeartbeats 2000000 in
theorem walk (s : Tk) (w : World) (hL : Lib3 w) (hH : HdO w) (hM : McO w) :
    Calls Tryd.prog 5 #[.string (tx s)] w fun e w' => e = .returned (.bool true) ∧ Below w.heap.size w w' := by
  have hsz := tx_size s
  by_cases hbig : 1048576 < s.length
  · clear hL hM hH
    have h1 : (1048576 : Int) < ((tx s).size : Int) := by omega
    go_enter Tryd.func5, Tryd.ntmps5
    go_wp2
    go_ret
    exact ⟨rfl, Below.refl _ _⟩
  · have HL := Lib.hid hL; clear hL
    have HH := Lib.hid hH; clear hH
    have HM := Lib.hid hM; clear hM
    have h1 : ¬ (1048576 : Int) < ((tx s).size : Int) := by omega
    have HSP := Lib.hid (fun w => specReadOp_any s w (by omega))
    have HIM := Lib.hid (fun w h h' h'' => implReadOp_any s w (by omega) h h' h'')
    obtain ⟨x, ok, hf⟩ := roV_form (rdO s)
    rw [hf] at HSP HIM
    clear hf
    have hself : (!(ok == ok)) = false := by simp
    have hself2 : (ok != ok) = false := by simp
    go_enter Tryd.func5, Tryd.ntmps5
    go_wp2_with fail
    refine (HSP.out _).mono ?_; rintro e w1 ⟨rfl, b1⟩
    have B1 := Lib.hid b1; clear b1
    have X1 := Lib.hid (Q3.made x.k x.n x.m w1 25)
    have BA := Lib.hid (bel1 w1 (.cells #[.int .i64 x.k, .int .i64 x.n, .string (tx x.m)] 25))
    go_wp2_with fail
    generalize w1.alloc (Obj.cells #[.int .i64 x.k, .int .i64 x.n, .string (tx x.m)] 25) = w2 at X1 BA ⊢
    have B2 := Lib.hid (bel_tr B1.out BA.out (Nat.le_refl _)); clear B1 BA
    generalize w1.heap.size = q at X1 ⊢
    refine (HIM.out _ (lib3_below HL.out B2.out) (HH.out.next B2.out) (HM.out.next B2.out)).mono ?_; rintro e w3 ⟨rfl, b3⟩
    have B3 := Lib.hid (bel_tr B2.out b3 (Nat.le_refl _))
    have X3 := Lib.hid (X1.out.next b3); clear b3
    have BC := Lib.hid (bel1 w3 (.cells #[.int .i64 x.k, .int .i64 x.n, .string (tx x.m)] 25))
    obtain ⟨t0, t1, t2, -, -, -, -⟩ := X3.out.next BC.out
    go_wp2_with fail
    refine (eqOp_self x _).mono ?_; rintro e w4 ⟨rfl, b4⟩
    have B4 := Lib.hid (bel_tr (bel_tr B3.out BC.out (Nat.le_refl _)) b4 (Nat.le_refl _)); clear b4 t0 t1 t2
    go_wp2_with fail
    go_ret
    exact ⟨rfl, B4.out⟩

theorem door_met (os : Os) (args : Array Value) : laidMetH Tryd.prog Rows.fnExactReadOpRow.laid ((World.doorLaid Tryd.prog 400 os).forCall (fun _ _ => 0) ⟨#[], args, []⟩).memory :=
  laidMetH_of_parts3 (fuel := 8) (laidMet_of_run' 8 (by kernel_rfl) (by kernel_rfl)) (by kernel_rfl) (by kernel_rfl)
set_option maxRecDepth 100000 in
theorem lifted (os : Os) (started : os.Started) (H : Type) (enc : TypeId × Value → H) :
    ReturnsInHanded {} Tryd.checked os 5 .any (fun w args => (Rows.fnExactReadOpSpec.pre enc Tryd.prog Tryd.f5 Rows.fnExactReadOpRow.domain false w args ∧ laidMetH Tryd.prog Rows.fnExactReadOpRow.laid w) ∧ sizedMet enc Tryd.prog Tryd.f5 (OpenSpec.ofChange Rows.fnExactReadOpSpec) false w args) (Rows.fnExactReadOpSpec.post enc Tryd.prog Tryd.f5 false true false false) := by
  refine Fr.handed_and_shaped (C := Tryd.checked) (X := fun w _ => laidMetH Tryd.prog Rows.fnExactReadOpRow.laid w) (fun _ _ _ hh h => h.of_heap hh) own started (by kernel_rfl) Tryd.func5
    (ChangeSpec.witness_shaped (enc := enc) (C := Tryd.checked) (os := os) (X := fun w _ => laidMetH Tryd.prog Rows.fnExactReadOpRow.laid w) false (World.doorLaid Tryd.prog 400 os) #[.string ByteArray.empty] 8 rfl (World.shaped_of_RefB (by kernel_rfl) (by kernel_rfl)) (by kernel_rfl) (by kernel_rfl) (by kernel_rfl) (door_met os _)) ?_
  intro W base args ds gs before hval0 hW hcnd _ hL hsh _
  have hval : ∀ (j : Nat) t v, Tryd.f5.params[j]? = some t → args[j]? = some v → Value.okWide Tryd.prog W .any base t v := hval0
  have hW' := hW
  obtain ⟨p, q, hA0, hV, rfl, hfz, hnd⟩ := hW
  have hA : DataW.TrodAll enc Tryd.prog W 0 (fun _ => true) true Tryd.f5.params.toList args.toList ds p := hA0
  rw [Tryd.params5] at hA hval
  obtain ⟨v0, vs0, d0, ds0, p0, q0, hargs, rfl, rfl, h0, r0⟩ := trodAll_cons hA
  obtain ⟨rfl, rfl, rfl⟩ := trodAll_nil r0
  obtain rfl : args = #[v0] := by cases args; simp_all
  have hV1 : DataW.TrodVars enc Tryd.prog W (fun _ => true) ["loop.example/g00526/impl.opHeads"] gs q := hV
  obtain ⟨gg, gt, gcs, gfuel, gd, gp, rfl, hg, hgt, hgvar, hgd, rfl⟩ := trodVars_one hV1
  clear hV1
  have glt : gg < W.heap.size := by
    have hv := hgvar
    unfold World.var? at hv
    rw [hg] at hv
    simp only [Option.bind_some] at hv
    rcases Nat.lt_or_ge gg W.heap.size with h' | h'
    · exact h'
    · simp [Array.getElem?_eq_none h'] at hv
  have gk : DataW.Trod enc Tryd.prog W 0 (fun _ => true) true gt (.agg gcs) gd gp := ⟨gfuel, hgd⟩
  have glp : ∀ x ∈ gp, x.block < W.heap.size := DataW.trod_lt gfuel _ _ _ hgd
  obtain rfl : gt = 38 := Option.some.inj (hgt.symm.trans (by obtain rfl := Option.some.inj (hg.symm.trans (by kernel_rfl : Tryd.prog.globalNamed "loop.example/g00526/impl.opHeads" = some 0)); kernel_rfl))
  have k0 := h0
  have lt0 : ∀ x ∈ p0, x.block < W.heap.size := by obtain ⟨m, hm⟩ := k0; exact DataW.trod_lt m _ _ _ hm
  clear hA0 hval0
  obtain ⟨s, rfl, -, -, hs⟩ := open_string Tryd.underlying9 (hval 0 9 v0 rfl rfl) h0
  have hL2 : laidMetH Tryd.prog Rows.fnExactReadOpRow.laid W := hL
  have hL3 := (MakeChecks.laidMetH_plain _ _ _ (by kernel_rfl)).mp hL2
  have wk := walk s.data.toList W (Cl.lib3O_of hL3.tail.tail) (Cl.heads_of hL3.tail.tail.tail.tail.tail) (Cl.mcO_of hsh)
  rw [show Kp.tx s.data.toList = s from by unfold Kp.tx; simp] at wk
  refine wk.mono fun e W' ⟨he, bel⟩ => ?_
  subst he
  obtain ⟨gf2, hgd2⟩ := Below.trod laidOut (by kernel_rfl) (of_decide_eq_true (by kernel_rfl)) gk bel glp
  exact ⟨_, rfl, _, _, _, [], _, _, hW', trodAll_mk1 (shut_bool Tryd.underlying4 _), (trodAll_cons_mk (Below.trod laidOut (by kernel_rfl) (of_decide_eq_true (by kernel_rfl)) k0 bel lt0) trodAll_mk0), trodVars_mk1 hg hgt (var?_below bel hg glt hgvar) hgd2, bel.frame _, fun h => by cases h⟩

theorem over : Rows.fnExactReadOpRow.holds Tryd.pinned (OpenSpec.ofChange Rows.fnExactReadOpSpec) :=
  OpenClaim.holds_of_wide 5 Tryd.f5 rfl rfl rfl rfl rfl rfl rfl ⟨rfl, rfl, rfl, rfl, rfl⟩ rfl rfl rfl rfl rfl (by kernel_rfl) Tryd.func5 (by kernel_rfl)
    (of_decide_eq_true (by kernel_rfl)) (by unfold Func.isWrapper; first | (rw [if_pos (by decide +kernel)]; kernel_rfl) | (rw [if_neg (by decide +kernel)]; exact ⟨rfl, rfl⟩))
    (fun os started H enc _ => lifted os started H enc)

theorem row_proved : Rows.FnExactReadOpSaid := over
theorem proved : Rows.FnExactReadOpCardSaid :=
  Claim7.holds_tied_plain_at .later [] [.data, .data, .data, .sentinel, .sentinel, .data] true (true, "bd9749f0a3795266b6f239bdb33141c2d33db1824e6c24713a52d56c4111fde2") true
    row_proved (fun _ h => by cases h) (by kernel_rfl) (fun _ h => by cases h) fnExactReadOp_row_tie rfl ⟨rfl, rfl⟩ (by kernel_rfl) rfl
    (fun f fn hf hfn => by
      obtain rfl : f = 5 := Option.some.inj ((show Tryd.prog.funcNamed "loop.example/g00526/laws.FnExactReadOp" = some 5 by kernel_rfl).symm.trans hf) |>.symm
      obtain rfl : fn = Tryd.f5 := (Option.some.inj (Tryd.func5.symm.trans hfn)).symm
      exact ⟨by kernel_rfl, fun j t ht => by
        rw [Tryd.params5] at ht
        have hm : t ∈ [9] := by simpa using Array.mem_of_getElem? ht
        have hall : ([9].all fun u => !Tryd.prog.wantsStandIn u) = true := by kernel_rfl
        exact (show Tryd.prog.wantsStandIn t = false by simpa using List.all_eq_true.1 hall t hm)⟩)
    (by kernel_rfl)
#print axioms proved
end Go.Proofs.YtoiphglfngkoiaaDoor.fnExactReadOp
