/-
  Proved: for every input the Go function laws.FnExactShowOp returns true, and each argument reads afterwards as it read before (the tied card: the library's variables that the row lists start as the program's text lays them).
  Conditions: none beyond those of the given card.
-/
import Derived.Test.YtoiphglfngkoiaaDoorRows
import Derived.WalkKit
import Derived.ProofKit
import Derived.OpenShut
import Derived.ShutString
import Derived.Carry
import Derived.Below
import Derived.ChangeOld
import Derived.LaidMore
import Derived.Stop.Joined
import Derived.SevenTiedAt
import Derived.Test.YtoiphglfngkoiaaDoorCards
import Derived.Test.YtoiphglfngkoiaaDoorTie
import Derived.ChangeVars
import Derived.Test.YtoiphglfngkoiaaDoorOw
import Derived.Test.YtoiphglfngkoiaaDoorOj
import Derived.Test.YtoiphglfngkoiaaDoorKb
namespace Go.Proofs.YtoiphglfngkoiaaDoor.fnExactShowOp
open Go.ChangeShapes Go.WideShapes Go.ChangeAt Go.RowKit
open Go.ChangeMaps (open_string shut_string)
set_option linter.unusedVariables false

theorem laidOut : laidOutB Tryd.prog = true := by kernel_rfl
theorem own : ownKnob Tryd.prog.godebug = none := by kernel_rfl

open Kp Cl Rp
set_option maxHeartbeats 1000000 in
theorem walk (k n : Int) (m : Tk) (hm : m.length ≤ 9223372036854775807) (w : World) (hL : LibT w) (hH : HdO w) :
    Calls Tryd.prog 4 #[.agg #[.int .i64 k, .int .i64 n, .string (tx m)]] w fun e w' => e = .returned (.bool true) ∧ Below w.heap.size w w' := by
  have HB := Lib.hid (bel1 w (.cells #[.int .i64 k, .int .i64 n, .string (tx m)] 32))
  have HX := Lib.hid (Q3.made k n m w 32)
  have HL := Lib.hid hL; clear hL
  have HH := Lib.hid hH; clear hH
  by_cases hs : szO m 1048576 < 0
  · go_enter Tryd.func4, Tryd.ntmps4
    go_wp2_with fail
    refine (szOp_any k n 1048576 m _ hm (by decide) (by decide)).mono ?_; rintro e w1 ⟨rfl, b1⟩
    have B1 := Lib.hid (bel_tr HB.out b1 (Nat.le_refl _))
    have X1 := Lib.hid (HX.out.next b1)
    obtain ⟨x0, x1, x2, -, -, -, -⟩ := id X1.out
    clear b1
    go_wp2_with fail
    go_ret
    exact ⟨rfl, B1.out⟩
  · have hml : m.length ≤ 9223372036854775806 := by
      unfold szO at hs
      split at hs <;> omega
    go_enter Tryd.func4, Tryd.ntmps4
    go_wp2_with fail
    refine (szOp_any k n 1048576 m _ hm (by decide) (by decide)).mono ?_; rintro e w1 ⟨rfl, b1⟩
    have B1 := Lib.hid (bel_tr HB.out b1 (Nat.le_refl _))
    have X1 := Lib.hid (HX.out.next b1)
    obtain ⟨x0, x1, x2, -, -, -, -⟩ := id X1.out
    clear b1
    go_wp2_with fail
    refine (toOp_any k n m _).mono ?_; rintro e w2 ⟨rfl, b2⟩
    have B2 := Lib.hid (bel_tr B1.out b2 (Nat.le_refl _))
    have X2 := Lib.hid (X1.out.next b2)
    clear b2 x0 x1 x2
    go_wp2_with fail
    refine (specShowOp_any k n m _ hml).mono ?_; rintro e w3 ⟨rfl, b3⟩
    have B3 := Lib.hid (bel_tr B2.out b3 (Nat.le_refl _))
    have X3 := Lib.hid (X2.out.next b3)
    obtain ⟨x0, x1, x2, -, -, -, -⟩ := id X3.out
    clear b3
    go_wp2_with fail
    refine (toOp_any k n m _).mono ?_; rintro e w4 ⟨rfl, b4⟩
    have B4 := Lib.hid (bel_tr B3.out b4 (Nat.le_refl _)); clear b4 x0 x1 x2
    go_wp2_with fail
    refine (implShowOp_any k n m _ hml (HL.out.next B4.out) (HH.out.next B4.out)).mono ?_; rintro e w5 ⟨rfl, b5⟩
    have B5 := Lib.hid (bel_tr B4.out b5 (Nat.le_refl _)); clear b5
    have hself : ((tx (shO ⟨k, n, m⟩)).toList == (tx (shO ⟨k, n, m⟩)).toList) = true := by simp
    generalize tx (shO ⟨k, n, m⟩) = z at *
    go_wp2_with fail
    go_ret
    exact ⟨rfl, B5.out⟩

theorem door_met (os : Os) (args : Array Value) : laidMetH Tryd.prog Rows.fnExactShowOpRow.laid ((World.doorLaid Tryd.prog 400 os).forCall (fun _ _ => 0) ⟨#[], args, []⟩).memory :=
  laidMetH_of_parts3 (fuel := 8) (laidMet_of_run' 8 (by kernel_rfl) (by kernel_rfl)) (by kernel_rfl) (by kernel_rfl)
set_option maxRecDepth 100000 in
theorem lifted (os : Os) (started : os.Started) (H : Type) (enc : TypeId × Value → H) :
    ReturnsInHanded {} Tryd.checked os 4 .any (fun w args => (Rows.fnExactShowOpSpec.pre enc Tryd.prog Tryd.f4 Rows.fnExactShowOpRow.domain false w args ∧ laidMetH Tryd.prog Rows.fnExactShowOpRow.laid w) ∧ sizedMet enc Tryd.prog Tryd.f4 (OpenSpec.ofChange Rows.fnExactShowOpSpec) false w args) (Rows.fnExactShowOpSpec.post enc Tryd.prog Tryd.f4 false true false false) := by
  refine returnsInHanded_of_change_and (C := Tryd.checked) (X := fun w _ => laidMetH Tryd.prog Rows.fnExactShowOpRow.laid w) (fun _ _ _ hh h => h.of_heap hh) own started (by kernel_rfl) Tryd.func4
    (ChangeSpec.witness_shaped (enc := enc) (C := Tryd.checked) (os := os) (X := fun w _ => laidMetH Tryd.prog Rows.fnExactShowOpRow.laid w) false (World.doorLaid Tryd.prog 400 os) #[.agg #[.int .i64 0, .int .i64 0, .string ByteArray.empty]] 8 rfl (World.shaped_of_RefB (by kernel_rfl) (by kernel_rfl)) (by kernel_rfl) (by kernel_rfl) (by kernel_rfl) (door_met os _)) ?_
  intro W base args ds gs before hval0 hW hcnd _ hL _
  have hval : ∀ (j : Nat) t v, Tryd.f4.params[j]? = some t → args[j]? = some v → Value.okWide Tryd.prog W .any base t v := hval0
  have hW' := hW
  obtain ⟨p, q, hA0, hV, rfl, hfz, hnd⟩ := hW
  have hA : DataW.TrodAll enc Tryd.prog W 0 (fun _ => true) true Tryd.f4.params.toList args.toList ds p := hA0
  rw [Tryd.params4] at hA hval
  obtain ⟨v0, vs0, d0, ds0, p0, q0, hargs, rfl, rfl, h0, r0⟩ := trodAll_cons hA
  obtain ⟨rfl, rfl, rfl⟩ := trodAll_nil r0
  obtain rfl : args = #[v0] := by cases args; simp_all
  have hV1 : DataW.TrodVars enc Tryd.prog W (fun _ => true) ["loop.example/g00526/impl.opHeads"] gs q := hV
  obtain ⟨gg, gt, gcs, gfuel, gd, gp, rfl, hg, hgt, hgvar, hgd, rfl⟩ := trodVars_one hV1
  clear hV1
  have glt : gg < W.heap.size := by
    have hv := hgvar
    unfold World.var? at hv
    rw [hg] at hv
    simp only [Option.bind_some] at hv
    rcases Nat.lt_or_ge gg W.heap.size with h' | h'
    · exact h'
    · simp [Array.getElem?_eq_none h'] at hv
  have gk : DataW.Trod enc Tryd.prog W 0 (fun _ => true) true gt (.agg gcs) gd gp := ⟨gfuel, hgd⟩
  have glp : ∀ x ∈ gp, x.block < W.heap.size := DataW.trod_lt gfuel _ _ _ hgd
  obtain rfl : gt = 38 := Option.some.inj (hgt.symm.trans (by obtain rfl := Option.some.inj (hg.symm.trans (by kernel_rfl : Tryd.prog.globalNamed "loop.example/g00526/impl.opHeads" = some 0)); kernel_rfl))
  have k0 := h0
  have lt0 : ∀ x ∈ p0, x.block < W.heap.size := by obtain ⟨m, hm⟩ := k0; exact DataW.trod_lt m _ _ _ hm
  clear hA0 hval0
  have hL2 : laidMetH Tryd.prog Rows.fnExactShowOpRow.laid W := hL
  have hL3 := (MakeChecks.laidMetH_plain _ _ _ (by kernel_rfl)).mp hL2
  obtain ⟨k, n, m, rfl, hm, -, -⟩ := Fr.openOp (hval 0 32 v0 rfl rfl) h0
  refine (walk k n m (by unfold maxLen at hm; omega) W (Kp.libT_of hL3.tail.tail) (Cl.heads_of hL3.tail.tail.tail)).mono fun e W' ⟨he, bel⟩ => ?_
  subst he
  obtain ⟨gf2, hgd2⟩ := Below.trod laidOut (by kernel_rfl) (of_decide_eq_true (by kernel_rfl)) gk bel glp
  exact ⟨_, rfl, _, _, _, [], _, _, hW', trodAll_mk1 (shut_bool Tryd.underlying4 _), (trodAll_cons_mk (Below.trod laidOut (by kernel_rfl) (of_decide_eq_true (by kernel_rfl)) k0 bel lt0) trodAll_mk0), trodVars_mk1 hg hgt (var?_below bel hg glt hgvar) hgd2, bel.frame _, fun h => by cases h⟩

theorem over : Rows.fnExactShowOpRow.holds Tryd.pinned (OpenSpec.ofChange Rows.fnExactShowOpSpec) :=
  OpenClaim.holds_of_wide 4 Tryd.f4 rfl rfl rfl rfl rfl rfl rfl ⟨rfl, rfl, rfl, rfl, rfl⟩ rfl rfl rfl rfl rfl (by kernel_rfl) Tryd.func4 (by kernel_rfl)
    (of_decide_eq_true (by kernel_rfl)) (by unfold Func.isWrapper; first | (rw [if_pos (by decide +kernel)]; kernel_rfl) | (rw [if_neg (by decide +kernel)]; exact ⟨rfl, rfl⟩))
    (fun os started H enc _ => lifted os started H enc)

theorem row_proved : Rows.FnExactShowOpSaid := over
theorem proved : Rows.FnExactShowOpCardSaid :=
  Claim7.holds_tied_plain_at .later [] [.data, .data, .data, .data] true (true, "bd9749f0a3795266b6f239bdb33141c2d33db1824e6c24713a52d56c4111fde2") true
    row_proved (fun _ h => by cases h) (by kernel_rfl) (fun _ h => by cases h) fnExactShowOp_row_tie rfl ⟨rfl, rfl⟩ (by kernel_rfl) rfl
    (fun f fn hf hfn => by
      obtain rfl : f = 4 := Option.some.inj ((show Tryd.prog.funcNamed "loop.example/g00526/laws.FnExactShowOp" = some 4 by kernel_rfl).symm.trans hf) |>.symm
      obtain rfl : fn = Tryd.f4 := (Option.some.inj (Tryd.func4.symm.trans hfn)).symm
      exact ⟨by kernel_rfl, fun j t ht => by
        rw [Tryd.params4] at ht
        have hm : t ∈ [32] := by simpa using Array.mem_of_getElem? ht
        have hall : ([32].all fun u => !Tryd.prog.wantsStandIn u) = true := by kernel_rfl
        exact (show Tryd.prog.wantsStandIn t = false by simpa using List.all_eq_true.1 hall t hm)⟩)
    (by kernel_rfl)
#print axioms proved
end Go.Proofs.YtoiphglfngkoiaaDoor.fnExactShowOp
