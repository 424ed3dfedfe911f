/-
  Proved: for every input the Go function laws.FnExactCodeOf returns true, and each argument reads afterwards as it read before (the tied card: the library's variables that the row lists start as the program's text lays them).
  Conditions: none beyond those of the given card.
-/
import Derived.Test.YtoiphglfngkoiaaGreatDoorRows
import Derived.WalkKit
import Derived.ProofKit
import Derived.OpenShut
import Derived.ShutString
import Derived.Carry
import Derived.Below
import Derived.ChangeOld
import Derived.LaidMore
import Derived.Stop.Joined
import Derived.SevenTiedAt
import Derived.Test.YtoiphglfngkoiaaGreatDoorCards
import Derived.Test.YtoiphglfngkoiaaGreatDoorTie
import Derived.Test.YtoiphglfngkoiaaGreatDoorSk7
namespace Go.Proofs.YtoiphglfngkoiaaGreatDoor.fnExactCodeOf
open Go.ChangeShapes Go.WideShapes Go.ChangeAt Go.RowKit
open Go.ChangeMaps (open_string shut_string)
set_option linter.unusedVariables false

theorem laidOut : laidOutB Tryz.prog = true := by kernel_rfl
theorem own : ownKnob Tryz.prog.godebug = none := by kernel_rfl

open Kp Cl Rp
set_option maxHeartbeats 16000000 in
set_option maxRecDepth 100000 in
theorem walk (w : World) (a : Option Addr) (ca : Nat) (l : List Tk) (n : Nat) (hn : l.length = n) (hv : V1 w a ca (txL l)) (hm : ∀ s ∈ l, s.length ≤ 9223372036854775807) (hL : Lib3 w) :
    Calls Tryz.prog 3 #[.slice a n ca] w fun e w' => e = .returned (.bool true) ∧ Below w.heap.size w w' := by
  have HV := Lib.hid hv; clear hv
  have HL := Lib.hid hL; clear hL
  have HSZ := Lib.hid (szStringS_any w a ca l n 1048576 hn HV.out hm (by decide) (by decide))
  go_enter Tryz.func3, Tryz.ntmps3
  go_wp2_with fail
  refine HSZ.out.mono ?_; rintro e w1 ⟨z, rfl, b1, hz⟩
  have B1 := Lib.hid b1; clear b1 HSZ
  rcases hz with hz | ⟨z0, z1, hzl, hma⟩
  · go_wp2_with fail
    go_ret
    exact ⟨rfl, B1.out⟩
  have hll : n ≤ 1048576 := by omega
  have HMA := Lib.hid (show ∀ s ∈ l, s.length ≤ 4194304 from fun c hc => by have := hma c hc; omega); clear hma
  have q0 : ¬ z < 0 := by omega
  clear z0 z1 hzl hm
  go_wp2_with fail
  refine (toStringS_is w1 a ca l n hn (HV.out.below B1.out) hll).mono ?_; rintro e w2 ⟨g2, rfl, -, o2, b2⟩
  have B2 := Lib.hid (bel_tr B1.out b2 (Nat.le_refl _)); clear b2
  have O2 := Lib.hid o2; clear o2
  go_wp2_with fail
  refine (specCode_any w2 _ _ l n ⟨hn, by omega, HMA.out, O2.out.vw⟩).mono ?_; rintro e w3 ⟨v3, rfl, o3, b3⟩
  have HO3 := Lib.hid o3
  have B3 := Lib.hid (bel_tr B2.out b3 (Nat.le_refl _)); clear b3 O2 o3
  have HNL := Lib.hid (show (cdR l).length ≤ 4194304 by have := cdR_len l; omega)
  generalize hr : cdR l = r at *
  have HR := Lib.hid hr; clear hr
  go_wp2_with fail
  refine (toStringS_is w3 a ca l n hn (HV.out.below B3.out) hll).mono ?_; rintro e w4 ⟨g4, rfl, -, o4, b4⟩
  have B4 := Lib.hid (bel_tr B3.out b4 (Nat.le_refl _))
  have HO4 := Lib.hid (HO3.out.next b4)
  have O4 := Lib.hid o4
  have HLO := Lib.hid (show ∀ k, v3.ownBlock = some k → k < w3.heap.size from fun k hk => (World.ownsRow.lt HO3.out k hk).2)
  have hz4 := b4.size
  clear o4 b4
  have hg4 : w3.heap.size ≤ g4 := OT.lt O4.out _ rfl
  have hg4' : g4 < w4.heap.size := OT.low O4.out _ rfl
  have HG4 := Lib.hid (And.intro hg4 hg4')
  have HI := Lib.hid (implCode_any w4 _ _ l n ⟨hn, by omega, HMA.out, O4.out.vw⟩ (lib3_below HL.out B4.out))
  rw [HR.out] at HI
  go_wp2_with fail
  refine HI.out.mono ?_; rintro e w5 ⟨v5, rfl, o5, b5⟩
  have HG5 := Lib.hid o5
  have HGL := Lib.hid (show ∀ k, v5.ownBlock = some k → w4.heap.size ≤ k from fun k hk => OwO.lt o5 k hk)
  have B5 := Lib.hid (bel_tr B4.out b5 (Nat.le_refl _))
  have HO5 := Lib.hid (HO4.out.next b5)
  have O5 := Lib.hid (O4.out.next b5)
  have hz5 := b5.size
  clear o5 b5 HI O4
  go_wp2_with fail
  refine (eqO_own w5 HG5.out HO5.out HNL.out).mono ?_; rintro e w6 ⟨rfl, b6⟩
  have HG6 := Lib.hid (HG5.out.next b6)
  have HO6 := Lib.hid (HO5.out.next b6)
  have O6 := Lib.hid (O5.out.next b6)
  have B6 := Lib.hid (bel_tr B5.out b6 (Nat.le_refl _))
  have hz6 := b6.size
  clear b6
  go_wp2_with fail
  refine (toStringS_is w6 a ca l n hn (HV.out.below B6.out) hll).mono ?_; rintro e w7 ⟨g7, rfl, -, o7, b7⟩
  have HG7 := Lib.hid (HG6.out.next b7)
  have HO7 := Lib.hid (HO6.out.next b7)
  have O7 := Lib.hid (O6.out.next b7)
  have P7 := Lib.hid o7
  have B7 := Lib.hid (bel_tr B6.out b7 (Nat.le_refl _))
  have hz7 := b7.size
  clear b7 o7
  go_wp2_with fail
  refine (eqStringS_is w7 _ _ _ _ l n hn O7.out.vw P7.out.vw (by omega)).mono ?_; rintro e w8 ⟨rfl, b8⟩
  have HG8 := Lib.hid (HG7.out.next b8)
  have HO8 := Lib.hid (HO7.out.next b8)
  have O8 := Lib.hid (Nx.owt_of (O7.out.next b8))
  have B8 := Lib.hid (bel_tr B7.out b8 (Nat.le_refl _))
  have hz8 := b8.size
  clear b8 P7
  go_wp2_with fail
  refine (Nx.markS_own w8 (by omega : w3.heap.size ≤ w8.heap.size) O8.out (by omega)).mono ?_; rintro e w9 ⟨rfl, gr9, -⟩
  have HG9 := Lib.hid (show OwO w4.heap.size w9 v5 r from row_next HG8.out fun k hk hlt => gr9.block k hlt (fun e => by have h1 := HGL.out k hk; have h2 : k = g4 := (Option.some.inj e); have h3 := HG4.out; omega))
  have HO9 := Lib.hid (show OwO w2.heap.size w9 v3 r from row_next HO8.out fun k hk hlt => gr9.block k hlt (fun e => by have h1 := HLO.out k hk; have h2 : k = g4 := (Option.some.inj e); have h3 := HG4.out; omega))
  have B9 := Lib.hid (show Below w.heap.size w w9 from B8.out.grown gr9 B8.out.size (fun k hk => by have h2 : g4 = k := (Option.some.inj hk); have h3 := HG4.out; have := B3.out.size; omega))
  have hz9 := gr9.size
  clear gr9
  have q8 : ¬ ((l.length + 1 : Nat) : Int) < 0 := by omega
  go_wp2_with fail
  refine (eqO_own w9 HG9.out HO9.out HNL.out).mono ?_; rintro e w10 ⟨rfl, b10⟩
  have HG10 := Lib.hid (HG9.out.next b10)
  have HO10 := Lib.hid (HO9.out.next b10)
  have B10 := Lib.hid (bel_tr B9.out b10 (Nat.le_refl _))
  have hz10 := b10.size
  clear b10
  go_wp2_with fail
  refine (markO_from (s := 1) w10 HG10.out rfl HNL.out (by decide) (by decide)).mono ?_; rintro e w11 ⟨rfl, gr11, m, hnm, hmk, o11⟩
  have HM11 := Lib.hid o11
  have HMK := Lib.hid hmk
  have HO11 := Lib.hid (show OwO w2.heap.size w11 v3 r from row_next HO10.out fun k hk hlt => gr11.block k hlt (fun e => by have := HLO.out k hk; have := HGL.out k e.symm; omega))
  have B11 := Lib.hid (show Below w.heap.size w w11 from B10.out.grown gr11 B10.out.size (fun k hk => by have := HGL.out k hk; have := B4.out.size; omega))
  have hz11 := gr11.size
  clear gr11 o11 hmk
  have q1 : ¬ ((1 + 3 * r.length : Nat) : Int) < 0 := by omega
  have q2 : (((1 + 3 * r.length : Nat) : Int) != ((1 + 3 * r.length : Nat) : Int)) = false := by simp
  generalize hc : ((1 + 3 * r.length : Nat) : Int) = c at q1 q2 ⊢
  have HC := Lib.hid hc; clear hc
  go_wp2_with fail
  refine (heldO_from (s := 1) w11 HM11.out rfl HMK.out (by have := HNL.out; omega) (by decide) (by decide)).mono ?_; rintro e w12 ⟨rfl, b12⟩
  rw [hnm, HC.out]
  have HM12 := Lib.hid (HM11.out.next b12)
  have HO12 := Lib.hid (HO11.out.next b12)
  have B12 := Lib.hid (bel_tr B11.out b12 (Nat.le_refl _))
  clear b12
  go_wp2_with fail
  refine (toStringS_is w12 a ca l n hn (HV.out.below B12.out) hll).mono ?_; rintro e w13 ⟨g13, rfl, -, o13, b13⟩
  have HM13 := Lib.hid (HM12.out.next b13)
  have HO13 := Lib.hid (HO12.out.next b13)
  have O13 := Lib.hid o13
  have B13 := Lib.hid (bel_tr B12.out b13 (Nat.le_refl _))
  clear b13 o13
  have HI := Lib.hid (implCode_any w13 _ _ l n ⟨hn, by omega, HMA.out, O13.out.vw⟩ (lib3_below HL.out B13.out))
  rw [HR.out] at HI
  go_wp2_with fail
  refine HI.out.mono ?_; rintro e w14 ⟨v14, rfl, o14, b14⟩
  have HH14 := Lib.hid o14
  have HM14 := Lib.hid (HM13.out.next b14)
  have HO14 := Lib.hid (HO13.out.next b14)
  have B14 := Lib.hid (bel_tr B13.out b14 (Nat.le_refl _))
  clear b14 o14 HI
  go_wp2_with fail
  refine (eqO_own w14 HH14.out HO14.out HNL.out).mono ?_; rintro e w15 ⟨rfl, b15⟩
  have HM15 := Lib.hid (HM14.out.next b15)
  have B15 := Lib.hid (bel_tr B14.out b15 (Nat.le_refl _))
  clear b15
  go_wp2_with fail
  refine (heldO_from (s := 1) w15 HM15.out rfl HMK.out (by have := HNL.out; omega) (by decide) (by decide)).mono ?_; rintro e w16 ⟨rfl, b16⟩
  rw [hnm, HC.out]
  have B16 := Lib.hid (bel_tr B15.out b16 (Nat.le_refl _))
  clear b16
  go_wp2_with fail
  go_ret
  exact ⟨rfl, B16.out⟩

theorem door_met (os : Os) (args : Array Value) : laidMetH Tryz.prog Rows.fnExactCodeOfRow.laid ((World.doorLaid Tryz.prog 400 os).forCall (fun _ _ => 0) ⟨#[], args, []⟩).memory :=
  laidMetH_of_parts3 (fuel := 8) (laidMet_of_run' 8 (by kernel_rfl) (by kernel_rfl)) (by kernel_rfl) (by kernel_rfl)
set_option maxRecDepth 100000 in
theorem lifted (os : Os) (started : os.Started) (H : Type) (enc : TypeId × Value → H) :
    ReturnsInHanded {} Tryz.checked os 3 .any (fun w args => (Rows.fnExactCodeOfSpec.pre enc Tryz.prog Tryz.f3 Rows.fnExactCodeOfRow.domain false w args ∧ laidMetH Tryz.prog Rows.fnExactCodeOfRow.laid w) ∧ sizedMet enc Tryz.prog Tryz.f3 (OpenSpec.ofChange Rows.fnExactCodeOfSpec) false w args) (Rows.fnExactCodeOfSpec.post enc Tryz.prog Tryz.f3 false true false false) := by
  refine returnsInHanded_of_change_and (C := Tryz.checked) (X := fun w _ => laidMetH Tryz.prog Rows.fnExactCodeOfRow.laid w) (fun _ _ _ hh h => h.of_heap hh) own started (by kernel_rfl) Tryz.func3
    (ChangeSpec.witness_shaped (enc := enc) (C := Tryz.checked) (os := os) (X := fun w _ => laidMetH Tryz.prog Rows.fnExactCodeOfRow.laid w) false (World.doorLaid Tryz.prog 400 os) #[.slice none 0 0] 8 rfl (World.shaped_of_RefB (by kernel_rfl) (by kernel_rfl)) (by kernel_rfl) (by kernel_rfl) (by kernel_rfl) (door_met os _)) ?_
  intro W base args ds gs before hval0 hW hcnd _ hL _
  have hval : ∀ (j : Nat) t v, Tryz.f3.params[j]? = some t → args[j]? = some v → Value.okWide Tryz.prog W .any base t v := hval0
  have hW' := hW
  obtain ⟨p, q, hA0, hV, rfl, hfz, hnd⟩ := hW
  have hA : DataW.TrodAll enc Tryz.prog W 0 (fun _ => true) true Tryz.f3.params.toList args.toList ds p := hA0
  rw [Tryz.params3] at hA hval
  obtain ⟨v0, vs0, d0, ds0, p0, q0, hargs, rfl, rfl, h0, r0⟩ := trodAll_cons hA
  obtain ⟨rfl, rfl, rfl⟩ := trodAll_nil r0
  obtain rfl : args = #[v0] := by cases args; simp_all
  obtain ⟨rfl, rfl⟩ := trodVars_none hV
  have k0 := h0
  have lt0 : ∀ x ∈ p0, x.block < W.heap.size := by obtain ⟨m, hm⟩ := k0; exact DataW.trod_lt m _ _ _ hm
  clear hA0 hval0
  obtain ⟨a, ca, l, rfl, hvw, hsz⟩ := Fr.openTexts (hval 0 22 v0 rfl rfl) h0
  unfold maxLen at hsz
  have hT : Rp.Lib3 W := by
    have hL2 : laidMetH Tryz.prog Rows.fnExactCodeOfRow.laid W := hL
    have hL3 := (MakeChecks.laidMetH_plain _ _ _ (by kernel_rfl)).mp hL2
    exact Rp.lib3_of hL3.tail.tail
  refine (walk W a ca l _ rfl hvw (fun s hs => by have := hsz s hs; omega) hT).mono fun e W' ⟨he, bel⟩ => ?_
  subst he
  exact ⟨_, rfl, _, _, _, [], _, [], hW', trodAll_mk1 (shut_bool Tryz.underlying4 _), (trodAll_cons_mk (Below.trod laidOut (by kernel_rfl) (of_decide_eq_true (by kernel_rfl)) k0 bel lt0) trodAll_mk0), rfl, bel.frame _, fun h => by cases h⟩

theorem over : Rows.fnExactCodeOfRow.holds Tryz.pinned (OpenSpec.ofChange Rows.fnExactCodeOfSpec) :=
  OpenClaim.holds_of_wide 3 Tryz.f3 rfl rfl rfl rfl rfl rfl rfl ⟨rfl, rfl, rfl, rfl, rfl⟩ rfl rfl rfl rfl rfl (by kernel_rfl) Tryz.func3 (by kernel_rfl)
    (of_decide_eq_true (by kernel_rfl)) (by unfold Func.isWrapper; first | (rw [if_pos (by decide +kernel)]; kernel_rfl) | (rw [if_neg (by decide +kernel)]; exact ⟨rfl, rfl⟩))
    (fun os started H enc _ => lifted os started H enc)

theorem row_proved : Rows.FnExactCodeOfSaid := over
theorem proved : Rows.FnExactCodeOfCardSaid :=
  Claim7.holds_tied_plain_at .later [] [.data, .data, .data, .sentinel, .sentinel] true (true, "5dd2ae72670580a68f34fbb0d8292250e6e1f8b816334896d1a8948c558c7d2b") true
    row_proved (fun _ h => by cases h) (by kernel_rfl) (fun _ h => by cases h) fnExactCodeOf_row_tie rfl ⟨rfl, rfl⟩ (by kernel_rfl) rfl
    (fun f fn hf hfn => by
      obtain rfl : f = 3 := Option.some.inj ((show Tryz.prog.funcNamed "loop.example/g00526/laws.FnExactCodeOf" = some 3 by kernel_rfl).symm.trans hf) |>.symm
      obtain rfl : fn = Tryz.f3 := (Option.some.inj (Tryz.func3.symm.trans hfn)).symm
      exact ⟨by kernel_rfl, fun j t ht => by
        rw [Tryz.params3] at ht
        have hm : t ∈ [22] := by simpa using Array.mem_of_getElem? ht
        have hall : ([22].all fun u => !Tryz.prog.wantsStandIn u) = true := by kernel_rfl
        exact (show Tryz.prog.wantsStandIn t = false by simpa using List.all_eq_true.1 hall t hm)⟩)
    (by kernel_rfl)
#print axioms proved
end Go.Proofs.YtoiphglfngkoiaaGreatDoor.fnExactCodeOf
