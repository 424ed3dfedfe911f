/-
  Proved: for every input the Go function laws.FnExactSteps returns true, and each argument reads afterwards as it read before (the tied card: the library's variables that the row lists start as the program's text lays them).
  Conditions: none beyond those of the given card.
-/
import Derived.Test.YtfnnoehpahdgcaaGreatDoorRows
import Derived.WalkKit
import Derived.ProofKit
import Derived.OpenShut
import Derived.ShutString
import Derived.Carry
import Derived.Below
import Derived.ChangeOld
import Derived.LaidMore
import Derived.Stop.Joined
import Derived.SevenTiedAt
import Derived.Test.YtfnnoehpahdgcaaGreatDoorCards
import Derived.Test.YtfnnoehpahdgcaaGreatDoorTie
import Derived.Test.YtfnnoehpahdgcaaGreatDoorSs9
namespace Go.Proofs.YtfnnoehpahdgcaaGreatDoor.fnExactSteps
open Go.ChangeShapes Go.WideShapes Go.ChangeAt Go.RowKit
open Go.ChangeMaps (open_string shut_string)
set_option linter.unusedVariables false

theorem laidOut : laidOutB Tryz.prog = true := by kernel_rfl
theorem own : ownKnob Tryz.prog.godebug = none := by kernel_rfl

open Kp Cl Rp
set_option maxHeartbeats 8000000 in
set_option maxRecDepth 100000 in
theorem walk (w : World) (a : Option Addr) (ca : Nat) (l : List Tk) (n : Nat) (hn : l.length = n) (hv : V1 w a ca (txL l)) (hm : ∀ s ∈ l, s.length ≤ 9223372036854775807) (hL : Lib3 w)
    (ba : Option Addr) (bc bn : Nat) (bs : List Bi) (hbl : bs.length = bn) (hbv : VwI w ba bc bs) (hbm : ∀ c ∈ bs, c.n.size ≤ 9223372036854775807) (ga : Option Addr) (gc gn : Nat) (gs : List Int) (hgl : gs.length = gn) (hgv : V1 w ga gc (inL gs)) (f : Int) :
    Calls Tryz.prog 6 #[.slice a n ca, .slice ba bn bc, .slice ga gn gc, .int .i64 f] w fun e w' => e = .returned (.bool true) ∧ Below w.heap.size w w' := by
  have HV := Lib.hid hv
  have HBV := Lib.hid hbv
  have HGV := Lib.hid hgv
  have HL := Lib.hid hL
  have hgm : gn ≤ 9223372036854775807 := by have := hgv.1; have h2 := hgv.2.1; rw [inL_len] at this; unfold maxLen at h2; omega
  clear hv hbv hgv hL
  by_cases hgg : 1048576 < gn
  · have i0 : (1048576 : Int) < (gn : Int) := by omega
    go_enter Tryz.func6, Tryz.ntmps6
    go_wp2_with fail
    go_ret
    exact ⟨rfl, Below.refl _ _⟩
  have i0 : ¬ (1048576 : Int) < (gn : Int) := by omega
  have HSZ := Lib.hid (szStringS_any w a ca l n 1048576 hn HV.out hm (by decide) (by decide))
  go_enter Tryz.func6, Tryz.ntmps6
  go_wp2_with fail
  refine HSZ.out.mono ?_; rintro e w1 ⟨z, rfl, b1, hz⟩
  have B1 := Lib.hid b1; clear b1 HSZ
  rcases hz with hz | ⟨z0, z1, hzl, hma⟩
  · go_wp2_with fail
    go_ret
    exact ⟨rfl, B1.out⟩
  have hll : n ≤ 1048576 := by omega
  have HMA := Lib.hid (show ∀ s ∈ l, s.length ≤ 4194304 from fun c hc => by have := hma c hc; omega); clear hma
  have q0 : ¬ z < 0 := by omega
  have HSB := Lib.hid (szBinS_any w1 ba bc bs bn z hbl (HBV.out.below B1.out) hbm z0 z1)
  clear hzl hm
  go_wp2_with fail
  refine HSB.out.mono ?_; rintro e w2 ⟨y, rfl, b2, hy⟩
  have B2 := Lib.hid (bel_tr B1.out b2 (Nat.le_refl _)); clear b2 HSB
  rcases hy with hy | ⟨y0, y1, hyl, hyma⟩
  · go_wp2_with fail
    go_ret
    exact ⟨rfl, B2.out⟩
  have hbb : bn ≤ 1048576 := by omega
  have HBM := Lib.hid (show ∀ c ∈ bs, c.n.size ≤ 9223372036854775806 from fun c hc => by have := hyma c hc; omega); clear hyma
  have q1 : ¬ y < 0 := by omega
  clear z0 z1 y0 y1 hyl hbm q0
  have hgg2 : gn ≤ 1048576 := by omega
  have HS := Lib.hid (fun w a1 c1 (h1 : V1 w a1 c1 (txL l)) b1 d1 (h2 : VwI w b1 d1 bs) e1 g1 (h3 : V1 w e1 g1 (inL gs)) => specSteps_any w (.slice a1 n c1) (.slice b1 bn d1) (.slice e1 gn g1) f (meV l bs gs f) (fun h => meV_wrap h) (specMeans_any w a1 c1 l n hn (by omega) HMA.out h1 b1 d1 bn bs hbl h2 (by omega) e1 g1 gn gs hgl (by omega) h3 f HBM.out))
  have HI := Lib.hid (fun w a1 c1 (h1 : V1 w a1 c1 (txL l)) b1 d1 (h2 : VwI w b1 d1 bs) e1 g1 (h3 : V1 w e1 g1 (inL gs)) (hL : Lib3 w) => implSteps_any w (.slice a1 n c1) (.slice b1 bn d1) (.slice e1 gn g1) f (meV l bs gs f) (fun h => meV_wrap h) (implMeans_any w a1 c1 l n hn (by omega) HMA.out h1 b1 d1 bn bs hbl h2 (by omega) e1 g1 gn gs hgl (by omega) h3 f hL))
  generalize meV l bs gs f = r at *
  have Z2 := Lib.hid B2.out.size
  go_wp2_with fail
  refine (toStringS_is w2 a ca l n hn (HV.out.below B2.out) hll).mono ?_; rintro e w3 ⟨q1, rfl, -, o, b3⟩
  have Ta := Lib.hid (show ∀ k, (.slice (some ⟨q1, 0, none⟩) n n : Value).ownBlock = some k → w2.heap.size ≤ k from OT.lt o)
  have Ua := Lib.hid (show ∀ k, (.slice (some ⟨q1, 0, none⟩) n n : Value).ownBlock = some k → w3.heap.size > k from OT.low o)
  have B3 := Lib.hid (bel_tr B2.out b3 (Nat.le_refl _))
  have Z3 := Lib.hid b3.size
  have Oa := Lib.hid o; clear o b3
  go_wp2_with fail
  refine (toBinS_is w3 ba bc bs bn hbl (HBV.out.below B3.out) hbb).mono ?_; rintro e w4 ⟨q2, rfl, -, o, b4⟩
  have Tb := Lib.hid (show ∀ k, (.slice (some ⟨q2, 0, none⟩) bn bn : Value).ownBlock = some k → w3.heap.size ≤ k from OwI.lt o)
  have Ub := Lib.hid (show ∀ k, (.slice (some ⟨q2, 0, none⟩) bn bn : Value).ownBlock = some k → w4.heap.size > k from OwI.low o)
  have B4 := Lib.hid (bel_tr B3.out b4 (Nat.le_refl _))
  have Z4 := Lib.hid b4.size
  have Oa := Lib.hid (Oa.out.next b4)
  have Ob := Lib.hid o; clear o b4
  go_wp2_with fail
  refine (toInt64S_is w4 ga gc gs gn hgl (HGV.out.below B4.out) hgg2).mono ?_; rintro e w5 ⟨q3, rfl, -, o, b5⟩
  have Tc := Lib.hid (show ∀ k, (.slice (some ⟨q3, 0, none⟩) gn gn : Value).ownBlock = some k → w4.heap.size ≤ k from ON.lt o)
  have Uc := Lib.hid (show ∀ k, (.slice (some ⟨q3, 0, none⟩) gn gn : Value).ownBlock = some k → w5.heap.size > k from ON.low o)
  have B5 := Lib.hid (bel_tr B4.out b5 (Nat.le_refl _))
  have Z5 := Lib.hid b5.size
  have Oa := Lib.hid (Oa.out.next b5)
  have Ob := Lib.hid (Ob.out.next b5)
  have Oc := Lib.hid o; clear o b5
  go_wp2_with fail
  refine (HS.out w5 _ _ Oa.out.vw _ _ Ob.out.vw _ _ Oc.out.vw).mono ?_; rintro e w6 ⟨rfl, b6⟩
  have B6 := Lib.hid (bel_tr B5.out b6 (Nat.le_refl _))
  have Z6 := Lib.hid b6.size
  have Oa := Lib.hid (Oa.out.next b6)
  have Ob := Lib.hid (Ob.out.next b6)
  have Oc := Lib.hid (Oc.out.next b6)
  clear b6
  clear Oa
  clear Ob
  clear Oc
  have q2 : (stV r f != stV r f) = false := by simp
  generalize stV r f = sv at *
  go_wp2_with fail
  refine (toStringS_is w6 a ca l n hn (HV.out.below B6.out) hll).mono ?_; rintro e w7 ⟨q4, rfl, -, o, b7⟩
  have Tx := Lib.hid (show ∀ k, (.slice (some ⟨q4, 0, none⟩) n n : Value).ownBlock = some k → w6.heap.size ≤ k from OT.lt o)
  have Ux := Lib.hid (show ∀ k, (.slice (some ⟨q4, 0, none⟩) n n : Value).ownBlock = some k → w7.heap.size > k from OT.low o)
  have B7 := Lib.hid (bel_tr B6.out b7 (Nat.le_refl _))
  have Z7 := Lib.hid b7.size
  have Ox := Lib.hid o; clear o b7
  go_wp2_with fail
  refine (toBinS_is w7 ba bc bs bn hbl (HBV.out.below B7.out) hbb).mono ?_; rintro e w8 ⟨q5, rfl, -, o, b8⟩
  have Ty := Lib.hid (show ∀ k, (.slice (some ⟨q5, 0, none⟩) bn bn : Value).ownBlock = some k → w7.heap.size ≤ k from OwI.lt o)
  have Uy := Lib.hid (show ∀ k, (.slice (some ⟨q5, 0, none⟩) bn bn : Value).ownBlock = some k → w8.heap.size > k from OwI.low o)
  have B8 := Lib.hid (bel_tr B7.out b8 (Nat.le_refl _))
  have Z8 := Lib.hid b8.size
  have Ox := Lib.hid (Ox.out.next b8)
  have Oy := Lib.hid o; clear o b8
  go_wp2_with fail
  refine (toInt64S_is w8 ga gc gs gn hgl (HGV.out.below B8.out) hgg2).mono ?_; rintro e w9 ⟨q6, rfl, -, o, b9⟩
  have Tzz := Lib.hid (show ∀ k, (.slice (some ⟨q6, 0, none⟩) gn gn : Value).ownBlock = some k → w8.heap.size ≤ k from ON.lt o)
  have Uzz := Lib.hid (show ∀ k, (.slice (some ⟨q6, 0, none⟩) gn gn : Value).ownBlock = some k → w9.heap.size > k from ON.low o)
  have B9 := Lib.hid (bel_tr B8.out b9 (Nat.le_refl _))
  have Z9 := Lib.hid b9.size
  have Ox := Lib.hid (Ox.out.next b9)
  have Oy := Lib.hid (Oy.out.next b9)
  have Ozz := Lib.hid o; clear o b9
  go_wp2_with fail
  refine (HI.out w9 _ _ Ox.out.vw _ _ Oy.out.vw _ _ Ozz.out.vw (lib3_below HL.out B9.out)).mono ?_; rintro e w10 ⟨rfl, b10⟩
  have B10 := Lib.hid (bel_tr B9.out b10 (Nat.le_refl _))
  have Z10 := Lib.hid b10.size
  have Ox := Lib.hid (Ox.out.next b10)
  have Oy := Lib.hid (Oy.out.next b10)
  have Ozz := Lib.hid (Ozz.out.next b10)
  clear b10
  go_wp2_with fail
  refine (toStringS_is w10 a ca l n hn (HV.out.below B10.out) hll).mono ?_; rintro e w11 ⟨q7, rfl, -, o, b11⟩
  have Tt := Lib.hid (show ∀ k, (.slice (some ⟨q7, 0, none⟩) n n : Value).ownBlock = some k → w10.heap.size ≤ k from OT.lt o)
  have Ut := Lib.hid (show ∀ k, (.slice (some ⟨q7, 0, none⟩) n n : Value).ownBlock = some k → w11.heap.size > k from OT.low o)
  have B11 := Lib.hid (bel_tr B10.out b11 (Nat.le_refl _))
  have Z11 := Lib.hid b11.size
  have Ox := Lib.hid (Ox.out.next b11)
  have Oy := Lib.hid (Oy.out.next b11)
  have Ozz := Lib.hid (Ozz.out.next b11)
  have Ot := Lib.hid o; clear o b11
  go_wp2_with fail
  refine (eqStringS_is w11 _ _ _ _ l n hn Ox.out.vw Ot.out.vw (by omega)).mono ?_; rintro e w12 ⟨rfl, b12⟩
  have B12 := Lib.hid (bel_tr B11.out b12 (Nat.le_refl _))
  have Z12 := Lib.hid b12.size
  have Ox := Lib.hid (Ox.out.next b12)
  have Oy := Lib.hid (Oy.out.next b12)
  have Ozz := Lib.hid (Ozz.out.next b12)
  have Ot := Lib.hid (Ot.out.next b12)
  clear b12
  clear Ot
  clear Ox
  go_wp2_with fail
  refine (toBinS_is w12 ba bc bs bn hbl (HBV.out.below B12.out) hbb).mono ?_; rintro e w13 ⟨q8, rfl, -, o, b13⟩
  have Tt := Lib.hid (show ∀ k, (.slice (some ⟨q8, 0, none⟩) bn bn : Value).ownBlock = some k → w12.heap.size ≤ k from OwI.lt o)
  have Ut := Lib.hid (show ∀ k, (.slice (some ⟨q8, 0, none⟩) bn bn : Value).ownBlock = some k → w13.heap.size > k from OwI.low o)
  have B13 := Lib.hid (bel_tr B12.out b13 (Nat.le_refl _))
  have Z13 := Lib.hid b13.size
  have Oy := Lib.hid (Oy.out.next b13)
  have Ozz := Lib.hid (Ozz.out.next b13)
  have Ot := Lib.hid o; clear o b13
  go_wp2_with fail
  refine (eqBinS_same w13 _ _ _ _ bs bn hbl Oy.out.vw Ot.out.vw (by omega)).mono ?_; rintro e w14 ⟨rfl, b14⟩
  have B14 := Lib.hid (bel_tr B13.out b14 (Nat.le_refl _))
  have Z14 := Lib.hid b14.size
  have Oy := Lib.hid (Oy.out.next b14)
  have Ozz := Lib.hid (Ozz.out.next b14)
  have Ot := Lib.hid (Ot.out.next b14)
  clear b14
  clear Ot
  clear Oy
  go_wp2_with fail
  refine (toInt64S_is w14 ga gc gs gn hgl (HGV.out.below B14.out) hgg2).mono ?_; rintro e w15 ⟨q9, rfl, -, o, b15⟩
  have Tt := Lib.hid (show ∀ k, (.slice (some ⟨q9, 0, none⟩) gn gn : Value).ownBlock = some k → w14.heap.size ≤ k from ON.lt o)
  have Ut := Lib.hid (show ∀ k, (.slice (some ⟨q9, 0, none⟩) gn gn : Value).ownBlock = some k → w15.heap.size > k from ON.low o)
  have B15 := Lib.hid (bel_tr B14.out b15 (Nat.le_refl _))
  have Z15 := Lib.hid b15.size
  have Ozz := Lib.hid (Ozz.out.next b15)
  have Ot := Lib.hid o; clear o b15
  go_wp2_with fail
  refine (eqInt64S_is w15 _ _ _ _ gs gn hgl Ozz.out.vw Ot.out.vw (by omega)).mono ?_; rintro e w16 ⟨rfl, b16⟩
  have B16 := Lib.hid (bel_tr B15.out b16 (Nat.le_refl _))
  have Z16 := Lib.hid b16.size
  have Ozz := Lib.hid (Ozz.out.next b16)
  have Ot := Lib.hid (Ot.out.next b16)
  clear b16
  clear Ot
  go_wp2_with fail
  go_ret
  exact ⟨rfl, B16.out⟩

theorem door_met (os : Os) (args : Array Value) : laidMetH Tryz.prog Rows.fnExactStepsRow.laid ((World.doorLaid Tryz.prog 400 os).forCall (fun _ _ => 0) ⟨#[], args, []⟩).memory :=
  laidMetH_of_parts3 (fuel := 8) (laidMet_of_run' 8 (by kernel_rfl) (by kernel_rfl)) (by kernel_rfl) (by kernel_rfl)
set_option maxRecDepth 100000 in
theorem lifted (os : Os) (started : os.Started) (H : Type) (enc : TypeId × Value → H) :
    ReturnsInHanded {} Tryz.checked os 6 .any (fun w args => (Rows.fnExactStepsSpec.pre enc Tryz.prog Tryz.f6 Rows.fnExactStepsRow.domain false w args ∧ laidMetH Tryz.prog Rows.fnExactStepsRow.laid w) ∧ sizedMet enc Tryz.prog Tryz.f6 (OpenSpec.ofChange Rows.fnExactStepsSpec) false w args) (Rows.fnExactStepsSpec.post enc Tryz.prog Tryz.f6 false true false false) := by
  refine returnsInHanded_of_change_and (C := Tryz.checked) (X := fun w _ => laidMetH Tryz.prog Rows.fnExactStepsRow.laid w) (fun _ _ _ hh h => h.of_heap hh) own started (by kernel_rfl) Tryz.func6
    (ChangeSpec.witness_shaped (enc := enc) (C := Tryz.checked) (os := os) (X := fun w _ => laidMetH Tryz.prog Rows.fnExactStepsRow.laid w) false (World.doorLaid Tryz.prog 400 os) #[.slice none 0 0, .slice none 0 0, .slice none 0 0, .int .i64 0] 8 rfl (World.shaped_of_RefB (by kernel_rfl) (by kernel_rfl)) (by kernel_rfl) (by kernel_rfl) (by kernel_rfl) (door_met os _)) ?_
  intro W base args ds gs before hval0 hW hcnd _ hL _
  have hval : ∀ (j : Nat) t v, Tryz.f6.params[j]? = some t → args[j]? = some v → Value.okWide Tryz.prog W .any base t v := hval0
  have hW' := hW
  obtain ⟨p, q, hA0, hV, rfl, hfz, hnd⟩ := hW
  have hA : DataW.TrodAll enc Tryz.prog W 0 (fun _ => true) true Tryz.f6.params.toList args.toList ds p := hA0
  rw [Tryz.params6] at hA hval
  obtain ⟨v0, vs0, d0, ds0, p0, q0, hargs, rfl, rfl, h0, r0⟩ := trodAll_cons hA
  obtain ⟨v1, vs1, d1, ds1, p1, q1, rfl, rfl, rfl, h1, r1⟩ := trodAll_cons r0
  obtain ⟨v2, vs2, d2, ds2, p2, q2, rfl, rfl, rfl, h2, r2⟩ := trodAll_cons r1
  obtain ⟨v3, vs3, d3, ds3, p3, q3, rfl, rfl, rfl, h3, r3⟩ := trodAll_cons r2
  obtain ⟨rfl, rfl, rfl⟩ := trodAll_nil r3
  obtain rfl : args = #[v0, v1, v2, v3] := by cases args; simp_all
  obtain ⟨rfl, rfl⟩ := trodVars_none hV
  have k0 := h0
  have lt0 : ∀ x ∈ p0, x.block < W.heap.size := by obtain ⟨m, hm⟩ := k0; exact DataW.trod_lt m _ _ _ hm
  have k1 := h1
  have lt1 : ∀ x ∈ p1, x.block < W.heap.size := by obtain ⟨m, hm⟩ := k1; exact DataW.trod_lt m _ _ _ hm
  have k2 := h2
  have lt2 : ∀ x ∈ p2, x.block < W.heap.size := by obtain ⟨m, hm⟩ := k2; exact DataW.trod_lt m _ _ _ hm
  have k3 := h3
  have lt3 : ∀ x ∈ p3, x.block < W.heap.size := by obtain ⟨m, hm⟩ := k3; exact DataW.trod_lt m _ _ _ hm
  clear hA0 hval0
  obtain ⟨a, ca, l, rfl, hvw, hsz⟩ := Fr.openTexts (hval 0 24 v0 rfl rfl) h0
  obtain ⟨ba, bc, bs, rfl, hbw, hbz⟩ := Fr.openBins (hval 1 49 v1 rfl rfl) h1
  obtain ⟨ga, gc, gs, rfl, hgw, -⟩ := Fr.openInts (hval 2 26 v2 rfl rfl) h2
  obtain ⟨x, rfl, -⟩ := open_int Tryz.underlying2 (hval 3 2 v3 rfl rfl) h3
  unfold maxLen at hsz hbz
  have hT : Rp.Lib3 W := by
    have hL2 : laidMetH Tryz.prog Rows.fnExactStepsRow.laid W := hL
    have hL3 := (MakeChecks.laidMetH_plain _ _ _ (by kernel_rfl)).mp hL2
    exact Rp.lib3_of hL3.tail.tail
  refine (walk W a ca l _ rfl hvw (fun s hs => by have := hsz s hs; omega) hT ba bc _ bs rfl hbw (fun c hc => by have := hbz c hc; omega) ga gc _ gs rfl hgw x).mono fun e W' ⟨he, bel⟩ => ?_
  subst he
  exact ⟨_, rfl, _, _, _, [], _, [], hW', trodAll_mk1 (shut_bool Tryz.underlying4 _), (trodAll_cons_mk (Below.trod laidOut (by kernel_rfl) (of_decide_eq_true (by kernel_rfl)) k0 bel lt0) (trodAll_cons_mk (Below.trod laidOut (by kernel_rfl) (of_decide_eq_true (by kernel_rfl)) k1 bel lt1) (trodAll_cons_mk (Below.trod laidOut (by kernel_rfl) (of_decide_eq_true (by kernel_rfl)) k2 bel lt2) (trodAll_cons_mk (Below.trod laidOut (by kernel_rfl) (of_decide_eq_true (by kernel_rfl)) k3 bel lt3) trodAll_mk0)))), rfl, bel.frame _, fun h => by cases h⟩

theorem over : Rows.fnExactStepsRow.holds Tryz.pinned (OpenSpec.ofChange Rows.fnExactStepsSpec) :=
  OpenClaim.holds_of_wide 6 Tryz.f6 rfl rfl rfl rfl rfl rfl rfl ⟨rfl, rfl, rfl, rfl, rfl⟩ rfl rfl rfl rfl rfl (by kernel_rfl) Tryz.func6 (by kernel_rfl)
    (of_decide_eq_true (by kernel_rfl)) (by unfold Func.isWrapper; first | (rw [if_pos (by decide +kernel)]; kernel_rfl) | (rw [if_neg (by decide +kernel)]; exact ⟨rfl, rfl⟩))
    (fun os started H enc _ => lifted os started H enc)

theorem row_proved : Rows.FnExactStepsSaid := over
theorem proved : Rows.FnExactStepsCardSaid :=
  Claim7.holds_tied_plain_at .later [] [.data, .data, .data, .sentinel, .sentinel] true (true, "cd3cc0e5522648959acd48973a9bdad8d56ca5d729f8e96e9cf073747923f11e") true
    row_proved (fun _ h => by cases h) (by kernel_rfl) (fun _ h => by cases h) fnExactSteps_row_tie rfl ⟨rfl, rfl⟩ (by kernel_rfl) rfl
    (fun f fn hf hfn => by
      obtain rfl : f = 6 := Option.some.inj ((show Tryz.prog.funcNamed "loop.example/g00526/laws.FnExactSteps" = some 6 by kernel_rfl).symm.trans hf) |>.symm
      obtain rfl : fn = Tryz.f6 := (Option.some.inj (Tryz.func6.symm.trans hfn)).symm
      exact ⟨by kernel_rfl, fun j t ht => by
        rw [Tryz.params6] at ht
        have hm : t ∈ [24, 49, 26, 2] := by simpa using Array.mem_of_getElem? ht
        have hall : ([24, 49, 26, 2].all fun u => !Tryz.prog.wantsStandIn u) = true := by kernel_rfl
        exact (show Tryz.prog.wantsStandIn t = false by simpa using List.all_eq_true.1 hall t hm)⟩)
    (by kernel_rfl)
#print axioms proved
end Go.Proofs.YtfnnoehpahdgcaaGreatDoor.fnExactSteps
