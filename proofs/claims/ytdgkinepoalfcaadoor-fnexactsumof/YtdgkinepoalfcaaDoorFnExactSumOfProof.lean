/-
  Proved: for every input the Go function laws.FnExactSumOf returns true, and each argument reads afterwards as it read before (the tied card: the library's variables that the row lists start as the program's text lays them).
  Conditions: none beyond those of the given card.
-/
import Derived.Test.YtdgkinepoalfcaaDoorRows
import Derived.WalkKit
import Derived.ProofKit
import Derived.OpenShut
import Derived.ShutString
import Derived.Carry
import Derived.Below
import Derived.ChangeOld
import Derived.LaidMore
import Derived.Stop.Joined
import Derived.SevenTiedAt
import Derived.Test.YtdgkinepoalfcaaDoorCards
import Derived.Test.YtdgkinepoalfcaaDoorTie
import Derived.Test.YtdgkinepoalfcaaDoorYn
import Derived.Test.YtdgkinepoalfcaaDoorYo
import Derived.Test.YtdgkinepoalfcaaDoorJo
import Derived.Test.YtdgkinepoalfcaaDoorRl
namespace Go.Proofs.YtdgkinepoalfcaaDoor.fnExactSumOf
open Go.ChangeShapes Go.WideShapes Go.ChangeAt Go.RowKit
open Go.ChangeMaps (open_string shut_string)
set_option linter.unusedVariables false

theorem laidOut : laidOutB Tryd.prog = true := by kernel_rfl
theorem own : ownKnob Tryd.prog.godebug = none := by kernel_rfl

open Kp Cl Rp
set_option maxHeartbeats 8000000 in
set_option maxRecDepth 100000 in
theorem walk (w : World) (a : Option Addr) (ca : Nat) (l : List Tk) (n : Nat) (i : Int) (hi : Wd.I64 i) (hn : l.length = n) (hv : V1 w a ca (txL l)) (hm : ∀ s ∈ l, s.length ≤ 9223372036854775807) (hL : Lib3 w)
    (ba : Option Addr) (bc bn : Nat) (bs : List Bi) (hbl : bs.length = bn) (hbv : VwI w ba bc bs) (hbm : ∀ c ∈ bs, c.n.size ≤ 9223372036854775807) (ga : Option Addr) (gc gn : Nat) (gs : List Int) (hgl : gs.length = gn) (hgv : V1 w ga gc (inL gs)) :
    Calls Tryd.prog 7 #[.slice a n ca, .int .i64 i, .slice ba bn bc, .slice ga gn gc] w fun e w' => e = .returned (.bool true) ∧ Below w.heap.size w w' := by
  have HV := Lib.hid hv
  have HBV := Lib.hid hbv
  have HGV := Lib.hid hgv
  have HL := Lib.hid hL
  have hgm : gn ≤ 9223372036854775807 := by have := hgv.1; have h2 := hgv.2.1; rw [inL_len] at this; unfold maxLen at h2; omega
  clear hv hbv hgv hL
  by_cases hgg : 1048576 < gn
  · have i0 : (1048576 : Int) < (gn : Int) := by omega
    go_enter Tryd.func7, Tryd.ntmps7
    go_wp2_with fail
    go_ret
    exact ⟨rfl, Below.refl _ _⟩
  have i0 : ¬ (1048576 : Int) < (gn : Int) := by omega
  have HSZ := Lib.hid (szStringS_any w a ca l n 1048576 hn HV.out hm (by decide) (by decide))
  go_enter Tryd.func7, Tryd.ntmps7
  go_wp2_with fail
  refine HSZ.out.mono ?_; rintro e w1 ⟨z, rfl, b1, hz⟩
  have B1 := Lib.hid b1; clear b1 HSZ
  rcases hz with hz | ⟨z0, z1, hzl, hma⟩
  · go_wp2_with fail
    go_ret
    exact ⟨rfl, B1.out⟩
  have hll : n ≤ 1048576 := by omega
  have HMA := Lib.hid (show ∀ s ∈ l, s.length ≤ 4194304 from fun c hc => by have := hma c hc; omega); clear hma
  have q0 : ¬ z < 0 := by omega
  have HSB := Lib.hid (szBinS_any w1 ba bc bs bn z hbl (HBV.out.below B1.out) hbm z0 z1)
  clear hzl hm
  go_wp2_with fail
  refine HSB.out.mono ?_; rintro e w2 ⟨y, rfl, b2, hy⟩
  have B2 := Lib.hid (bel_tr B1.out b2 (Nat.le_refl _)); clear b2 HSB
  rcases hy with hy | ⟨y0, y1, hyl, hyma⟩
  · go_wp2_with fail
    go_ret
    exact ⟨rfl, B2.out⟩
  have hbb : bn ≤ 1048576 := by omega
  have HBM := Lib.hid (show ∀ c ∈ bs, c.n.size ≤ 9223372036854775806 from fun c hc => by have := hyma c hc; omega); clear hyma
  have q1 : ¬ y < 0 := by omega
  clear z0 z1 y0 y1 hyl hbm q0
  have hgg2 : gn ≤ 1048576 := by omega
  go_wp2_with fail
  refine (toStringS_is w2 a ca l n hn (HV.out.below B2.out) hll).mono ?_; rintro e w3 ⟨g3, rfl, -, o3, b3⟩
  have B3 := Lib.hid (bel_tr B2.out b3 (Nat.le_refl _)); clear b3
  have O3 := Lib.hid o3; clear o3
  go_wp2_with fail
  refine (toBinS_is w3 ba bc bs bn hbl (HBV.out.below B3.out) hbb).mono ?_; rintro e w4 ⟨g4, rfl, -, o4, b4⟩
  have B4 := Lib.hid (bel_tr B3.out b4 (Nat.le_refl _))
  have O34 := Lib.hid (O3.out.next b4); clear b4 O3
  have O4 := Lib.hid o4; clear o4
  go_wp2_with fail
  refine (toInt64S_is w4 ga gc gs gn hgl (HGV.out.below B4.out) hgg2).mono ?_; rintro e w5 ⟨g5, rfl, -, o5, b5⟩
  have B5 := Lib.hid (bel_tr B4.out b5 (Nat.le_refl _))
  have O35 := Lib.hid (O34.out.next b5); clear O34
  have O45 := Lib.hid (O4.out.next b5); clear b5 O4
  have O5 := Lib.hid o5; clear o5
  go_wp2_with fail
  refine (specSum_any w5 _ _ l n i hi hn O35.out.vw (by omega) HMA.out _ _ _ bs hbl O45.out.vw (by omega) HBM.out _ _ _ gs hgl O5.out.vw (by omega)).mono ?_; rintro e w6 ⟨rfl, b6⟩
  have B6 := Lib.hid (bel_tr B5.out b6 (Nat.le_refl _)); clear b6 O35 O45 O5
  generalize hr : vlV l i bs gs = r at *
  obtain ⟨r, rb⟩ := r
  have HR := Lib.hid hr; clear hr
  go_wp2_with fail
  refine (toStringS_is w6 a ca l n hn (HV.out.below B6.out) hll).mono ?_; rintro e w7 ⟨g7, rfl, -, o7, b7⟩
  have B7 := Lib.hid (bel_tr B6.out b7 (Nat.le_refl _)); clear b7
  have O7 := Lib.hid o7; clear o7
  go_wp2_with fail
  refine (toBinS_is w7 ba bc bs bn hbl (HBV.out.below B7.out) hbb).mono ?_; rintro e w8 ⟨g8, rfl, -, o8, b8⟩
  have B8 := Lib.hid (bel_tr B7.out b8 (Nat.le_refl _))
  have O78 := Lib.hid (O7.out.next b8); clear b8 O7
  have O8 := Lib.hid o8; clear o8
  go_wp2_with fail
  refine (toInt64S_is w8 ga gc gs gn hgl (HGV.out.below B8.out) hgg2).mono ?_; rintro e w9 ⟨g9, rfl, -, o9, b9⟩
  have B9 := Lib.hid (bel_tr B8.out b9 (Nat.le_refl _))
  have O79 := Lib.hid (O78.out.next b9); clear O78
  have O89 := Lib.hid (O8.out.next b9); clear b9 O8
  have O9 := Lib.hid o9; clear o9
  have HI := Lib.hid (implSum_any w9 _ _ l n i hi hn O79.out.vw (by omega) HMA.out (lib3_below HL.out B9.out) _ _ _ bs hbl O89.out.vw (by omega) _ _ _ gs hgl O9.out.vw (by omega))
  rw [HR.out] at HI
  simp only at HI
  have q2 : (r != r) = false := by simp
  have q3 : (rb != rb) = false := by simp
  go_wp2_with fail
  refine HI.out.mono ?_; rintro e x1 ⟨rfl, c1⟩
  have C1 := Lib.hid (bel_tr B9.out c1 (Nat.le_refl _))
  have P7 := Lib.hid (O79.out.next c1); clear O79
  have P8 := Lib.hid (O89.out.next c1); clear O89
  have P9 := Lib.hid (O9.out.next c1); clear c1 O9 HI
  go_wp2_with fail
  refine (toStringS_is x1 a ca l n hn (HV.out.below C1.out) hll).mono ?_; rintro e x2 ⟨h2, rfl, -, o2, c2⟩
  have C2 := Lib.hid (bel_tr C1.out c2 (Nat.le_refl _))
  have P72 := Lib.hid (P7.out.next c2); clear P7
  have P82 := Lib.hid (P8.out.next c2); clear P8
  have P92 := Lib.hid (P9.out.next c2); clear c2 P9
  have T2 := Lib.hid o2; clear o2
  go_wp2_with fail
  refine (eqStringS_is x2 _ _ _ _ l n hn P72.out.vw T2.out.vw (by omega)).mono ?_; rintro e x3 ⟨rfl, c3⟩
  have C3 := Lib.hid (bel_tr C2.out c3 (Nat.le_refl _))
  have P83 := Lib.hid (P82.out.next c3); clear P82
  have P93 := Lib.hid (P92.out.next c3); clear c3 P92 P72 T2
  go_wp2_with fail
  refine (toBinS_is x3 ba bc bs bn hbl (HBV.out.below C3.out) hbb).mono ?_; rintro e x4 ⟨h4, rfl, -, o4, c4⟩
  have C4 := Lib.hid (bel_tr C3.out c4 (Nat.le_refl _))
  have P84 := Lib.hid (P83.out.next c4); clear P83
  have P94 := Lib.hid (P93.out.next c4); clear c4 P93
  have T4 := Lib.hid o4; clear o4
  go_wp2_with fail
  refine (eqBinS_same x4 _ _ _ _ bs bn hbl P84.out.vw T4.out.vw (by omega)).mono ?_; rintro e x5 ⟨rfl, c5⟩
  have C5 := Lib.hid (bel_tr C4.out c5 (Nat.le_refl _))
  have P95 := Lib.hid (P94.out.next c5); clear c5 P94 P84 T4
  go_wp2_with fail
  refine (toInt64S_is x5 ga gc gs gn hgl (HGV.out.below C5.out) hgg2).mono ?_; rintro e x6 ⟨h6, rfl, -, o6, c6⟩
  have C6 := Lib.hid (bel_tr C5.out c6 (Nat.le_refl _))
  have P96 := Lib.hid (P95.out.next c6); clear c6 P95
  have T6 := Lib.hid o6; clear o6
  go_wp2_with fail
  refine (eqInt64S_is x6 _ _ _ _ gs gn hgl P96.out.vw T6.out.vw (by omega)).mono ?_; rintro e x7 ⟨rfl, c7⟩
  have C7 := Lib.hid (bel_tr C6.out c7 (Nat.le_refl _)); clear c7
  go_wp2_with fail
  go_ret
  exact ⟨rfl, C7.out⟩

theorem door_met (os : Os) (args : Array Value) : laidMetH Tryd.prog Rows.fnExactSumOfRow.laid ((World.doorLaid Tryd.prog 400 os).forCall (fun _ _ => 0) ⟨#[], args, []⟩).memory :=
  laidMetH_of_parts3 (fuel := 8) (laidMet_of_run' 8 (by kernel_rfl) (by kernel_rfl)) (by kernel_rfl) (by kernel_rfl)
set_option maxRecDepth 100000 in
theorem lifted (os : Os) (started : os.Started) (H : Type) (enc : TypeId × Value → H) :
    ReturnsInHanded {} Tryd.checked os 7 .any (fun w args => (Rows.fnExactSumOfSpec.pre enc Tryd.prog Tryd.f7 Rows.fnExactSumOfRow.domain false w args ∧ laidMetH Tryd.prog Rows.fnExactSumOfRow.laid w) ∧ sizedMet enc Tryd.prog Tryd.f7 (OpenSpec.ofChange Rows.fnExactSumOfSpec) false w args) (Rows.fnExactSumOfSpec.post enc Tryd.prog Tryd.f7 false true false false) := by
  refine returnsInHanded_of_change_and (C := Tryd.checked) (X := fun w _ => laidMetH Tryd.prog Rows.fnExactSumOfRow.laid w) (fun _ _ _ hh h => h.of_heap hh) own started (by kernel_rfl) Tryd.func7
    (ChangeSpec.witness_shaped (enc := enc) (C := Tryd.checked) (os := os) (X := fun w _ => laidMetH Tryd.prog Rows.fnExactSumOfRow.laid w) false (World.doorLaid Tryd.prog 400 os) #[.slice none 0 0, .int .i64 0, .slice none 0 0, .slice none 0 0] 8 rfl (World.shaped_of_RefB (by kernel_rfl) (by kernel_rfl)) (by kernel_rfl) (by kernel_rfl) (by kernel_rfl) (door_met os _)) ?_
  intro W base args ds gs before hval0 hW hcnd _ hL _
  have hval : ∀ (j : Nat) t v, Tryd.f7.params[j]? = some t → args[j]? = some v → Value.okWide Tryd.prog W .any base t v := hval0
  have hW' := hW
  obtain ⟨p, q, hA0, hV, rfl, hfz, hnd⟩ := hW
  have hA : DataW.TrodAll enc Tryd.prog W 0 (fun _ => true) true Tryd.f7.params.toList args.toList ds p := hA0
  rw [Tryd.params7] at hA hval
  obtain ⟨v0, vs0, d0, ds0, p0, q0, hargs, rfl, rfl, h0, r0⟩ := trodAll_cons hA
  obtain ⟨v1, vs1, d1, ds1, p1, q1, rfl, rfl, rfl, h1, r1⟩ := trodAll_cons r0
  obtain ⟨v2, vs2, d2, ds2, p2, q2, rfl, rfl, rfl, h2, r2⟩ := trodAll_cons r1
  obtain ⟨v3, vs3, d3, ds3, p3, q3, rfl, rfl, rfl, h3, r3⟩ := trodAll_cons r2
  obtain ⟨rfl, rfl, rfl⟩ := trodAll_nil r3
  obtain rfl : args = #[v0, v1, v2, v3] := by cases args; simp_all
  obtain ⟨rfl, rfl⟩ := trodVars_none hV
  have k0 := h0
  have lt0 : ∀ x ∈ p0, x.block < W.heap.size := by obtain ⟨m, hm⟩ := k0; exact DataW.trod_lt m _ _ _ hm
  have k1 := h1
  have lt1 : ∀ x ∈ p1, x.block < W.heap.size := by obtain ⟨m, hm⟩ := k1; exact DataW.trod_lt m _ _ _ hm
  have k2 := h2
  have lt2 : ∀ x ∈ p2, x.block < W.heap.size := by obtain ⟨m, hm⟩ := k2; exact DataW.trod_lt m _ _ _ hm
  have k3 := h3
  have lt3 : ∀ x ∈ p3, x.block < W.heap.size := by obtain ⟨m, hm⟩ := k3; exact DataW.trod_lt m _ _ _ hm
  clear hA0 hval0
  obtain ⟨a, ca, l, rfl, hvw, hsz⟩ := Fr.openTexts (hval 0 24 v0 rfl rfl) h0
  obtain ⟨x, rfl, hx⟩ := open_int Tryd.underlying2 (hval 1 2 v1 rfl rfl) h1
  obtain ⟨ba, bc, bs, rfl, hbw, hbz⟩ := Fr.openBins (hval 2 32 v2 rfl rfl) h2
  obtain ⟨ga, gc, gs, rfl, hgw, -⟩ := Fr.openInts (hval 3 33 v3 rfl rfl) h3
  unfold maxLen at hsz hbz
  have hT : Rp.Lib3 W := by
    have hL2 : laidMetH Tryd.prog Rows.fnExactSumOfRow.laid W := hL
    have hL3 := (MakeChecks.laidMetH_plain _ _ _ (by kernel_rfl)).mp hL2
    exact Rp.lib3_of hL3.tail.tail
  refine (walk W a ca l _ x (Wd.i64_of_wf hx.2.2) rfl hvw (fun s hs => by have := hsz s hs; omega) hT ba bc _ bs rfl hbw (fun c hc => by have := hbz c hc; omega) ga gc _ gs rfl hgw).mono fun e W' ⟨he, bel⟩ => ?_
  subst he
  exact ⟨_, rfl, _, _, _, [], _, [], hW', trodAll_mk1 (shut_bool Tryd.underlying4 _), (trodAll_cons_mk (Below.trod laidOut (by kernel_rfl) (of_decide_eq_true (by kernel_rfl)) k0 bel lt0) (trodAll_cons_mk (Below.trod laidOut (by kernel_rfl) (of_decide_eq_true (by kernel_rfl)) k1 bel lt1) (trodAll_cons_mk (Below.trod laidOut (by kernel_rfl) (of_decide_eq_true (by kernel_rfl)) k2 bel lt2) (trodAll_cons_mk (Below.trod laidOut (by kernel_rfl) (of_decide_eq_true (by kernel_rfl)) k3 bel lt3) trodAll_mk0)))), rfl, bel.frame _, fun h => by cases h⟩

theorem over : Rows.fnExactSumOfRow.holds Tryd.pinned (OpenSpec.ofChange Rows.fnExactSumOfSpec) :=
  OpenClaim.holds_of_wide 7 Tryd.f7 rfl rfl rfl rfl rfl rfl rfl ⟨rfl, rfl, rfl, rfl, rfl⟩ rfl rfl rfl rfl rfl (by kernel_rfl) Tryd.func7 (by kernel_rfl)
    (of_decide_eq_true (by kernel_rfl)) (by unfold Func.isWrapper; first | (rw [if_pos (by decide +kernel)]; kernel_rfl) | (rw [if_neg (by decide +kernel)]; exact ⟨rfl, rfl⟩))
    (fun os started H enc _ => lifted os started H enc)

theorem row_proved : Rows.FnExactSumOfSaid := over
theorem proved : Rows.FnExactSumOfCardSaid :=
  Claim7.holds_tied_plain_at .later [] [.data, .data, .data, .sentinel, .sentinel] true (true, "25d127fb35f24b07035850221668e56f43de37a33f6b8b276ab3fff268281784") true
    row_proved (fun _ h => by cases h) (by kernel_rfl) (fun _ h => by cases h) fnExactSumOf_row_tie rfl ⟨rfl, rfl⟩ (by kernel_rfl) rfl
    (fun f fn hf hfn => by
      obtain rfl : f = 7 := Option.some.inj ((show Tryd.prog.funcNamed "loop.example/g00526/laws.FnExactSumOf" = some 7 by kernel_rfl).symm.trans hf) |>.symm
      obtain rfl : fn = Tryd.f7 := (Option.some.inj (Tryd.func7.symm.trans hfn)).symm
      exact ⟨by kernel_rfl, fun j t ht => by
        rw [Tryd.params7] at ht
        have hm : t ∈ [24, 2, 32, 33] := by simpa using Array.mem_of_getElem? ht
        have hall : ([24, 2, 32, 33].all fun u => !Tryd.prog.wantsStandIn u) = true := by kernel_rfl
        exact (show Tryd.prog.wantsStandIn t = false by simpa using List.all_eq_true.1 hall t hm)⟩)
    (by kernel_rfl)
#print axioms proved
end Go.Proofs.YtdgkinepoalfcaaDoor.fnExactSumOf
