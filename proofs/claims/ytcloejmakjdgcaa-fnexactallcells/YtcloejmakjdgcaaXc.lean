/-
  The walk of the exact law of AllCells. (Made by gen_xba.py.)
-/
import Derived.Test.YtcloejmakjdgcaaVa
import Derived.Test.YtcloejmakjdgcaaBa
import Derived.Test.YtcloejmakjdgcaaXa
namespace Go.Proofs.Ytcloejmakjdgcaa.Cl
open Go.RowKit Wd Rp Kp Ra
set_option linter.unusedVariables false
set_option maxHeartbeats 8000000 in
set_option maxRecDepth 100000 in
theorem FnExactAllCells_walk (w : World) (a sa : Option Addr) (c sc N M : Nat) (h : List Cel) (hs : List Hd) (ss : List (List Cel)) (hN : h.length = N) (hM : ss.length = M) (hv : Vw w a c h) (hvs : VwS w sa sc hs ss) (hm1 : Big h) (hm2 : ∀ l ∈ ss, Big l) :
    Calls Try.prog 8 #[.agg #[.slice a N c, .slice sa M sc]] w fun e w' => e = .returned (.bool true) ∧ Below w.heap.size w w' := by
  have HBG := Lib.hid (And.intro hm1 hm2); clear hm1 hm2
  have HV := Lib.hid hv; clear hv
  have HVS := Lib.hid hvs; clear hvs
  have H0 := Lib.hid (bel1 w (.cells #[.slice a N c, .slice sa M sc] 63))
  have KP := Lib.hid (Bb.made (.slice a N c) (.slice sa M sc) w 63)
  have HSZ := Lib.hid (szBarn_tot _ a sa c sc N M h hs ss hN hM 1048576 (HV.out.below H0.out) (HVS.out.below H0.out) HBG.out.1 HBG.out.2 (by decide) (by decide))
  go_enter Try.func8, Try.ntmps8
  go_wp2_with fail
  refine HSZ.out.mono ?_; rintro e w1 ⟨z, rfl, b1, hz⟩
  have B1 := Lib.hid (bel_tr H0.out b1 (Nat.le_refl _))
  have KP := Lib.hid (KP.out.next b1); clear b1 HSZ
  rcases hz with hz | ⟨z0, z1, y1, y2, y3⟩
  · go_wp2_with fail
    go_ret
    exact ⟨rfl, B1.out⟩
  have HLM := Lib.hid (low_of y1 y2 y3)
  have q0 : ¬ z < 0 := by omega
  have hTT : h.length + tott ss ≤ 1048576 := by omega
  have ZP := Lib.hid (show w.heap.size < w1.heap.size from KP.out.2.2.2.2)
  have hp4 : (allP h ss).length ≤ 4194304 := Nat.le_trans (allP_len h ss) (by decide)
  clear z0 z1 y1 y2 y3
  have Z1 := Lib.hid B1.out.size
  obtain ⟨kP0, kP1, kP2, kP3, -⟩ := id KP.out
  go_wp2_with fail
  clear kP0 kP1 kP2 kP3
  refine (toBarn_any w1 a sa c sc N M h hs ss hN hM (HV.out.below B1.out) (HVS.out.below B1.out) HLM.out.1).mono ?_; rintro e w2 ⟨q1, p1, rfl, o, b2⟩
  have B2 := Lib.hid (bel_tr B1.out b2 (Nat.le_refl _))
  have Z2 := Lib.hid b2.size
  have KP := Lib.hid (KP.out.next b2)
  have Oa := Lib.hid (OwB.top o); clear o b2
  obtain ⟨kP0, kP1, kP2, kP3, -⟩ := id KP.out
  go_wp2_with fail
  clear kP0 kP1 kP2 kP3
  refine (specAllO w2 Oa.out.own HLM.out.1 HLM.out.2).mono ?_; rintro e w3 ⟨vp, rfl, o, b3⟩
  have TP := Lib.hid (show ∀ k, (vp : Value).ownBlock = some k → w2.heap.size ≤ k from OwC.lt o)
  have UP := Lib.hid (show ∀ k, (vp : Value).ownBlock = some k → k < w3.heap.size from OwC.low o)
  have B3 := Lib.hid (bel_tr B2.out b3 (Nat.le_refl _))
  have Z3 := Lib.hid b3.size
  have Oa := Lib.hid (Oa.out.next b3)
  have KP := Lib.hid (KP.out.next b3)
  have OP := Lib.hid o; clear o b3
  clear Oa
  obtain ⟨kP0, kP1, kP2, kP3, -⟩ := id KP.out
  go_wp2_with fail
  clear kP0 kP1 kP2 kP3
  refine (toBarn_any w3 a sa c sc N M h hs ss hN hM (HV.out.below B3.out) (HVS.out.below B3.out) HLM.out.1).mono ?_; rintro e w4 ⟨q2, p2, rfl, o, b4⟩
  have B4 := Lib.hid (bel_tr B3.out b4 (Nat.le_refl _))
  have Z4 := Lib.hid b4.size
  have OP := Lib.hid (OP.out.next b4)
  have KP := Lib.hid (KP.out.next b4)
  have Ox := Lib.hid (OwB.top o); clear o b4
  obtain ⟨kP0, kP1, kP2, kP3, -⟩ := id KP.out
  have b5 := bel1 w4 (.cells #[.slice (some ⟨q2, 0, none⟩) N N, .slice (some ⟨p2, 0, none⟩) M M] 38)
  have B5 := Lib.hid (bel_tr B4.out b5 (Nat.le_refl _))
  have Z5 := Lib.hid b5.size
  have OP := Lib.hid (OP.out.next b5)
  have Ox := Lib.hid (Ox.out.next b5)
  have KP := Lib.hid (KP.out.next b5)
  clear b5
  have Kx := Lib.hid (Bb.made (.slice (some ⟨q2, 0, none⟩) N N) (.slice (some ⟨p2, 0, none⟩) M M) w4 38)
  obtain ⟨mP0, mP1, mP2, mP3, -⟩ := id KP.out
  go_wp2_with fail
  clear kP0 kP1 kP2 kP3 mP0 mP1 mP2 mP3
  generalize w4.alloc (.cells #[.slice (some ⟨q2, 0, none⟩) N N, .slice (some ⟨p2, 0, none⟩) M M] 38) = w5 at B5 Z5 Kx OP Ox KP ⊢
  refine (implAllO w5 Ox.out.own HLM.out.1).mono ?_; rintro e w6 ⟨vg, rfl, o, b6⟩
  have TG := Lib.hid (show ∀ k, (vg : Value).ownBlock = some k → w5.heap.size ≤ k from OwC.lt o)
  have UG := Lib.hid (show ∀ k, (vg : Value).ownBlock = some k → k < w6.heap.size from OwC.low o)
  have B6 := Lib.hid (bel_tr B5.out b6 (Nat.le_refl _))
  have Z6 := Lib.hid b6.size
  have OP := Lib.hid (OP.out.next b6)
  have Ox := Lib.hid (Ox.out.next b6)
  have KP := Lib.hid (KP.out.next b6)
  have Kx := Lib.hid (Kx.out.next b6)
  have OG := Lib.hid o; clear o b6
  obtain ⟨kP0, kP1, kP2, kP3, -⟩ := id KP.out
  obtain ⟨kx0, kx1, kx2, kx3, -⟩ := id Kx.out
  go_wp2_with fail
  clear kP0 kP1 kP2 kP3 kx0 kx1 kx2 kx3
  refine (eqS_own w6 OG.out OP.out hp4).mono ?_; rintro e w7 ⟨rfl, b7⟩
  have B7 := Lib.hid (bel_tr B6.out b7 (Nat.le_refl _))
  have Z7 := Lib.hid b7.size
  have OP := Lib.hid (OP.out.next b7)
  have Ox := Lib.hid (Ox.out.next b7)
  have OG := Lib.hid (OG.out.next b7)
  have KP := Lib.hid (KP.out.next b7)
  have Kx := Lib.hid (Kx.out.next b7)
  clear b7
  obtain ⟨kP0, kP1, kP2, kP3, -⟩ := id KP.out
  obtain ⟨kx0, kx1, kx2, kx3, -⟩ := id Kx.out
  go_wp2_with fail
  clear kP0 kP1 kP2 kP3 kx0 kx1 kx2 kx3
  obtain ⟨hx0, hx1, -, -, hxq⟩ := id Kx.out
  obtain ⟨hP0, hP1, -, -, hPq⟩ := id KP.out
  have SOF := Lib.hid (show ∀ z, Below w7.heap.size w7 z → (z.cell? ⟨w4.heap.size, 0, none⟩ = some (.slice (some ⟨q2, 0, none⟩) N N) ∧ z.cell? ⟨w4.heap.size, 1, none⟩ = some (.slice (some ⟨p2, 0, none⟩) M M) ∧ z.cell? ⟨w.heap.size, 0, none⟩ = some (.slice a N c) ∧ z.cell? ⟨w.heap.size, 1, none⟩ = some (.slice sa M sc) ∧ Below w7.heap.size w7 z) from fun z hz => ⟨coc hz hxq hx0, coc hz hxq hx1, coc hz hPq hP0, coc hz hPq hP1,  hz⟩)
  clear hx0 hx1 hP0 hP1
  refine wp_region_held_drew (S := fun z => z.cell? ⟨w4.heap.size, 0, none⟩ = some (.slice (some ⟨q2, 0, none⟩) N N) ∧ z.cell? ⟨w4.heap.size, 1, none⟩ = some (.slice (some ⟨p2, 0, none⟩) M M) ∧ z.cell? ⟨w.heap.size, 0, none⟩ = some (.slice a N c) ∧ z.cell? ⟨w.heap.size, 1, none⟩ = some (.slice sa M sc) ∧ Below w7.heap.size w7 z) (by kernel_rfl) (SOF.out _ (Below.refl _ _).drew) (fun hHeld => ?_)
  refine wpAnyH_take (i := 0) (v := ?v0a) rfl (by kernel_rfl) (by kernel_rfl) (by kernel_rfl) (fun _ _ _ h => h) (Or.inl ⟨by rfl, ?hy0a⟩) (by assumption) ?rest0a
  case hy0a => (intro zz hSw; (try dsimp only at hSw); go_simp; (try with_reducible rfl))
  change wpAnyH _ _ _ _ _ _ _ (Act.put _ (some 27) _) _
  simp only [Act.put, List.setIfInBounds_toArray, List.set_cons_zero, List.set_cons_succ]
  refine wpAnyH_take (i := 1) (v := ?v1a) rfl (by kernel_rfl) (by kernel_rfl) (by kernel_rfl) (fun _ _ _ h => h) (Or.inl ⟨by rfl, ?hy1a⟩) (by assumption) ?rest1a
  case hy1a => (intro zz hSw; (try dsimp only at hSw); go_simp; (try with_reducible rfl))
  change wpAnyH _ _ _ _ _ _ _ (Act.put _ (some 28) _) _
  simp only [Act.put, List.setIfInBounds_toArray, List.set_cons_zero, List.set_cons_succ]
  refine wpAnyH_ready (rs := [2]) (by kernel_rfl) (by simp) (AllReadyH.cons rfl (fun K hK => ?_) (AllReadyH.nil))
  go_simp
  refine (toBarn_any _ a sa c sc N M h hs ss hN hM (HV.out.below (bel_tr B7.out hHeld.2.2.2.2 (Nat.le_refl _))) (HVS.out.below (bel_tr B7.out hHeld.2.2.2.2 (Nat.le_refl _))) HLM.out.1).mono ?_; rintro e w8 ⟨q3, p3, rfl, o, bel⟩
  have Ot := Lib.hid o; clear o
  have Bt := Lib.hid (bel_tr hHeld.2.2.2.2 bel (Nat.le_refl _))
  refine hK.out _ _ (SOF.out _ (bel_tr hHeld.2.2.2.2 bel (Nat.le_refl _))) (fun hHeld => ?_)
  clear hK K
  refine wpAnyH_ready (rs := [3]) (by kernel_rfl) (by simp) (AllReadyH.cons rfl (fun K hK => ?_) (AllReadyH.nil))
  go_simp
  refine (eqB_own _ (Ox.out.next hHeld.2.2.2.2).own Ot.out HLM.out.1).mono ?_; rintro e w9 ⟨rfl, bel⟩
  refine hK.out _ _ (SOF.out _ (bel_tr hHeld.2.2.2.2 bel (Nat.le_refl _))) (fun hHeld => ?_)
  clear hK K
  refine wpAnyH_take (i := 4) (v := ?v4a) rfl (by kernel_rfl) (by kernel_rfl) (by kernel_rfl) (fun _ _ _ h => h) (Or.inl ⟨by rfl, ?hy4a⟩) (by assumption) ?rest4a
  case hy4a => (intro zz hSw; (try dsimp only at hSw); go_simp; (try with_reducible rfl))
  change wpAnyH _ _ _ _ _ _ _ (Act.put _ (some 31) _) _
  simp only [Act.put, List.setIfInBounds_toArray, List.set_cons_zero, List.set_cons_succ]
  refine wpAnyH_done (by kernel_rfl) ?_ _
  have bx := hHeld.2.2.2.2; clear hHeld SOF
  clear hxq hPq
  have B9 := Lib.hid (bel_tr B7.out bx (Nat.le_refl _))
  have Z9 := Lib.hid bx.size
  have OP := Lib.hid (OP.out.next bx)
  have Ox := Lib.hid (Ox.out.next bx)
  have OG := Lib.hid (OG.out.next bx)
  have KP := Lib.hid (KP.out.next bx)
  have Kx := Lib.hid (Kx.out.next bx)
  clear bx
  have k0 : ¬ ((1 + 5 * (h.length + tott ss) : Nat) : Int) < 0 := by omega
  have HMX := Lib.hid (markBarn_any w9 Ox.out (by have := Z1.out; have := ZP.out; have := Z2.out; have := Z3.out; have := Z4.out; have := Z5.out; have := Z6.out; have := Z7.out; have := Z9.out; omega) rfl hTT HLM.out.1.2.1)
  generalize ((1 + 5 * (h.length + tott ss) : Nat) : Int) = kk at k0 HMX ⊢
  obtain ⟨kP0, kP1, kP2, kP3, -⟩ := id KP.out
  obtain ⟨kx0, kx1, kx2, kx3, -⟩ := id Kx.out
  go_wp2_with fail
  clear kP0 kP1 kP2 kP3 kx0 kx1 kx2 kx3
  refine (HMX.out).mono ?_; rintro e w10 ⟨rfl, i10, -⟩
  have B10 := Lib.hid (i10.bel B9.out (by have := Z1.out; have := ZP.out; have := Z2.out; have := Z3.out; have := Z4.out; have := Z5.out; have := Z6.out; have := Z7.out; have := Z9.out; omega) (by have := Z1.out; have := ZP.out; have := Z2.out; have := Z3.out; have := Z4.out; have := Z5.out; have := Z6.out; have := Z7.out; have := Z9.out; omega))
  have OP := Lib.hid (OwC.ins OP.out UP.out i10 (by have := Z1.out; have := ZP.out; have := Z2.out; have := Z3.out; have := Z4.out; have := Z5.out; have := Z6.out; have := Z7.out; have := Z9.out; omega))
  have OG := Lib.hid (OwC.ins OG.out UG.out i10 (by have := Z1.out; have := ZP.out; have := Z2.out; have := Z3.out; have := Z4.out; have := Z5.out; have := Z6.out; have := Z7.out; have := Z9.out; omega))
  have KP := Lib.hid (KP.out.ins i10 (by have := Z1.out; have := ZP.out; have := Z2.out; have := Z3.out; have := Z4.out; have := Z5.out; have := Z6.out; have := Z7.out; have := Z9.out; omega))
  have Kx := Lib.hid (Kx.out.ins i10 (by have := Z1.out; have := ZP.out; have := Z2.out; have := Z3.out; have := Z4.out; have := Z5.out; have := Z6.out; have := Z7.out; have := Z9.out; omega))
  have Z10 := Lib.hid i10.size
  clear i10
  clear Ox
  clear HMX
  clear Kx
  obtain ⟨kP0, kP1, kP2, kP3, -⟩ := id KP.out
  go_wp2_with fail
  clear kP0 kP1 kP2 kP3
  refine (eqS_own w10 OG.out OP.out hp4).mono ?_; rintro e w11 ⟨rfl, b11⟩
  have B11 := Lib.hid (bel_tr B10.out b11 (Nat.le_refl _))
  have Z11 := Lib.hid b11.size
  have OP := Lib.hid (OP.out.next b11)
  have OG := Lib.hid (OG.out.next b11)
  have KP := Lib.hid (KP.out.next b11)
  clear b11
  generalize hpn : (allP h ss).length = p at hp4
  have HPN := Lib.hid hpn; clear hpn
  have m0 : ¬ ((1 + 5 * p : Nat) : Int) < 0 := by omega
  have m1 : (((1 + 5 * p : Nat) : Int) != ((1 + 5 * p : Nat) : Int)) = false := by simp
  obtain ⟨kP0, kP1, kP2, kP3, -⟩ := id KP.out
  go_wp2_with fail
  clear kP0 kP1 kP2 kP3
  refine (mark_own w11 OG.out HPN.out (by omega)).mono ?_; rintro e w12 ⟨rfl, g, PM, hPM, hMk, og⟩
  have i12 : Ins w5.heap.size w6.heap.size w11 w12 := Ins.of_grown g (fun k hk => ⟨TG.out k hk, UG.out k hk⟩)
  clear g
  have B12 := Lib.hid (i12.bel B11.out (by have := Z1.out; have := ZP.out; have := Z2.out; have := Z3.out; have := Z4.out; have := Z5.out; have := Z6.out; have := Z7.out; have := Z9.out; have := Z10.out; have := Z11.out; omega) (by have := Z1.out; have := ZP.out; have := Z2.out; have := Z3.out; have := Z4.out; have := Z5.out; have := Z6.out; have := Z7.out; have := Z9.out; have := Z10.out; have := Z11.out; omega))
  have OP := Lib.hid (OwC.ins OP.out UP.out i12 (by have := Z1.out; have := ZP.out; have := Z2.out; have := Z3.out; have := Z4.out; have := Z5.out; have := Z6.out; have := Z7.out; have := Z9.out; have := Z10.out; have := Z11.out; omega))
  have KP := Lib.hid (KP.out.ins i12 (by have := Z1.out; have := ZP.out; have := Z2.out; have := Z3.out; have := Z4.out; have := Z5.out; have := Z6.out; have := Z7.out; have := Z9.out; have := Z10.out; have := Z11.out; omega))
  have Z12 := Lib.hid i12.size
  clear i12
  have OG := Lib.hid og
  have HMK := Lib.hid hMk; clear og hMk
  have HH := Lib.hid (fun w (h : OwC w5.heap.size w vg PM) => held_own (n := p) w h hPM HMK.out (by omega))
  generalize ((1 + 5 * p : Nat) : Int) = mm at m0 m1 HH ⊢
  obtain ⟨kP0, kP1, kP2, kP3, -⟩ := id KP.out
  go_wp2_with fail
  clear kP0 kP1 kP2 kP3
  refine (HH.out w12 OG.out).mono ?_; rintro e w13 ⟨rfl, b13⟩
  have B13 := Lib.hid (bel_tr B12.out b13 (Nat.le_refl _))
  have Z13 := Lib.hid b13.size
  have OP := Lib.hid (OP.out.next b13)
  have OG := Lib.hid (OG.out.next b13)
  have KP := Lib.hid (KP.out.next b13)
  clear b13
  obtain ⟨kP0, kP1, kP2, kP3, -⟩ := id KP.out
  go_wp2_with fail
  clear kP0 kP1 kP2 kP3
  refine (toBarn_any w13 a sa c sc N M h hs ss hN hM (HV.out.below B13.out) (HVS.out.below B13.out) HLM.out.1).mono ?_; rintro e w14 ⟨q3, p3, rfl, o, b14⟩
  have B14 := Lib.hid (bel_tr B13.out b14 (Nat.le_refl _))
  have Z14 := Lib.hid b14.size
  have OP := Lib.hid (OP.out.next b14)
  have OG := Lib.hid (OG.out.next b14)
  have KP := Lib.hid (KP.out.next b14)
  have Oc := Lib.hid (OwB.top o); clear o b14
  obtain ⟨kP0, kP1, kP2, kP3, -⟩ := id KP.out
  go_wp2_with fail
  clear kP0 kP1 kP2 kP3
  refine (implAllO w14 Oc.out.own HLM.out.1).mono ?_; rintro e w15 ⟨vh, rfl, o, b15⟩
  have TH := Lib.hid (show ∀ k, (vh : Value).ownBlock = some k → w14.heap.size ≤ k from OwC.lt o)
  have UH := Lib.hid (show ∀ k, (vh : Value).ownBlock = some k → k < w15.heap.size from OwC.low o)
  have B15 := Lib.hid (bel_tr B14.out b15 (Nat.le_refl _))
  have Z15 := Lib.hid b15.size
  have OP := Lib.hid (OP.out.next b15)
  have OG := Lib.hid (OG.out.next b15)
  have Oc := Lib.hid (Oc.out.next b15)
  have KP := Lib.hid (KP.out.next b15)
  have OH := Lib.hid o; clear o b15
  clear Oc
  obtain ⟨kP0, kP1, kP2, kP3, -⟩ := id KP.out
  go_wp2_with fail
  clear kP0 kP1 kP2 kP3
  refine (eqS_own w15 OH.out OP.out (by rw [HPN.out]; exact hp4)).mono ?_; rintro e w16 ⟨rfl, b16⟩
  have B16 := Lib.hid (bel_tr B15.out b16 (Nat.le_refl _))
  have Z16 := Lib.hid b16.size
  have OP := Lib.hid (OP.out.next b16)
  have OG := Lib.hid (OG.out.next b16)
  have OH := Lib.hid (OH.out.next b16)
  have KP := Lib.hid (KP.out.next b16)
  clear b16
  obtain ⟨kP0, kP1, kP2, kP3, -⟩ := id KP.out
  go_wp2_with fail
  clear kP0 kP1 kP2 kP3
  refine (HH.out w16 OG.out).mono ?_; rintro e w17 ⟨rfl, b17⟩
  have B17 := Lib.hid (bel_tr B16.out b17 (Nat.le_refl _))
  have Z17 := Lib.hid b17.size
  have OP := Lib.hid (OP.out.next b17)
  have OG := Lib.hid (OG.out.next b17)
  have OH := Lib.hid (OH.out.next b17)
  have KP := Lib.hid (KP.out.next b17)
  clear b17
  go_wp2_with fail
  go_ret
  exact ⟨rfl, B17.out⟩
end Go.Proofs.Ytcloejmakjdgcaa.Cl
