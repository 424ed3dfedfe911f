/-
  The walk of the exact law of Laid. (Made by gen_xbl.py.)
-/
import Derived.Test.YtkkpokfekbdigaaWi
import Derived.Deep.Upon
namespace Go.Proofs.Ytkkpokfekbdigaa.Cl
open Go.RowKit Wd Rp Kp Ra
set_option linter.unusedVariables false
set_option maxHeartbeats 8000000 in
set_option maxRecDepth 100000 in
theorem FnExactLaid_walk (w : World) (a sa : Option Addr) (c sc N M : Nat) (h : List Cel) (hs : List Hd) (ss : List (List Cel)) (hN : h.length = N) (hM : ss.length = M) (hv : Vw w a c h) (hvs : VwS w sa sc hs ss) (hm1 : Big h) (hm2 : ∀ l ∈ ss, Big l) :
    Calls Try.prog 14 #[.agg #[.slice a N c, .slice sa M sc]] w fun e w' => e = .returned (.bool true) ∧ Below w.heap.size w w' := by
  have HBG := Lib.hid (And.intro hm1 hm2); clear hm1 hm2
  have HV := Lib.hid hv; clear hv
  have HVS := Lib.hid hvs; clear hvs
  have H0 := Lib.hid (bel1 w (.cells #[.slice a N c, .slice sa M sc] 71))
  have KP := Lib.hid (Bb.made (.slice a N c) (.slice sa M sc) w 71)
  have HSZ := Lib.hid (szBarn_tot _ a sa c sc N M h hs ss hN hM 1048576 (HV.out.below H0.out) (HVS.out.below H0.out) HBG.out.1 HBG.out.2 (by decide) (by decide))
  go_enter Try.func14, Try.ntmps14
  go_wp2_with fail
  refine HSZ.out.mono ?_; rintro e w1 ⟨z, rfl, b1, hz⟩
  have B1 := Lib.hid (bel_tr H0.out b1 (Nat.le_refl _))
  have KP := Lib.hid (KP.out.next b1); clear b1 HSZ
  rcases hz with hz | ⟨z0, z1, y1, y2, y3⟩
  · go_wp2_with fail
    go_ret
    exact ⟨rfl, B1.out⟩
  have HLM := Lib.hid (low_of y1 y2 y3)
  have q0 : ¬ z < 0 := by omega
  have hTT : h.length + tott ss ≤ 1048576 := by omega
  have ZP := Lib.hid (show w.heap.size < w1.heap.size from KP.out.2.2.2.2)
  have HSP := Lib.hid (fun w B hv sv (o : OwB B w hv sv h ss) => specLaidO w o HLM.out.1 HLM.out.2)
  have HIM := Lib.hid (fun w B hv sv (o : OwB B w hv sv h ss) => implLaidO w o HLM.out.1)
  have HL1 := Lib.hid (ld_low h ss)
  generalize ldH h ss = h1 at HSP HIM HL1
  generalize ldS h ss = s1 at HSP HIM HL1
  generalize ldB h ss = bb at HSP HIM
  obtain ⟨p, hp⟩ : ∃ p, h1.length + tott s1 = p := ⟨_, rfl⟩
  rw [hp] at HL1
  have HPN := Lib.hid hp; clear hp
  have hself : (!(bb == bb)) = false := by simp
  have hself2 : (bb != bb) = false := by simp
  clear z0 z1 y1 y2 y3
  have Z1 := Lib.hid B1.out.size
  obtain ⟨kP0, kP1, kP2, kP3, -⟩ := id KP.out
  go_wp2_with fail
  clear kP0 kP1 kP2 kP3
  refine (toBarn_any w1 a sa c sc N M h hs ss hN hM (HV.out.below B1.out) (HVS.out.below B1.out) HLM.out.1).mono ?_; rintro e w2 ⟨xq1, xp1, rfl, o, b2⟩
  have B2 := Lib.hid (bel_tr B1.out b2 (Nat.le_refl _))
  have Z2 := Lib.hid b2.size
  have KP := Lib.hid (KP.out.next b2)
  have Oa := Lib.hid (OwB.top o); clear o b2
  obtain ⟨kP0, kP1, kP2, kP3, -⟩ := id KP.out
  go_wp2_with fail
  clear kP0 kP1 kP2 kP3
  refine (HSP.out w2 _ _ _ Oa.out.own).mono ?_; rintro e w3 ⟨hv, sv, rfl, o, b3⟩
  obtain ⟨aW, cW, eW, dW, hsW, rfl, rfl, -, -⟩ := o.view
  have B3 := Lib.hid (bel_tr B2.out b3 (Nat.le_refl _))
  have Z3 := Lib.hid b3.size
  have Oa := Lib.hid (Oa.out.next b3)
  have KP := Lib.hid (KP.out.next b3)
  have OW := Lib.hid (OwB.top o); clear o b3
  obtain ⟨kP0, kP1, kP2, kP3, -⟩ := id KP.out
  have b4 := bel1 w3 (.cells #[.slice aW h1.length cW, .slice eW s1.length dW] 45)
  have B4 := Lib.hid (bel_tr B3.out b4 (Nat.le_refl _))
  have Z4 := Lib.hid b4.size
  have Oa := Lib.hid (Oa.out.next b4)
  have OW := Lib.hid (OW.out.next b4)
  have KP := Lib.hid (KP.out.next b4)
  clear b4
  have KW := Lib.hid (Bb.made (.slice aW h1.length cW) (.slice eW s1.length dW) w3 45)
  obtain ⟨mP0, mP1, mP2, mP3, -⟩ := id KP.out
  go_wp2_with fail
  clear kP0 kP1 kP2 kP3 mP0 mP1 mP2 mP3
  generalize w3.alloc (.cells #[.slice aW h1.length cW, .slice eW s1.length dW] 45) = w4 at B4 Z4 KW Oa OW KP ⊢
  have ZKW := Lib.hid (show w3.heap.size < w4.heap.size from KW.out.2.2.2.2)
  clear Oa
  refine (toBarn_any w4 a sa c sc N M h hs ss hN hM (HV.out.below B4.out) (HVS.out.below B4.out) HLM.out.1).mono ?_; rintro e w5 ⟨xq2, xp2, rfl, o, b5⟩
  have B5 := Lib.hid (bel_tr B4.out b5 (Nat.le_refl _))
  have Z5 := Lib.hid b5.size
  have OW := Lib.hid (OW.out.next b5)
  have KP := Lib.hid (KP.out.next b5)
  have KW := Lib.hid (KW.out.next b5)
  have Ox := Lib.hid (OwB.top o); clear o b5
  obtain ⟨kP0, kP1, kP2, kP3, -⟩ := id KP.out
  obtain ⟨kW0, kW1, kW2, kW3, -⟩ := id KW.out
  have b6 := bel1 w5 (.cells #[.slice (some ⟨xq2, 0, none⟩) N N, .slice (some ⟨xp2, 0, none⟩) M M] 45)
  have B6 := Lib.hid (bel_tr B5.out b6 (Nat.le_refl _))
  have Z6 := Lib.hid b6.size
  have OW := Lib.hid (OW.out.next b6)
  have Ox := Lib.hid (Ox.out.next b6)
  have KP := Lib.hid (KP.out.next b6)
  have KW := Lib.hid (KW.out.next b6)
  clear b6
  have Kx := Lib.hid (Bb.made (.slice (some ⟨xq2, 0, none⟩) N N) (.slice (some ⟨xp2, 0, none⟩) M M) w5 45)
  obtain ⟨mP0, mP1, mP2, mP3, -⟩ := id KP.out
  obtain ⟨mW0, mW1, mW2, mW3, -⟩ := id KW.out
  go_wp2_with fail
  clear kP0 kP1 kP2 kP3 kW0 kW1 kW2 kW3 mP0 mP1 mP2 mP3 mW0 mW1 mW2 mW3
  generalize w5.alloc (.cells #[.slice (some ⟨xq2, 0, none⟩) N N, .slice (some ⟨xp2, 0, none⟩) M M] 45) = w6 at B6 Z6 Kx OW Ox KP KW ⊢
  refine (HIM.out w6 _ _ _ Ox.out.own).mono ?_; rintro e w7 ⟨hv, sv, rfl, o, b7⟩
  obtain ⟨aG, cG, eG, dG, hsG, rfl, rfl, -, -⟩ := o.view
  have B7 := Lib.hid (bel_tr B6.out b7 (Nat.le_refl _))
  have Z7 := Lib.hid b7.size
  have OW := Lib.hid (OW.out.next b7)
  have Ox := Lib.hid (Ox.out.next b7)
  have KP := Lib.hid (KP.out.next b7)
  have KW := Lib.hid (KW.out.next b7)
  have Kx := Lib.hid (Kx.out.next b7)
  have OG := Lib.hid (OwB.top o); clear o b7
  obtain ⟨kP0, kP1, kP2, kP3, -⟩ := id KP.out
  obtain ⟨kW0, kW1, kW2, kW3, -⟩ := id KW.out
  obtain ⟨kx0, kx1, kx2, kx3, -⟩ := id Kx.out
  have b8 := bel1 w7 (.cells #[.slice aG h1.length cG, .slice eG s1.length dG] 45)
  have B8 := Lib.hid (bel_tr B7.out b8 (Nat.le_refl _))
  have Z8 := Lib.hid b8.size
  have OW := Lib.hid (OW.out.next b8)
  have Ox := Lib.hid (Ox.out.next b8)
  have OG := Lib.hid (OG.out.next b8)
  have KP := Lib.hid (KP.out.next b8)
  have KW := Lib.hid (KW.out.next b8)
  have Kx := Lib.hid (Kx.out.next b8)
  clear b8
  have KG := Lib.hid (Bb.made (.slice aG h1.length cG) (.slice eG s1.length dG) w7 45)
  obtain ⟨mP0, mP1, mP2, mP3, -⟩ := id KP.out
  obtain ⟨mW0, mW1, mW2, mW3, -⟩ := id KW.out
  obtain ⟨mx0, mx1, mx2, mx3, -⟩ := id Kx.out
  go_wp2_with fail
  clear kP0 kP1 kP2 kP3 kW0 kW1 kW2 kW3 kx0 kx1 kx2 kx3 mP0 mP1 mP2 mP3 mW0 mW1 mW2 mW3 mx0 mx1 mx2 mx3
  generalize w7.alloc (.cells #[.slice aG h1.length cG, .slice eG s1.length dG] 45) = w8 at B8 Z8 KG OW Ox OG KP KW Kx ⊢
  have ZKG := Lib.hid (show w7.heap.size < w8.heap.size from KG.out.2.2.2.2)
  refine (eqB_own w8 OG.out.own OW.out.own HL1.out.1).mono ?_; rintro e w9 ⟨rfl, b9⟩
  have B9 := Lib.hid (bel_tr B8.out b9 (Nat.le_refl _))
  have Z9 := Lib.hid b9.size
  have OW := Lib.hid (OW.out.next b9)
  have Ox := Lib.hid (Ox.out.next b9)
  have OG := Lib.hid (OG.out.next b9)
  have KP := Lib.hid (KP.out.next b9)
  have KW := Lib.hid (KW.out.next b9)
  have Kx := Lib.hid (Kx.out.next b9)
  have KG := Lib.hid (KG.out.next b9)
  clear b9
  obtain ⟨kP0, kP1, kP2, kP3, -⟩ := id KP.out
  obtain ⟨kW0, kW1, kW2, kW3, -⟩ := id KW.out
  obtain ⟨kx0, kx1, kx2, kx3, -⟩ := id Kx.out
  obtain ⟨kG0, kG1, kG2, kG3, -⟩ := id KG.out
  go_wp2_with fail
  clear kP0 kP1 kP2 kP3 kW0 kW1 kW2 kW3 kx0 kx1 kx2 kx3 kG0 kG1 kG2 kG3
  obtain ⟨hx0, hx1, -, -, hxq⟩ := id Kx.out
  obtain ⟨hP0, hP1, -, -, hPq⟩ := id KP.out
  have SOF := Lib.hid (show ∀ z, Below w9.heap.size w9 z → (z.cell? ⟨w5.heap.size, 0, none⟩ = some (.slice (some ⟨xq2, 0, none⟩) N N) ∧ z.cell? ⟨w5.heap.size, 1, none⟩ = some (.slice (some ⟨xp2, 0, none⟩) M M) ∧ z.cell? ⟨w.heap.size, 0, none⟩ = some (.slice a N c) ∧ z.cell? ⟨w.heap.size, 1, none⟩ = some (.slice sa M sc) ∧ Below w9.heap.size w9 z) from fun z hz => ⟨coc hz hxq hx0, coc hz hxq hx1, coc hz hPq hP0, coc hz hPq hP1,  hz⟩)
  clear hx0 hx1 hP0 hP1
  refine wp_region_held_drew (S := fun z => z.cell? ⟨w5.heap.size, 0, none⟩ = some (.slice (some ⟨xq2, 0, none⟩) N N) ∧ z.cell? ⟨w5.heap.size, 1, none⟩ = some (.slice (some ⟨xp2, 0, none⟩) M M) ∧ z.cell? ⟨w.heap.size, 0, none⟩ = some (.slice a N c) ∧ z.cell? ⟨w.heap.size, 1, none⟩ = some (.slice sa M sc) ∧ Below w9.heap.size w9 z) (by kernel_rfl) (SOF.out _ (Below.refl _ _).drew) (fun hHeld => ?_)
  refine wpAnyH_take (i := 0) (v := ?v0a) rfl (by kernel_rfl) (by kernel_rfl) (by kernel_rfl) (fun _ _ _ h => h) (Or.inl ⟨by rfl, ?hy0a⟩) (by assumption) ?rest0a
  case hy0a => (intro zz hSw; (try dsimp only at hSw); go_simp; (try with_reducible rfl))
  change wpAnyH _ _ _ _ _ _ _ (Act.put _ (some 41) _) _
  simp only [Act.put, List.setIfInBounds_toArray, List.set_cons_zero, List.set_cons_succ]
  refine wpAnyH_take (i := 1) (v := ?v1a) rfl (by kernel_rfl) (by kernel_rfl) (by kernel_rfl) (fun _ _ _ h => h) (Or.inl ⟨by rfl, ?hy1a⟩) (by assumption) ?rest1a
  case hy1a => (intro zz hSw; (try dsimp only at hSw); go_simp; (try with_reducible rfl))
  change wpAnyH _ _ _ _ _ _ _ (Act.put _ (some 42) _) _
  simp only [Act.put, List.setIfInBounds_toArray, List.set_cons_zero, List.set_cons_succ]
  refine wpAnyH_ready (rs := [2]) (by kernel_rfl) (by simp) (AllReadyH.cons rfl (fun K hK => ?_) (AllReadyH.nil))
  go_simp
  refine (toBarn_any _ a sa c sc N M h hs ss hN hM (HV.out.below (bel_tr B9.out hHeld.2.2.2.2 (Nat.le_refl _))) (HVS.out.below (bel_tr B9.out hHeld.2.2.2.2 (Nat.le_refl _))) HLM.out.1).mono ?_; rintro e w10 ⟨q3, p3, rfl, o, bel⟩
  have Ot := Lib.hid o; clear o
  have Bt := Lib.hid (bel_tr hHeld.2.2.2.2 bel (Nat.le_refl _))
  refine hK.out _ _ (SOF.out _ (bel_tr hHeld.2.2.2.2 bel (Nat.le_refl _))) (fun hHeld => ?_)
  clear hK K
  refine wpAnyH_ready (rs := [3]) (by kernel_rfl) (by simp) (AllReadyH.cons rfl (fun K hK => ?_) (AllReadyH.nil))
  go_simp
  refine (eqB_own _ (Ox.out.next hHeld.2.2.2.2).own Ot.out HLM.out.1).mono ?_; rintro e w11 ⟨rfl, bel⟩
  refine hK.out _ _ (SOF.out _ (bel_tr hHeld.2.2.2.2 bel (Nat.le_refl _))) (fun hHeld => ?_)
  clear hK K
  refine wpAnyH_take (i := 4) (v := ?v4a) rfl (by kernel_rfl) (by kernel_rfl) (by kernel_rfl) (fun _ _ _ h => h) (Or.inl ⟨by rfl, ?hy4a⟩) (by assumption) ?rest4a
  case hy4a => (intro zz hSw; (try dsimp only at hSw); go_simp; (try with_reducible rfl))
  change wpAnyH _ _ _ _ _ _ _ (Act.put _ (some 45) _) _
  simp only [Act.put, List.setIfInBounds_toArray, List.set_cons_zero, List.set_cons_succ]
  refine wpAnyH_done (by kernel_rfl) ?_ _
  have bx := hHeld.2.2.2.2; clear hHeld SOF
  clear hxq hPq
  have B11 := Lib.hid (bel_tr B9.out bx (Nat.le_refl _))
  have Z11 := Lib.hid bx.size
  have OW := Lib.hid (OW.out.next bx)
  have Ox := Lib.hid (Ox.out.next bx)
  have OG := Lib.hid (OG.out.next bx)
  have KP := Lib.hid (KP.out.next bx)
  have KW := Lib.hid (KW.out.next bx)
  have Kx := Lib.hid (Kx.out.next bx)
  have KG := Lib.hid (KG.out.next bx)
  clear bx
  have k0 : ¬ ((1 + 5 * (h.length + tott ss) : Nat) : Int) < 0 := by omega
  have HMX := Lib.hid (markBarn_any w11 Ox.out (by have := Z1.out; have := ZP.out; have := Z2.out; have := Z3.out; have := Z4.out; have := ZKW.out; have := Z5.out; have := Z6.out; have := Z7.out; have := Z8.out; have := ZKG.out; have := Z9.out; have := Z11.out; omega) rfl hTT HLM.out.1.2.1)
  generalize ((1 + 5 * (h.length + tott ss) : Nat) : Int) = kk at k0 HMX ⊢
  obtain ⟨kP0, kP1, kP2, kP3, -⟩ := id KP.out
  obtain ⟨kW0, kW1, kW2, kW3, -⟩ := id KW.out
  obtain ⟨kx0, kx1, kx2, kx3, -⟩ := id Kx.out
  obtain ⟨kG0, kG1, kG2, kG3, -⟩ := id KG.out
  go_wp2_with fail
  clear kP0 kP1 kP2 kP3 kW0 kW1 kW2 kW3 kx0 kx1 kx2 kx3 kG0 kG1 kG2 kG3
  refine (HMX.out).mono ?_; rintro e w12 ⟨rfl, i12, -⟩
  have B12 := Lib.hid (i12.bel B11.out (by have := Z1.out; have := ZP.out; have := Z2.out; have := Z3.out; have := Z4.out; have := ZKW.out; have := Z5.out; have := Z6.out; have := Z7.out; have := Z8.out; have := ZKG.out; have := Z9.out; have := Z11.out; omega) (by have := Z1.out; have := ZP.out; have := Z2.out; have := Z3.out; have := Z4.out; have := ZKW.out; have := Z5.out; have := Z6.out; have := Z7.out; have := Z8.out; have := ZKG.out; have := Z9.out; have := Z11.out; omega))
  have OW := Lib.hid (OW.out.ins i12 (by have := Z1.out; have := ZP.out; have := Z2.out; have := Z3.out; have := Z4.out; have := ZKW.out; have := Z5.out; have := Z6.out; have := Z7.out; have := Z8.out; have := ZKG.out; have := Z9.out; have := Z11.out; omega))
  have OG := Lib.hid (OG.out.ins i12 (by have := Z1.out; have := ZP.out; have := Z2.out; have := Z3.out; have := Z4.out; have := ZKW.out; have := Z5.out; have := Z6.out; have := Z7.out; have := Z8.out; have := ZKG.out; have := Z9.out; have := Z11.out; omega))
  have KP := Lib.hid (KP.out.ins i12 (by have := Z1.out; have := ZP.out; have := Z2.out; have := Z3.out; have := Z4.out; have := ZKW.out; have := Z5.out; have := Z6.out; have := Z7.out; have := Z8.out; have := ZKG.out; have := Z9.out; have := Z11.out; omega))
  have KW := Lib.hid (KW.out.ins i12 (by have := Z1.out; have := ZP.out; have := Z2.out; have := Z3.out; have := Z4.out; have := ZKW.out; have := Z5.out; have := Z6.out; have := Z7.out; have := Z8.out; have := ZKG.out; have := Z9.out; have := Z11.out; omega))
  have Kx := Lib.hid (Kx.out.ins i12 (by have := Z1.out; have := ZP.out; have := Z2.out; have := Z3.out; have := Z4.out; have := ZKW.out; have := Z5.out; have := Z6.out; have := Z7.out; have := Z8.out; have := ZKG.out; have := Z9.out; have := Z11.out; omega))
  have KG := Lib.hid (KG.out.ins i12 (by have := Z1.out; have := ZP.out; have := Z2.out; have := Z3.out; have := Z4.out; have := ZKW.out; have := Z5.out; have := Z6.out; have := Z7.out; have := Z8.out; have := ZKG.out; have := Z9.out; have := Z11.out; omega))
  have Z12 := Lib.hid i12.size
  clear i12
  clear Ox
  clear HMX
  clear Kx
  obtain ⟨kP0, kP1, kP2, kP3, -⟩ := id KP.out
  obtain ⟨kW0, kW1, kW2, kW3, -⟩ := id KW.out
  obtain ⟨kG0, kG1, kG2, kG3, -⟩ := id KG.out
  go_wp2_with fail
  clear kP0 kP1 kP2 kP3 kW0 kW1 kW2 kW3 kG0 kG1 kG2 kG3
  refine (eqB_own w12 OG.out.own OW.out.own HL1.out.1).mono ?_; rintro e w13 ⟨rfl, b13⟩
  have B13 := Lib.hid (bel_tr B12.out b13 (Nat.le_refl _))
  have Z13 := Lib.hid b13.size
  have OW := Lib.hid (OW.out.next b13)
  have OG := Lib.hid (OG.out.next b13)
  have KP := Lib.hid (KP.out.next b13)
  have KW := Lib.hid (KW.out.next b13)
  have KG := Lib.hid (KG.out.next b13)
  clear b13
  have m0 : ¬ ((1 + 5 * p : Nat) : Int) < 0 := by omega
  have m1 : (((1 + 5 * p : Nat) : Int) != ((1 + 5 * p : Nat) : Int)) = false := by simp
  have HMG := Lib.hid (markBarn_any w13 OG.out (by have := Z1.out; have := ZP.out; have := Z2.out; have := Z3.out; have := Z4.out; have := ZKW.out; have := Z5.out; have := Z6.out; have := Z7.out; have := Z8.out; have := ZKG.out; have := Z9.out; have := Z11.out; have := Z12.out; have := Z13.out; omega) HPN.out HL1.out.2 HL1.out.1.2.1)
  have HH0 := Lib.hid (fun mh ms (l1 : mh.length = h1.length) (l2 : ms.map List.length = s1.map List.length) (mk : MkdB mh ms) w (o : OwT w6.heap.size w7.heap.size w (.slice aG h1.length cG) (.slice eG s1.length dG) mh ms) => heldBarn_any (N := p) w o mk (by rw [l1, ← HPN.out]; unfold tott; rw [l2]) HL1.out.2 (by rw [lens_len l2]; exact HL1.out.1.2.1))
  generalize ((1 + 5 * p : Nat) : Int) = mm at m0 m1 HMG HH0 ⊢
  obtain ⟨kP0, kP1, kP2, kP3, -⟩ := id KP.out
  obtain ⟨kW0, kW1, kW2, kW3, -⟩ := id KW.out
  obtain ⟨kG0, kG1, kG2, kG3, -⟩ := id KG.out
  go_wp2_with fail
  clear kP0 kP1 kP2 kP3 kW0 kW1 kW2 kW3 kG0 kG1 kG2 kG3
  refine (HMG.out).mono ?_; rintro e w14 ⟨rfl, i14, mh, ms, l1, l2, mk, og⟩
  have B14 := Lib.hid (i14.bel B13.out (by have := Z1.out; have := ZP.out; have := Z2.out; have := Z3.out; have := Z4.out; have := ZKW.out; have := Z5.out; have := Z6.out; have := Z7.out; have := Z8.out; have := ZKG.out; have := Z9.out; have := Z11.out; have := Z12.out; have := Z13.out; omega) (by have := Z1.out; have := ZP.out; have := Z2.out; have := Z3.out; have := Z4.out; have := ZKW.out; have := Z5.out; have := Z6.out; have := Z7.out; have := Z8.out; have := ZKG.out; have := Z9.out; have := Z11.out; have := Z12.out; have := Z13.out; omega))
  have OW := Lib.hid (OW.out.ins i14 (by have := Z1.out; have := ZP.out; have := Z2.out; have := Z3.out; have := Z4.out; have := ZKW.out; have := Z5.out; have := Z6.out; have := Z7.out; have := Z8.out; have := ZKG.out; have := Z9.out; have := Z11.out; have := Z12.out; have := Z13.out; omega))
  have KP := Lib.hid (KP.out.ins i14 (by have := Z1.out; have := ZP.out; have := Z2.out; have := Z3.out; have := Z4.out; have := ZKW.out; have := Z5.out; have := Z6.out; have := Z7.out; have := Z8.out; have := ZKG.out; have := Z9.out; have := Z11.out; have := Z12.out; have := Z13.out; omega))
  have KW := Lib.hid (KW.out.ins i14 (by have := Z1.out; have := ZP.out; have := Z2.out; have := Z3.out; have := Z4.out; have := ZKW.out; have := Z5.out; have := Z6.out; have := Z7.out; have := Z8.out; have := ZKG.out; have := Z9.out; have := Z11.out; have := Z12.out; have := Z13.out; omega))
  have KG := Lib.hid (KG.out.ins i14 (by have := Z1.out; have := ZP.out; have := Z2.out; have := Z3.out; have := Z4.out; have := ZKW.out; have := Z5.out; have := Z6.out; have := Z7.out; have := Z8.out; have := ZKG.out; have := Z9.out; have := Z11.out; have := Z12.out; have := Z13.out; omega))
  have Z14 := Lib.hid i14.size
  clear i14
  have OG := Lib.hid og
  have HH := Lib.hid (HH0.out mh ms l1 l2 mk); clear og l1 l2 mk HMG HH0
  obtain ⟨kP0, kP1, kP2, kP3, -⟩ := id KP.out
  obtain ⟨kW0, kW1, kW2, kW3, -⟩ := id KW.out
  obtain ⟨kG0, kG1, kG2, kG3, -⟩ := id KG.out
  go_wp2_with fail
  clear kP0 kP1 kP2 kP3 kW0 kW1 kW2 kW3 kG0 kG1 kG2 kG3
  refine (HH.out w14 OG.out).mono ?_; rintro e w15 ⟨rfl, b15⟩
  have B15 := Lib.hid (bel_tr B14.out b15 (Nat.le_refl _))
  have Z15 := Lib.hid b15.size
  have OW := Lib.hid (OW.out.next b15)
  have OG := Lib.hid (OG.out.next b15)
  have KP := Lib.hid (KP.out.next b15)
  have KW := Lib.hid (KW.out.next b15)
  have KG := Lib.hid (KG.out.next b15)
  clear b15
  obtain ⟨kP0, kP1, kP2, kP3, -⟩ := id KP.out
  obtain ⟨kW0, kW1, kW2, kW3, -⟩ := id KW.out
  obtain ⟨kG0, kG1, kG2, kG3, -⟩ := id KG.out
  go_wp2_with fail
  clear kP0 kP1 kP2 kP3 kW0 kW1 kW2 kW3 kG0 kG1 kG2 kG3
  refine (toBarn_any w15 a sa c sc N M h hs ss hN hM (HV.out.below B15.out) (HVS.out.below B15.out) HLM.out.1).mono ?_; rintro e w16 ⟨xq3, xp3, rfl, o, b16⟩
  have B16 := Lib.hid (bel_tr B15.out b16 (Nat.le_refl _))
  have Z16 := Lib.hid b16.size
  have OW := Lib.hid (OW.out.next b16)
  have OG := Lib.hid (OG.out.next b16)
  have KP := Lib.hid (KP.out.next b16)
  have KW := Lib.hid (KW.out.next b16)
  have KG := Lib.hid (KG.out.next b16)
  have Oc := Lib.hid (OwB.top o); clear o b16
  obtain ⟨kP0, kP1, kP2, kP3, -⟩ := id KP.out
  obtain ⟨kW0, kW1, kW2, kW3, -⟩ := id KW.out
  obtain ⟨kG0, kG1, kG2, kG3, -⟩ := id KG.out
  go_wp2_with fail
  clear kP0 kP1 kP2 kP3 kW0 kW1 kW2 kW3 kG0 kG1 kG2 kG3
  refine (HIM.out w16 _ _ _ Oc.out.own).mono ?_; rintro e w17 ⟨hv, sv, rfl, o, b17⟩
  obtain ⟨aH, cH, eH, dH, hsH, rfl, rfl, -, -⟩ := o.view
  have B17 := Lib.hid (bel_tr B16.out b17 (Nat.le_refl _))
  have Z17 := Lib.hid b17.size
  have OW := Lib.hid (OW.out.next b17)
  have OG := Lib.hid (OG.out.next b17)
  have Oc := Lib.hid (Oc.out.next b17)
  have KP := Lib.hid (KP.out.next b17)
  have KW := Lib.hid (KW.out.next b17)
  have KG := Lib.hid (KG.out.next b17)
  have OH := Lib.hid (OwB.top o); clear o b17
  obtain ⟨kP0, kP1, kP2, kP3, -⟩ := id KP.out
  obtain ⟨kW0, kW1, kW2, kW3, -⟩ := id KW.out
  obtain ⟨kG0, kG1, kG2, kG3, -⟩ := id KG.out
  have b18 := bel1 w17 (.cells #[.slice aH h1.length cH, .slice eH s1.length dH] 45)
  have B18 := Lib.hid (bel_tr B17.out b18 (Nat.le_refl _))
  have Z18 := Lib.hid b18.size
  have OW := Lib.hid (OW.out.next b18)
  have OG := Lib.hid (OG.out.next b18)
  have Oc := Lib.hid (Oc.out.next b18)
  have OH := Lib.hid (OH.out.next b18)
  have KP := Lib.hid (KP.out.next b18)
  have KW := Lib.hid (KW.out.next b18)
  have KG := Lib.hid (KG.out.next b18)
  clear b18
  have KH := Lib.hid (Bb.made (.slice aH h1.length cH) (.slice eH s1.length dH) w17 45)
  obtain ⟨mP0, mP1, mP2, mP3, -⟩ := id KP.out
  obtain ⟨mW0, mW1, mW2, mW3, -⟩ := id KW.out
  obtain ⟨mG0, mG1, mG2, mG3, -⟩ := id KG.out
  go_wp2_with fail
  clear kP0 kP1 kP2 kP3 kW0 kW1 kW2 kW3 kG0 kG1 kG2 kG3 mP0 mP1 mP2 mP3 mW0 mW1 mW2 mW3 mG0 mG1 mG2 mG3
  generalize w17.alloc (.cells #[.slice aH h1.length cH, .slice eH s1.length dH] 45) = w18 at B18 Z18 KH OW OG Oc OH KP KW KG ⊢
  have ZKH := Lib.hid (show w17.heap.size < w18.heap.size from KH.out.2.2.2.2)
  clear Oc
  refine (eqB_own w18 OH.out.own OW.out.own HL1.out.1).mono ?_; rintro e w19 ⟨rfl, b19⟩
  have B19 := Lib.hid (bel_tr B18.out b19 (Nat.le_refl _))
  have Z19 := Lib.hid b19.size
  have OW := Lib.hid (OW.out.next b19)
  have OG := Lib.hid (OG.out.next b19)
  have OH := Lib.hid (OH.out.next b19)
  have KP := Lib.hid (KP.out.next b19)
  have KW := Lib.hid (KW.out.next b19)
  have KG := Lib.hid (KG.out.next b19)
  have KH := Lib.hid (KH.out.next b19)
  clear b19
  obtain ⟨kP0, kP1, kP2, kP3, -⟩ := id KP.out
  obtain ⟨kW0, kW1, kW2, kW3, -⟩ := id KW.out
  obtain ⟨kG0, kG1, kG2, kG3, -⟩ := id KG.out
  obtain ⟨kH0, kH1, kH2, kH3, -⟩ := id KH.out
  go_wp2_with fail
  clear kP0 kP1 kP2 kP3 kW0 kW1 kW2 kW3 kG0 kG1 kG2 kG3 kH0 kH1 kH2 kH3
  refine (HH.out w19 OG.out).mono ?_; rintro e w20 ⟨rfl, b20⟩
  have B20 := Lib.hid (bel_tr B19.out b20 (Nat.le_refl _))
  have Z20 := Lib.hid b20.size
  have OW := Lib.hid (OW.out.next b20)
  have OG := Lib.hid (OG.out.next b20)
  have OH := Lib.hid (OH.out.next b20)
  have KP := Lib.hid (KP.out.next b20)
  have KW := Lib.hid (KW.out.next b20)
  have KG := Lib.hid (KG.out.next b20)
  have KH := Lib.hid (KH.out.next b20)
  clear b20
  go_wp2_with fail
  go_ret
  exact ⟨rfl, B20.out⟩
end Go.Proofs.Ytkkpokfekbdigaa.Cl
