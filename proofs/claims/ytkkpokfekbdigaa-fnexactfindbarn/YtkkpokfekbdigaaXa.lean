/-
  The walk of the exact law of BarnOk. (Made by gen_xbo.py.)
-/
import Derived.Test.YtkkpokfekbdigaaBa
namespace Go.Proofs.Ytkkpokfekbdigaa.Cl
open Go.RowKit Wd Rp Kp Ra
set_option linter.unusedVariables false
set_option maxHeartbeats 8000000 in
set_option maxRecDepth 100000 in
theorem FnExactBarnOk_walk (w : World) (a sa : Option Addr) (c sc N M : Nat) (h : List Cel) (hs : List Hd) (ss : List (List Cel)) (hN : h.length = N) (hM : ss.length = M) (hv : Vw w a c h) (hvs : VwS w sa sc hs ss) (hm1 : Big h) (hm2 : ∀ l ∈ ss, Big l) :
    Calls Try.prog 12 #[.agg #[.slice a N c, .slice sa M sc]] w fun e w' => e = .returned (.bool true) ∧ Below w.heap.size w w' := by
  have HBG := Lib.hid (And.intro hm1 hm2); clear hm1 hm2
  have HV := Lib.hid hv; clear hv
  have HVS := Lib.hid hvs; clear hvs
  have H0 := Lib.hid (bel1 w (.cells #[.slice a N c, .slice sa M sc] 71))
  have KP := Lib.hid (Bb.made (.slice a N c) (.slice sa M sc) w 71)
  have HSZ := Lib.hid (szBarn_any _ a sa c sc N M h hs ss hN hM 1048576 (HV.out.below H0.out) (HVS.out.below H0.out) HBG.out.1 HBG.out.2 (by decide) (by decide))
  go_enter Try.func12, Try.ntmps12
  go_wp2_with fail
  refine HSZ.out.mono ?_; rintro e w1 ⟨z, rfl, b1, hz⟩
  have B1 := Lib.hid (bel_tr H0.out b1 (Nat.le_refl _))
  have KP := Lib.hid (KP.out.next b1); clear b1 HSZ
  rcases hz with hz | ⟨z0, z1, y1, y2, y3⟩
  · go_wp2_with fail
    go_ret
    exact ⟨rfl, B1.out⟩
  have HLM := Lib.hid (low_of y1 y2 y3)
  have q0 : ¬ z < 0 := by omega
  clear z0 z1 y1 y2 y3
  have Z1 := Lib.hid B1.out.size
  obtain ⟨kP0, kP1, kP2, kP3, -⟩ := id KP.out
  go_wp2_with fail
  clear kP0 kP1 kP2 kP3
  refine (toBarn_any w1 a sa c sc N M h hs ss hN hM (HV.out.below B1.out) (HVS.out.below B1.out) HLM.out.1).mono ?_; rintro e w2 ⟨q1, p1, rfl, o, b2⟩
  have B2 := Lib.hid (bel_tr B1.out b2 (Nat.le_refl _))
  have Z2 := Lib.hid b2.size
  have KP := Lib.hid (KP.out.next b2)
  have Oa := Lib.hid (OwB.top o); clear o b2
  obtain ⟨kP0, kP1, kP2, kP3, -⟩ := id KP.out
  go_wp2_with fail
  clear kP0 kP1 kP2 kP3
  refine (specBarnO w2 Oa.out.own HLM.out.1 HLM.out.2).mono ?_; rintro e w3 ⟨rfl, b3⟩
  have B3 := Lib.hid (bel_tr B2.out b3 (Nat.le_refl _))
  have Z3 := Lib.hid b3.size
  have Oa := Lib.hid (Oa.out.next b3)
  have KP := Lib.hid (KP.out.next b3)
  clear b3
  clear Oa
  obtain ⟨kP0, kP1, kP2, kP3, -⟩ := id KP.out
  go_wp2_with fail
  clear kP0 kP1 kP2 kP3
  refine (toBarn_any w3 a sa c sc N M h hs ss hN hM (HV.out.below B3.out) (HVS.out.below B3.out) HLM.out.1).mono ?_; rintro e w4 ⟨q2, p2, rfl, o, b4⟩
  have B4 := Lib.hid (bel_tr B3.out b4 (Nat.le_refl _))
  have Z4 := Lib.hid b4.size
  have KP := Lib.hid (KP.out.next b4)
  have Ox := Lib.hid (OwB.top o); clear o b4
  obtain ⟨kP0, kP1, kP2, kP3, -⟩ := id KP.out
  go_wp2_with fail
  clear kP0 kP1 kP2 kP3
  have b5 := bel1 w4 (.cells #[.slice (some ⟨q2, 0, none⟩) N N, .slice (some ⟨p2, 0, none⟩) M M] 45)
  have B5 := Lib.hid (bel_tr B4.out b5 (Nat.le_refl _))
  have Z5 := Lib.hid b5.size
  have Ox := Lib.hid (Ox.out.next b5)
  have KP := Lib.hid (KP.out.next b5)
  have Kx := Lib.hid (Bb.made (.slice (some ⟨q2, 0, none⟩) N N) (.slice (some ⟨p2, 0, none⟩) M M) w4 45)
  clear b5
  generalize w4.alloc (.cells #[.slice (some ⟨q2, 0, none⟩) N N, .slice (some ⟨p2, 0, none⟩) M M] 45) = w5 at B5 Z5 Kx Ox KP ⊢
  refine (implBarnO w5 Ox.out.own HLM.out.1).mono ?_; rintro e w6 ⟨rfl, b6⟩
  have B6 := Lib.hid (bel_tr B5.out b6 (Nat.le_refl _))
  have Z6 := Lib.hid b6.size
  have Ox := Lib.hid (Ox.out.next b6)
  have KP := Lib.hid (KP.out.next b6)
  have Kx := Lib.hid (Kx.out.next b6)
  clear b6
  have hself : (!(okB h ss == okB h ss)) = false := by simp
  generalize okB h ss = y at *
  obtain ⟨kP0, kP1, kP2, kP3, -⟩ := id KP.out
  obtain ⟨kx0, kx1, kx2, kx3, -⟩ := id Kx.out
  go_wp2_with fail
  clear kP0 kP1 kP2 kP3 kx0 kx1 kx2 kx3
  obtain ⟨hx0, hx1, -, -, hxq⟩ := id Kx.out
  obtain ⟨hP0, hP1, -, -, hPq⟩ := id KP.out
  have SOF := Lib.hid (show ∀ z, Below w6.heap.size w6 z → (z.cell? ⟨w4.heap.size, 0, none⟩ = some (.slice (some ⟨q2, 0, none⟩) N N) ∧ z.cell? ⟨w4.heap.size, 1, none⟩ = some (.slice (some ⟨p2, 0, none⟩) M M) ∧ z.cell? ⟨w.heap.size, 0, none⟩ = some (.slice a N c) ∧ z.cell? ⟨w.heap.size, 1, none⟩ = some (.slice sa M sc) ∧ Below w6.heap.size w6 z) from fun z hz => ⟨coc hz hxq hx0, coc hz hxq hx1, coc hz hPq hP0, coc hz hPq hP1,  hz⟩)
  clear hx0 hx1 hP0 hP1
  refine wp_region_held_drew (S := fun z => z.cell? ⟨w4.heap.size, 0, none⟩ = some (.slice (some ⟨q2, 0, none⟩) N N) ∧ z.cell? ⟨w4.heap.size, 1, none⟩ = some (.slice (some ⟨p2, 0, none⟩) M M) ∧ z.cell? ⟨w.heap.size, 0, none⟩ = some (.slice a N c) ∧ z.cell? ⟨w.heap.size, 1, none⟩ = some (.slice sa M sc) ∧ Below w6.heap.size w6 z) (by kernel_rfl) (SOF.out _ (Below.refl _ _).drew) (fun hHeld => ?_)
  refine wpAnyH_take (i := 0) (v := ?v0a) rfl (by kernel_rfl) (by kernel_rfl) (by kernel_rfl) (fun _ _ _ h => h) (Or.inl ⟨by rfl, ?hy0a⟩) (by assumption) ?rest0a
  case hy0a => (intro zz hSw; (try dsimp only at hSw); go_simp; (try with_reducible rfl))
  change wpAnyH _ _ _ _ _ _ _ (Act.put _ (some 22) _) _
  simp only [Act.put, List.setIfInBounds_toArray, List.set_cons_zero, List.set_cons_succ]
  refine wpAnyH_take (i := 1) (v := ?v1a) rfl (by kernel_rfl) (by kernel_rfl) (by kernel_rfl) (fun _ _ _ h => h) (Or.inl ⟨by rfl, ?hy1a⟩) (by assumption) ?rest1a
  case hy1a => (intro zz hSw; (try dsimp only at hSw); go_simp; (try with_reducible rfl))
  change wpAnyH _ _ _ _ _ _ _ (Act.put _ (some 23) _) _
  simp only [Act.put, List.setIfInBounds_toArray, List.set_cons_zero, List.set_cons_succ]
  refine wpAnyH_ready (rs := [2]) (by kernel_rfl) (by simp) (AllReadyH.cons rfl (fun K hK => ?_) (AllReadyH.nil))
  go_simp
  refine (toBarn_any _ a sa c sc N M h hs ss hN hM (HV.out.below (bel_tr B6.out hHeld.2.2.2.2 (Nat.le_refl _))) (HVS.out.below (bel_tr B6.out hHeld.2.2.2.2 (Nat.le_refl _))) HLM.out.1).mono ?_; rintro e w7 ⟨q3, p3, rfl, o, bel⟩
  have Ot := Lib.hid o; clear o
  have Bt := Lib.hid (bel_tr hHeld.2.2.2.2 bel (Nat.le_refl _))
  refine hK.out _ _ (SOF.out _ (bel_tr hHeld.2.2.2.2 bel (Nat.le_refl _))) (fun hHeld => ?_)
  clear hK K
  refine wpAnyH_ready (rs := [3]) (by kernel_rfl) (by simp) (AllReadyH.cons rfl (fun K hK => ?_) (AllReadyH.nil))
  go_simp
  refine (eqB_own _ (Ox.out.next hHeld.2.2.2.2).own Ot.out HLM.out.1).mono ?_; rintro e w8 ⟨rfl, bel⟩
  refine hK.out _ _ (SOF.out _ (bel_tr hHeld.2.2.2.2 bel (Nat.le_refl _))) (fun hHeld => ?_)
  clear hK K
  refine wpAnyH_take (i := 4) (v := ?v4a) rfl (by kernel_rfl) (by kernel_rfl) (by kernel_rfl) (fun _ _ _ h => h) (Or.inl ⟨by rfl, ?hy4a⟩) (by assumption) ?rest4a
  case hy4a => (intro zz hSw; (try dsimp only at hSw); go_simp; (try with_reducible rfl))
  change wpAnyH _ _ _ _ _ _ _ (Act.put _ (some 26) _) _
  simp only [Act.put, List.setIfInBounds_toArray, List.set_cons_zero, List.set_cons_succ]
  refine wpAnyH_done (by kernel_rfl) ?_ _
  have bx := hHeld.2.2.2.2; clear hHeld SOF
  clear hxq hPq
  have B8 := Lib.hid (bel_tr B6.out bx (Nat.le_refl _))
  have Z8 := Lib.hid bx.size
  have Ox := Lib.hid (Ox.out.next bx)
  have KP := Lib.hid (KP.out.next bx)
  have Kx := Lib.hid (Kx.out.next bx)
  clear bx
  go_wp2_with fail
  go_ret
  exact ⟨rfl, B8.out⟩
end Go.Proofs.Ytkkpokfekbdigaa.Cl
