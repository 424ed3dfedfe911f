/-
  The walk of the exact law of FindBarn. (Made by gen_xbf.py.)
-/
import Derived.Test.YtkkpokfekbdigaaRe
import Derived.Test.YtkkpokfekbdigaaRg
import Derived.Test.YtkkpokfekbdigaaXa
namespace Go.Proofs.Ytkkpokfekbdigaa.Cl
open Go.RowKit Wd Rp Kp Ra
set_option linter.unusedVariables false
set_option maxHeartbeats 8000000 in
set_option maxRecDepth 100000 in
theorem FnExactFindBarn_walk (w : World) (a sa : Option Addr) (c sc N M : Nat) (h : List Cel) (hs : List Hd) (ss : List (List Cel)) (hN : h.length = N) (hM : ss.length = M) (hv : Vw w a c h) (hvs : VwS w sa sc hs ss) (hm1 : Big h) (hm2 : ∀ l ∈ ss, Big l) (K : Cel) :
    Calls Try.prog 15 #[.agg #[.slice a N c, .slice sa M sc], .string K.r, .string K.b, .int .i64 K.t] w fun e w' => e = .returned (.bool true) ∧ Below w.heap.size w w' := by
  by_cases h1 : 1048576 < K.r.size
  · have q1 : (1048576 : Int) < (K.r.size : Int) := by omega
    have HB := Lib.hid (bel1 w)
    go_enter Try.func15, Try.ntmps15
    go_wp2_with fail
    go_ret
    exact ⟨rfl, HB.out _⟩
  have q1 : ¬ (1048576 : Int) < (K.r.size : Int) := by omega
  by_cases h2 : 1048576 < K.b.size
  · have q2 : (1048576 : Int) < (K.b.size : Int) := by omega
    have HB := Lib.hid (bel1 w)
    go_enter Try.func15, Try.ntmps15
    go_wp2_with fail
    go_ret
    exact ⟨rfl, HB.out _⟩
  have q2 : ¬ (1048576 : Int) < (K.b.size : Int) := by omega
  have HKM := Lib.hid (show K.mod from ⟨by omega, by omega⟩)
  have HBG := Lib.hid (And.intro hm1 hm2); clear hm1 hm2
  have HV := Lib.hid hv; clear hv
  have HVS := Lib.hid hvs; clear hvs
  have H0 := Lib.hid (bel1 w (.cells #[.slice a N c, .slice sa M sc] 71))
  have KP := Lib.hid (Bb.made (.slice a N c) (.slice sa M sc) w 71)
  have HSZ := Lib.hid (szBarn_any _ a sa c sc N M h hs ss hN hM 1048576 (HV.out.below H0.out) (HVS.out.below H0.out) HBG.out.1 HBG.out.2 (by decide) (by decide))
  go_enter Try.func15, Try.ntmps15
  go_wp2_with fail
  refine HSZ.out.mono ?_; rintro e w1 ⟨z, rfl, b1, hz⟩
  have B1 := Lib.hid (bel_tr H0.out b1 (Nat.le_refl _))
  have KP := Lib.hid (KP.out.next b1); clear b1 HSZ
  rcases hz with hz | ⟨z0, z1, y1, y2, y3⟩
  · go_wp2_with fail
    go_ret
    exact ⟨rfl, B1.out⟩
  have HLM := Lib.hid (low_of y1 y2 y3)
  have q0 : ¬ z < 0 := by omega
  have HSP0 := Lib.hid (fun w B hv sv (o : OwB B w hv sv h ss) => specFindO K w o HLM.out.1 HLM.out.2 HKM.out)
  have HIM0 := Lib.hid (fun w B hv sv (o : OwB B w hv sv h ss) => implFindO K w o HLM.out.1)
  generalize fdP h ss K = st at HSP0 HIM0
  obtain ⟨s, b⟩ := st
  have HSP := Lib.hid (show ∀ w B hv sv, OwB B w hv sv h ss → Calls Try.prog 33 #[.agg #[hv, sv], .string K.r, .string K.b, .int .i64 K.t] w fun e w' => e = .returned (.tuple #[.agg #[.string s.r, .string s.b, .int .i64 s.t, .int .i64 s.v, .bool s.g], .bool b]) ∧ Below w.heap.size w w' from HSP0.out)
  have HIM := Lib.hid (show ∀ w B hv sv, OwB B w hv sv h ss → Calls Try.prog 32 #[.agg #[hv, sv], .string K.r, .string K.b, .int .i64 K.t] w fun e w' => e = .returned (.tuple #[.agg #[.string s.r, .string s.b, .int .i64 s.t, .int .i64 s.v, .bool s.g], .bool b]) ∧ Below w.heap.size w w' from HIM0.out)
  have hself : (!(b == b)) = false := by simp
  clear z0 z1 y1 y2 y3 HSP0 HIM0
  have Z1 := Lib.hid B1.out.size
  obtain ⟨kP0, kP1, kP2, kP3, -⟩ := id KP.out
  go_wp2_with fail
  clear kP0 kP1 kP2 kP3
  refine (toBarn_any w1 a sa c sc N M h hs ss hN hM (HV.out.below B1.out) (HVS.out.below B1.out) HLM.out.1).mono ?_; rintro e w2 ⟨q1, p1, rfl, o, b2⟩
  have B2 := Lib.hid (bel_tr B1.out b2 (Nat.le_refl _))
  have Z2 := Lib.hid b2.size
  have KP := Lib.hid (KP.out.next b2)
  have Oa := Lib.hid (OwB.top o); clear o b2
  obtain ⟨kP0, kP1, kP2, kP3, -⟩ := id KP.out
  go_wp2_with fail
  clear kP0 kP1 kP2 kP3
  refine (HSP.out w2 _ _ _ Oa.out.own).mono ?_; rintro e w3 ⟨rfl, b3⟩
  have B3 := Lib.hid (bel_tr B2.out b3 (Nat.le_refl _))
  have Z3 := Lib.hid b3.size
  have Oa := Lib.hid (Oa.out.next b3)
  have KP := Lib.hid (KP.out.next b3)
  clear b3
  clear Oa
  obtain ⟨kP0, kP1, kP2, kP3, -⟩ := id KP.out
  have b4 := bel1 w3 (.cells #[.string s.r, .string s.b, .int .i64 s.t, .int .i64 s.v, .bool s.g] 28)
  have B4 := Lib.hid (bel_tr B3.out b4 (Nat.le_refl _))
  have Z4 := Lib.hid b4.size
  have KP := Lib.hid (KP.out.next b4)
  clear b4
  have KW := Lib.hid (Cb.made s w3 28)
  obtain ⟨mP0, mP1, mP2, mP3, -⟩ := id KP.out
  go_wp2_with fail
  clear kP0 kP1 kP2 kP3 mP0 mP1 mP2 mP3
  generalize w3.alloc (.cells #[.string s.r, .string s.b, .int .i64 s.t, .int .i64 s.v, .bool s.g] 28) = w4 at B4 Z4 KW KP ⊢
  refine (toBarn_any w4 a sa c sc N M h hs ss hN hM (HV.out.below B4.out) (HVS.out.below B4.out) HLM.out.1).mono ?_; rintro e w5 ⟨q2, p2, rfl, o, b5⟩
  have B5 := Lib.hid (bel_tr B4.out b5 (Nat.le_refl _))
  have Z5 := Lib.hid b5.size
  have KP := Lib.hid (KP.out.next b5)
  have KW := Lib.hid (KW.out.next b5)
  have Ox := Lib.hid (OwB.top o); clear o b5
  obtain ⟨kP0, kP1, kP2, kP3, -⟩ := id KP.out
  obtain ⟨⟨kW0, kW1, kW2, kW3, kW4⟩, ⟨kW5, kW6, kW7, kW8, kW9⟩, -⟩ := id KW.out
  have b6 := bel1 w5 (.cells #[.slice (some ⟨q2, 0, none⟩) N N, .slice (some ⟨p2, 0, none⟩) M M] 45)
  have B6 := Lib.hid (bel_tr B5.out b6 (Nat.le_refl _))
  have Z6 := Lib.hid b6.size
  have Ox := Lib.hid (Ox.out.next b6)
  have KP := Lib.hid (KP.out.next b6)
  have KW := Lib.hid (KW.out.next b6)
  clear b6
  have Kx := Lib.hid (Bb.made (.slice (some ⟨q2, 0, none⟩) N N) (.slice (some ⟨p2, 0, none⟩) M M) w5 45)
  obtain ⟨mP0, mP1, mP2, mP3, -⟩ := id KP.out
  obtain ⟨⟨mW0, mW1, mW2, mW3, mW4⟩, ⟨mW5, mW6, mW7, mW8, mW9⟩, -⟩ := id KW.out
  go_wp2_with fail
  clear kP0 kP1 kP2 kP3 kW0 kW1 kW2 kW3 kW4 kW5 kW6 kW7 kW8 kW9 mP0 mP1 mP2 mP3 mW0 mW1 mW2 mW3 mW4 mW5 mW6 mW7 mW8 mW9
  generalize w5.alloc (.cells #[.slice (some ⟨q2, 0, none⟩) N N, .slice (some ⟨p2, 0, none⟩) M M] 45) = w6 at B6 Z6 Kx Ox KP KW ⊢
  refine (HIM.out w6 _ _ _ Ox.out.own).mono ?_; rintro e w7 ⟨rfl, b7⟩
  have B7 := Lib.hid (bel_tr B6.out b7 (Nat.le_refl _))
  have Z7 := Lib.hid b7.size
  have Ox := Lib.hid (Ox.out.next b7)
  have KP := Lib.hid (KP.out.next b7)
  have Kx := Lib.hid (Kx.out.next b7)
  have KW := Lib.hid (KW.out.next b7)
  clear b7
  obtain ⟨kP0, kP1, kP2, kP3, -⟩ := id KP.out
  obtain ⟨kx0, kx1, kx2, kx3, -⟩ := id Kx.out
  obtain ⟨⟨kW0, kW1, kW2, kW3, kW4⟩, ⟨kW5, kW6, kW7, kW8, kW9⟩, -⟩ := id KW.out
  have b8 := bel1 w7 (.cells #[.string s.r, .string s.b, .int .i64 s.t, .int .i64 s.v, .bool s.g] 28)
  have B8 := Lib.hid (bel_tr B7.out b8 (Nat.le_refl _))
  have Z8 := Lib.hid b8.size
  have Ox := Lib.hid (Ox.out.next b8)
  have KP := Lib.hid (KP.out.next b8)
  have Kx := Lib.hid (Kx.out.next b8)
  have KW := Lib.hid (KW.out.next b8)
  clear b8
  have KG := Lib.hid (Cb.made s w7 28)
  obtain ⟨mP0, mP1, mP2, mP3, -⟩ := id KP.out
  obtain ⟨mx0, mx1, mx2, mx3, -⟩ := id Kx.out
  obtain ⟨⟨mW0, mW1, mW2, mW3, mW4⟩, ⟨mW5, mW6, mW7, mW8, mW9⟩, -⟩ := id KW.out
  go_wp2_with fail
  clear kP0 kP1 kP2 kP3 kx0 kx1 kx2 kx3 kW0 kW1 kW2 kW3 kW4 kW5 kW6 kW7 kW8 kW9 mP0 mP1 mP2 mP3 mx0 mx1 mx2 mx3 mW0 mW1 mW2 mW3 mW4 mW5 mW6 mW7 mW8 mW9
  generalize w7.alloc (.cells #[.string s.r, .string s.b, .int .i64 s.t, .int .i64 s.v, .bool s.g] 28) = w8 at B8 Z8 KG Ox KP Kx KW ⊢
  refine (eqCell_same s.r s.b s.t s.v s.g w8).mono ?_; rintro e w9 ⟨rfl, b9⟩
  have B9 := Lib.hid (bel_tr B8.out b9 (Nat.le_refl _))
  have Z9 := Lib.hid b9.size
  have Ox := Lib.hid (Ox.out.next b9)
  have KP := Lib.hid (KP.out.next b9)
  have Kx := Lib.hid (Kx.out.next b9)
  have KW := Lib.hid (KW.out.next b9)
  have KG := Lib.hid (KG.out.next b9)
  clear b9
  obtain ⟨kP0, kP1, kP2, kP3, -⟩ := id KP.out
  obtain ⟨kx0, kx1, kx2, kx3, -⟩ := id Kx.out
  obtain ⟨⟨kW0, kW1, kW2, kW3, kW4⟩, ⟨kW5, kW6, kW7, kW8, kW9⟩, -⟩ := id KW.out
  obtain ⟨⟨kG0, kG1, kG2, kG3, kG4⟩, ⟨kG5, kG6, kG7, kG8, kG9⟩, -⟩ := id KG.out
  go_wp2_with fail
  clear kP0 kP1 kP2 kP3 kx0 kx1 kx2 kx3 kW0 kW1 kW2 kW3 kW4 kW5 kW6 kW7 kW8 kW9 kG0 kG1 kG2 kG3 kG4 kG5 kG6 kG7 kG8 kG9
  obtain ⟨hx0, hx1, -, -, hxq⟩ := id Kx.out
  obtain ⟨hP0, hP1, -, -, hPq⟩ := id KP.out
  have SOF := Lib.hid (show ∀ z, Below w9.heap.size w9 z → (z.cell? ⟨w5.heap.size, 0, none⟩ = some (.slice (some ⟨q2, 0, none⟩) N N) ∧ z.cell? ⟨w5.heap.size, 1, none⟩ = some (.slice (some ⟨p2, 0, none⟩) M M) ∧ z.cell? ⟨w.heap.size, 0, none⟩ = some (.slice a N c) ∧ z.cell? ⟨w.heap.size, 1, none⟩ = some (.slice sa M sc) ∧ Below w9.heap.size w9 z) from fun z hz => ⟨coc hz hxq hx0, coc hz hxq hx1, coc hz hPq hP0, coc hz hPq hP1,  hz⟩)
  clear hx0 hx1 hP0 hP1
  refine wp_region_held_drew (S := fun z => z.cell? ⟨w5.heap.size, 0, none⟩ = some (.slice (some ⟨q2, 0, none⟩) N N) ∧ z.cell? ⟨w5.heap.size, 1, none⟩ = some (.slice (some ⟨p2, 0, none⟩) M M) ∧ z.cell? ⟨w.heap.size, 0, none⟩ = some (.slice a N c) ∧ z.cell? ⟨w.heap.size, 1, none⟩ = some (.slice sa M sc) ∧ Below w9.heap.size w9 z) (by kernel_rfl) (SOF.out _ (Below.refl _ _).drew) (fun hHeld => ?_)
  refine wpAnyH_take (i := 0) (v := ?v0a) rfl (by kernel_rfl) (by kernel_rfl) (by kernel_rfl) (fun _ _ _ h => h) (Or.inl ⟨by rfl, ?hy0a⟩) (by assumption) ?rest0a
  case hy0a => (intro zz hSw; (try dsimp only at hSw); go_simp; (try with_reducible rfl))
  change wpAnyH _ _ _ _ _ _ _ (Act.put _ (some 54) _) _
  simp only [Act.put, List.setIfInBounds_toArray, List.set_cons_zero, List.set_cons_succ]
  refine wpAnyH_take (i := 1) (v := ?v1a) rfl (by kernel_rfl) (by kernel_rfl) (by kernel_rfl) (fun _ _ _ h => h) (Or.inl ⟨by rfl, ?hy1a⟩) (by assumption) ?rest1a
  case hy1a => (intro zz hSw; (try dsimp only at hSw); go_simp; (try with_reducible rfl))
  change wpAnyH _ _ _ _ _ _ _ (Act.put _ (some 55) _) _
  simp only [Act.put, List.setIfInBounds_toArray, List.set_cons_zero, List.set_cons_succ]
  refine wpAnyH_ready (rs := [2]) (by kernel_rfl) (by simp) (AllReadyH.cons rfl (fun K hK => ?_) (AllReadyH.nil))
  go_simp
  refine (toBarn_any _ a sa c sc N M h hs ss hN hM (HV.out.below (bel_tr B9.out hHeld.2.2.2.2 (Nat.le_refl _))) (HVS.out.below (bel_tr B9.out hHeld.2.2.2.2 (Nat.le_refl _))) HLM.out.1).mono ?_; rintro e w10 ⟨q3, p3, rfl, o, bel⟩
  have Ot := Lib.hid o; clear o
  have Bt := Lib.hid (bel_tr hHeld.2.2.2.2 bel (Nat.le_refl _))
  refine hK.out _ _ (SOF.out _ (bel_tr hHeld.2.2.2.2 bel (Nat.le_refl _))) (fun hHeld => ?_)
  clear hK K
  refine wpAnyH_ready (rs := [3]) (by kernel_rfl) (by simp) (AllReadyH.cons rfl (fun K hK => ?_) (AllReadyH.nil))
  go_simp
  refine (eqB_own _ (Ox.out.next hHeld.2.2.2.2).own Ot.out HLM.out.1).mono ?_; rintro e w11 ⟨rfl, bel⟩
  refine hK.out _ _ (SOF.out _ (bel_tr hHeld.2.2.2.2 bel (Nat.le_refl _))) (fun hHeld => ?_)
  clear hK K
  refine wpAnyH_take (i := 4) (v := ?v4a) rfl (by kernel_rfl) (by kernel_rfl) (by kernel_rfl) (fun _ _ _ h => h) (Or.inl ⟨by rfl, ?hy4a⟩) (by assumption) ?rest4a
  case hy4a => (intro zz hSw; (try dsimp only at hSw); go_simp; (try with_reducible rfl))
  change wpAnyH _ _ _ _ _ _ _ (Act.put _ (some 58) _) _
  simp only [Act.put, List.setIfInBounds_toArray, List.set_cons_zero, List.set_cons_succ]
  refine wpAnyH_done (by kernel_rfl) ?_ _
  have bx := hHeld.2.2.2.2; clear hHeld SOF
  clear hxq hPq
  have B11 := Lib.hid (bel_tr B9.out bx (Nat.le_refl _))
  have Z11 := Lib.hid bx.size
  have Ox := Lib.hid (Ox.out.next bx)
  have KP := Lib.hid (KP.out.next bx)
  have Kx := Lib.hid (Kx.out.next bx)
  have KW := Lib.hid (KW.out.next bx)
  have KG := Lib.hid (KG.out.next bx)
  clear bx
  go_wp2_with fail
  go_ret
  exact ⟨rfl, B11.out⟩
end Go.Proofs.Ytkkpokfekbdigaa.Cl
