/-
  The contracts of impl.FindBarn and spec.FindBarn: 'fdP'.
-/
import Derived.Test.YtcloejmakjdgcaaGreatRe
import Derived.Test.YtcloejmakjdgcaaGreatCs
namespace Go.Proofs.YtcloejmakjdgcaaGreat.Cl
open Go.RowKit Wd Rp Kp Ra Go.Shelf
attribute [local go_sem] Oper.semAt_some
set_option linter.unusedVariables false
end Go.Proofs.YtcloejmakjdgcaaGreat.Cl
namespace Go.Proofs.YtcloejmakjdgcaaGreat.Cl
open Go.RowKit Wd Rp Kp Ra
set_option linter.unusedVariables false
set_option maxRecDepth 100000 in
set_option maxHeartbeats 4000000 in
theorem l6Find_any (w : World) (a sa : Option Addr) (c sc n sn : Nat) (h : List Cel) (hs : List Hd) (ss : List (List Cel)) (K : Cel) (hn : h.length = n) (hsn : ss.length = sn) (hv : Vw w a c h) (hvs : VwS w sa sc hs ss) (hlow : Low h ss) :
    Calls Tryz.prog 45 #[.agg #[.slice a n c, .slice sa sn sc], .string K.r, .string K.b, .int .i64 K.t] w (FindPost (fdR h ss K) w) := by
  have HVS := Lib.hid hvs; clear hvs
  have HLOW := Lib.hid hlow; clear hlow
  have HSN := Lib.hid hsn; clear hsn
  have hn1 : n ≤ 1048576 := by rw [← hn]; exact HLOW.out.1
  have hsn1 : sn ≤ 1048576 := by rw [← HSN.out]; exact HLOW.out.2.1
  have H0 := Lib.hid (bel2 w (.cells #[.slice a n c, .slice sa sn sc] 27) (.cells #[.string ⟨#[]⟩, .string ⟨#[]⟩, .int .i64 0, .int .i64 0, .bool false] 44))
  have F0 := Lib.hid (show Bb w.heap.size (.slice a n c) (.slice sa sn sc) ((w.alloc (.cells #[.slice a n c, .slice sa sn sc] 27)).alloc (.cells #[.string ⟨#[]⟩, .string ⟨#[]⟩, .int .i64 0, .int .i64 0, .bool false] 44)) ∧ Cb (w.heap.size + 1) zz ((w.alloc (.cells #[.slice a n c, .slice sa sn sc] 27)).alloc (.cells #[.string ⟨#[]⟩, .string ⟨#[]⟩, .int .i64 0, .int .i64 0, .bool false] 44)) from
    ⟨(Bb.made _ _ w 27).next (bel1 _ _), by
      have := Cb.made zz (w.alloc (.cells #[.slice a n c, .slice sa sn sc] 27)) 44
      rwa [World.size_alloc] at this⟩)
  have hz0 : ((w.alloc (.cells #[.slice a n c, .slice sa sn sc] 27)).alloc (.cells #[.string ⟨#[]⟩, .string ⟨#[]⟩, .int .i64 0, .int .i64 0, .bool false] 44)).heap.size = w.heap.size + 2 := by simp
  have HF0 := Lib.hid (l4Find_any _ a c h K n hn (hv.below H0.out) (by omega)); clear hv hn
  have HFD := Lib.hid (show findR h K = fdT h ss K 0 from by unfold fdT fdR; rw [List.take_zero]; rfl)
  rw [HFD.out] at HF0
  have HZ := Lib.hid (show fdT h ss K sn = fdR h ss K by unfold fdT; rw [List.take_of_length_le (by rw [HSN.out]; exact Nat.le_refl _)])
  generalize hst : fdT h ss K 0 = st0 at *
  obtain ⟨s0, f0⟩ := st0
  have HST0 := Lib.hid hst; clear hst
  have HF1 := Lib.hid (show Calls Tryz.prog 68 #[.slice a n c, .string K.r, .string K.b, .int .i64 K.t] _ fun e w' => e = .returned (.tuple #[.agg #[.string s0.r, .string s0.b, .int .i64 s0.t, .int .i64 s0.v, .bool s0.g], .bool f0]) ∧ Below _ _ w' from HF0.out); clear HF0
  go_enter Tryz.func45, Tryz.ntmps45
  go_wp2_with fail
  refine HF1.out.mono ?_; rintro e w1 ⟨rfl, b1⟩
  have z1 : w.heap.size + 2 ≤ w1.heap.size := by have := b1.size; omega
  have F1 := Lib.hid (show Bb w.heap.size (.slice a n c) (.slice sa sn sc) (w1.alloc (.cells #[.string s0.r, .string s0.b, .int .i64 s0.t, .int .i64 s0.v, .bool s0.g] 44)) ∧ Cb (w.heap.size + 1) zz (w1.alloc (.cells #[.string s0.r, .string s0.b, .int .i64 s0.t, .int .i64 s0.v, .bool s0.g] 44)) ∧ Cb w1.heap.size s0 (w1.alloc (.cells #[.string s0.r, .string s0.b, .int .i64 s0.t, .int .i64 s0.v, .bool s0.g] 44)) from
    ⟨(F0.out.1.next b1).next (bel1 _ _), (F0.out.2.next b1).next (bel1 _ _), Cb.made s0 w1 44⟩)
  have B1 := Lib.hid (bel_tr (bel_tr H0.out b1 (Nat.le_refl _)) (bel1 w1 (.cells #[.string s0.r, .string s0.b, .int .i64 s0.t, .int .i64 s0.v, .bool s0.g] 44)) (Nat.le_refl _))
  clear b1 HF1 F0 H0
  go_wp2_with fail
  go_loopw [11, 12] (fun f i wr => ∃ (k : Nat) (s : Cel) (b : Bool), k ≤ sn ∧ i = .int .i64 k ∧ f = .bool b ∧ fdT h ss K k = (s, b) ∧ Bb w.heap.size (.slice a n c) (.slice sa sn sc) wr ∧ Cb (w.heap.size + 1) zz wr ∧ Cb w1.heap.size s wr ∧ Below w.heap.size w wr) (fun _ i _ => sn - intV i)
  case atStart => exact ⟨0, s0, f0, Nat.zero_le _, rfl, rfl, HST0.out, F1.out.1, F1.out.2.1, F1.out.2.2, B1.out⟩
  case round =>
    clear F1 B1 HST0
    obtain ⟨k, s, b, hk, rfl, rfl, hst, hbb, hzc, hcb, hbel⟩ := hrel
    have HST := Lib.hid hst; clear hst
    have HB := Lib.hid hbel; clear hbel
    have HBB := Lib.hid hbb
    have HZC := Lib.hid hzc
    have HCB := Lib.hid hcb
    obtain ⟨x0, x1, -, -, -⟩ := hbb
    by_cases hlt : k < sn
    · clear hzc hcb
      obtain ⟨t, ht⟩ : ∃ t, ss[k]? = some t := ⟨ss[k]'(by rw [HSN.out]; exact hlt), List.getElem?_eq_getElem _⟩
      obtain ⟨x, g, o, -, rfl, hg, hc, hvl⟩ := HVS.out.at ht
      have hcx : wr.cell? ⟨g, o + k, none⟩ = some (.slice x.a t.length x.c) := (HB.out.cell (p := ⟨g, o + k, none⟩) hg).trans hc
      have htl : t.length ≤ 1048576 := HLOW.out.2.2 t (List.mem_of_getElem? ht)
      have HF := Lib.hid (l4Find_any wr x.a x.c t K t.length rfl (hvl.below HB.out) (by omega)); clear hvl hc hg
      have HSX := Lib.hid (fdT_succ (h := h) (K := K) ht); clear ht
      rw [HST.out] at HSX
      generalize findR t K = fx at *
      obtain ⟨fc, fb⟩ := fx
      generalize t.length = tl at *
      have HF1 := Lib.hid (show Calls Tryz.prog 68 #[.slice x.a tl x.c, .string K.r, .string K.b, .int .i64 K.t] wr fun e w' => e = .returned (.tuple #[.agg #[.string fc.r, .string fc.b, .int .i64 fc.t, .int .i64 fc.v, .bool fc.g], .bool fb]) ∧ Below wr.heap.size wr w' from HF.out); clear HF
      go_wp2_with fail
      refine HF1.out.mono ?_; rintro e w4 ⟨rfl, b4⟩
      have BB4 := Lib.hid (HBB.out.next b4)
      have ZC4 := Lib.hid (HZC.out.next b4)
      have CB4 := Lib.hid (HCB.out.next b4)
      have B4 := Lib.hid (bel_tr HB.out b4 (Nat.le_refl _))
      have hs4 : w1.heap.size < w4.heap.size := CB4.out.2.2
      clear b4 x0 x1 hcx HF1 HBB HZC HCB HB
      obtain ⟨⟨d0, d1, d2, d3, d4⟩, ⟨e0, e1, e2, e3, e4⟩, dq⟩ := id CB4.out
      have C5 := Lib.hid (CB4.out.next (bel1 w4 (.cells #[.string fc.r, .string fc.b, .int .i64 fc.t, .int .i64 fc.v, .bool fc.g] 44)))
      obtain ⟨⟨c0, c1, c2, c3, c4⟩, ⟨g0, g1, g2, g3, g4⟩, cq⟩ := id C5.out
      have REL0 := Lib.hid (show stepF (s, b) (fc, fb) = (s, b) → ∃ (k' : Nat) (s' : Cel) (b' : Bool), k' = k + 1 ∧ s' = s ∧ b' = b ∧ fdT h ss K k' = (s', b') ∧ Bb w.heap.size (.slice a n c) (.slice (some ⟨g, o, none⟩) sn sc) (w4.alloc (.cells #[.string fc.r, .string fc.b, .int .i64 fc.t, .int .i64 fc.v, .bool fc.g] 44)) ∧ Cb (w.heap.size + 1) zz (w4.alloc (.cells #[.string fc.r, .string fc.b, .int .i64 fc.t, .int .i64 fc.v, .bool fc.g] 44)) ∧ Cb w1.heap.size s' (w4.alloc (.cells #[.string fc.r, .string fc.b, .int .i64 fc.t, .int .i64 fc.v, .bool fc.g] 44)) ∧ Below w.heap.size w (w4.alloc (.cells #[.string fc.r, .string fc.b, .int .i64 fc.t, .int .i64 fc.v, .bool fc.g] 44)) from
        fun e => ⟨k + 1, s, b, rfl, rfl, rfl, HSX.out.trans e, BB4.out.next (bel1 _ _), ZC4.out.next (bel1 _ _), C5.out, bel_tr B4.out (bel1 _ _) (Nat.le_refl _)⟩)
      have REL1 := Lib.hid (show stepF (s, b) (fc, fb) = (fc, true) → ∃ (k' : Nat) (s' : Cel) (b' : Bool), k' = k + 1 ∧ s' = fc ∧ b' = true ∧ fdT h ss K k' = (s', b') ∧ Bb w.heap.size (.slice a n c) (.slice (some ⟨g, o, none⟩) sn sc) ((put5 w4 w1.heap.size fc).alloc (.cells #[.string fc.r, .string fc.b, .int .i64 fc.t, .int .i64 fc.v, .bool fc.g] 44)) ∧ Cb (w.heap.size + 1) zz ((put5 w4 w1.heap.size fc).alloc (.cells #[.string fc.r, .string fc.b, .int .i64 fc.t, .int .i64 fc.v, .bool fc.g] 44)) ∧ Cb w1.heap.size s' ((put5 w4 w1.heap.size fc).alloc (.cells #[.string fc.r, .string fc.b, .int .i64 fc.t, .int .i64 fc.v, .bool fc.g] 44)) ∧ Below w.heap.size w ((put5 w4 w1.heap.size fc).alloc (.cells #[.string fc.r, .string fc.b, .int .i64 fc.t, .int .i64 fc.v, .bool fc.g] 44)) from
        fun e => ⟨k + 1, fc, true, rfl, rfl, rfl, HSX.out.trans e, (BB4.out.same' (put5_other _ _ _ _ (by omega))).next (bel1 _ _), (ZC4.out.same (put5_other _ _ _ _ (by omega))).next (bel1 _ _), CB4.out.put5.next (bel1 _ _), bel_tr (put5_below B4.out (by omega)) (bel1 _ _) (Nat.le_refl _)⟩)
      cases fb
      · obtain ⟨k', s', b', e1, e2, e3, e4, e5, e6, e7, e8⟩ := REL0.out (step_no rfl)
        have RR := Lib.hid (And.intro e4 (And.intro e5 (And.intro e6 (And.intro e7 e8)))); clear e4 e5 e6 e7 e8 REL0 REL1
        go_wp2_with fail
        go_roundw
        case rel => exact ⟨k', s', b', by omega, by rw [e1]; go_num, by rw [e3], RR.out.1, RR.out.2.1, RR.out.2.2.1, RR.out.2.2.2.1, RR.out.2.2.2.2⟩
        case measure => simp [intV]; omega
      · cases b
        · obtain ⟨k', s', b', e1, e2, e3, e4, e5, e6, e7, e8⟩ := REL1.out (step_new rfl rfl)
          have RR := Lib.hid (And.intro e4 (And.intro e5 (And.intro e6 (And.intro e7 e8)))); clear e4 e5 e6 e7 e8 REL0 REL1
          go_wp2_with fail
          go_roundw
          case rel => exact ⟨k', s', b', by omega, by rw [e1]; go_num, by rw [e3], RR.out.1, RR.out.2.1, RR.out.2.2.1, RR.out.2.2.2.1, RR.out.2.2.2.2⟩
          case measure => simp [intV]; omega
        · by_cases htt : s.t < fc.t
          · obtain ⟨k', s', b', e1, e2, e3, e4, e5, e6, e7, e8⟩ := REL1.out (step_yes rfl rfl htt)
            have RR := Lib.hid (And.intro e4 (And.intro e5 (And.intro e6 (And.intro e7 e8)))); clear e4 e5 e6 e7 e8 REL0 REL1
            go_wp2_with fail
            go_roundw
            case rel => exact ⟨k', s', b', by omega, by rw [e1]; go_num, by rw [e3], RR.out.1, RR.out.2.1, RR.out.2.2.1, RR.out.2.2.2.1, RR.out.2.2.2.2⟩
            case measure => simp [intV]; omega
          · obtain ⟨k', s', b', e1, e2, e3, e4, e5, e6, e7, e8⟩ := REL0.out (step_old rfl rfl htt)
            have RR := Lib.hid (And.intro e4 (And.intro e5 (And.intro e6 (And.intro e7 e8)))); clear e4 e5 e6 e7 e8 REL0 REL1
            go_wp2_with fail
            go_roundw
            case rel => exact ⟨k', s', b', by omega, by rw [e1]; go_num, by rw [e3], RR.out.1, RR.out.2.1, RR.out.2.2.1, RR.out.2.2.2.1, RR.out.2.2.2.2⟩
            case measure => simp [intV]; omega
    · obtain rfl : k = sn := by omega
      have HE := Lib.hid (HZ.out.symm.trans HST.out)
      obtain ⟨⟨c0, c1, c2, c3, c4⟩, ⟨g0, g1, g2, g3, g4⟩, cq⟩ := hcb
      obtain ⟨⟨y0, y1, y2, y3, y4⟩, ⟨k0, k1, k2, k3, k4⟩, yq⟩ := hzc
      have K6 := Lib.hid (Cb.put5 (d := s) HZC.out)
      have B6 := Lib.hid (put5_below (c := s) HB.out (show w.heap.size ≤ w.heap.size + 1 by omega))
      go_wp2_with fail
      change bodyPost _ _ _ .ret _ (put5 wr (w.heap.size + 1) s)
      generalize put5 wr (w.heap.size + 1) s = Z at *
      clear c0 c1 c2 c3 c4 g0 g1 g2 g3 g4 y0 y1 y2 y3 y4 k0 k1 k2 k3 k4
      obtain ⟨⟨c0, c1, c2, c3, c4⟩, -, -⟩ := id K6.out
      refine bodyPost_ret (v := .tuple #[s.agg, .bool b]) (by simp [results, Tryz.results45, go_sem, c0, c1, c2, c3, c4, Cel.agg]) rfl ⟨by rw [HE.out], B6.out⟩
end Go.Proofs.YtcloejmakjdgcaaGreat.Cl
namespace Go.Proofs.YtcloejmakjdgcaaGreat.Cl
open Go.RowKit Wd Rp Kp Ra
set_option linter.unusedVariables false
set_option maxRecDepth 100000 in
set_option maxHeartbeats 4000000 in
theorem specFindB_any (w : World) (a sa : Option Addr) (c sc n sn : Nat) (h : List Cel) (hs : List Hd) (ss : List (List Cel)) (K : Cel) (hn : h.length = n) (hsn : ss.length = sn) (hv : Vw w a c h) (hvs : VwS w sa sc hs ss) (hlow : Low h ss) (hmod : Mod h ss) (hKm : K.mod) :
    Calls Tryz.prog 17 #[.agg #[.slice a n c, .slice sa sn sc], .string K.r, .string K.b, .int .i64 K.t] w (FindPost (fdP h ss K) w) := by
  have HV := Lib.hid hv; clear hv
  have HVS := Lib.hid hvs; clear hvs
  have HLM := Lib.hid (And.intro hlow hmod); clear hlow hmod
  have HN := Lib.hid (And.intro hn hsn); clear hn hsn
  have H0 := Lib.hid (bel2 w (.cells #[.slice a n c, .slice sa sn sc] 27) (.cells #[.string ⟨#[]⟩, .string ⟨#[]⟩, .int .i64 0, .int .i64 0, .bool false] 44))
  have F0 := Lib.hid (show Bb w.heap.size (.slice a n c) (.slice sa sn sc) ((w.alloc (.cells #[.slice a n c, .slice sa sn sc] 27)).alloc (.cells #[.string ⟨#[]⟩, .string ⟨#[]⟩, .int .i64 0, .int .i64 0, .bool false] 44)) ∧ Cb (w.heap.size + 1) zz ((w.alloc (.cells #[.slice a n c, .slice sa sn sc] 27)).alloc (.cells #[.string ⟨#[]⟩, .string ⟨#[]⟩, .int .i64 0, .int .i64 0, .bool false] 44)) from
    ⟨(Bb.made _ _ w 27).next (bel1 _ _), by
      have := Cb.made zz (w.alloc (.cells #[.slice a n c, .slice sa sn sc] 27)) 44
      rwa [World.size_alloc] at this⟩)
  have HBK := Lib.hid (fun x (e : okB h ss = x) => barnS_is e _ a sa c sc n sn hs HN.out.1 HN.out.2 (HV.out.below H0.out) (HVS.out.below H0.out) HLM.out.1 HLM.out.2)
  cases hok : okB h ss
  · have HP := Lib.hid (fdP_no (K := K) hok)
    have HB := Lib.hid (HBK.out _ hok); clear hok HBK
    go_enter Tryz.func17, Tryz.ntmps17
    go_wp2_with fail
    refine HB.out.mono ?_; rintro e w1 ⟨rfl, b1⟩
    have B1 := Lib.hid (bel_tr H0.out b1 (Nat.le_refl _))
    obtain ⟨⟨z0, z1, z2, z3, z4⟩, ⟨k0, k1, k2, k3, k4⟩, zq⟩ := F0.out.2.next b1; clear b1
    go_wp2_with fail
    refine bodyPost_ret (v := .tuple #[zz.agg, .bool false]) (by simp [results, Tryz.results17, go_sem, z0, z1, z2, z3, z4, Cel.agg, zz]) rfl ⟨by rw [HP.out], ?_⟩
    exact put5_below (c := zz) B1.out (by omega)
  · have HOK := Lib.hid hok
    have HB := Lib.hid (HBK.out _ hok); clear hok HBK
    cases hk : keyB K.r.data.toList K.b.data.toList K.t
    · have HP := Lib.hid (fdP_key (h := h) (ss := ss) hk)
      have HK := Lib.hid hk; clear hk
      go_enter Tryz.func17, Tryz.ntmps17
      go_wp2_with fail
      refine HB.out.mono ?_; rintro e w1 ⟨rfl, b1⟩
      have B1 := Lib.hid (bel_tr H0.out b1 (Nat.le_refl _))
      have F1 := Lib.hid (F0.out.2.next b1); clear b1
      go_wp2_with fail
      refine (specKey_is HK.out _ hKm.1 hKm.2).mono ?_; rintro e w2 ⟨rfl, b2⟩
      have B2 := Lib.hid (bel_tr B1.out b2 (Nat.le_refl _))
      obtain ⟨⟨z0, z1, z2, z3, z4⟩, ⟨k0, k1, k2, k3, k4⟩, zq⟩ := F1.out.next b2; clear b2
      go_wp2_with fail
      refine bodyPost_ret (v := .tuple #[zz.agg, .bool false]) (by simp [results, Tryz.results17, go_sem, z0, z1, z2, z3, z4, Cel.agg, zz]) rfl ⟨by rw [HP.out], ?_⟩
      exact put5_below (c := zz) B2.out (by omega)
    · have HP := Lib.hid (fdP_is HOK.out hk)
      have HK := Lib.hid hk; clear hk
      go_enter Tryz.func17, Tryz.ntmps17
      go_wp2_with fail
      refine HB.out.mono ?_; rintro e w1 ⟨rfl, b1⟩
      have B1 := Lib.hid (bel_tr H0.out b1 (Nat.le_refl _))
      have F1 := Lib.hid (And.intro (F0.out.1.next b1) (F0.out.2.next b1)); clear b1
      go_wp2_with fail
      refine (specKey_is HK.out _ hKm.1 hKm.2).mono ?_; rintro e w2 ⟨rfl, b2⟩
      have B2 := Lib.hid (bel_tr B1.out b2 (Nat.le_refl _))
      have F2 := Lib.hid (And.intro (F1.out.1.next b2) (F1.out.2.next b2)); clear b2
      obtain ⟨x0, x1, -, -, -⟩ := id F2.out.1
      have HL := Lib.hid (l6Find_any w2 a sa c sc n sn h hs ss K HN.out.1 HN.out.2 (HV.out.below B2.out) (HVS.out.below B2.out) HLM.out.1)
      generalize fdR h ss K = st at *
      obtain ⟨s, b⟩ := st
      have HL1 := Lib.hid (show Calls Tryz.prog 45 #[.agg #[.slice a n c, .slice sa sn sc], .string K.r, .string K.b, .int .i64 K.t] w2 fun e w' => e = .returned (.tuple #[.agg #[.string s.r, .string s.b, .int .i64 s.t, .int .i64 s.v, .bool s.g], .bool b]) ∧ Below w2.heap.size w2 w' from HL.out); clear HL
      go_wp2_with fail
      refine HL1.out.mono ?_; rintro e w3 ⟨rfl, b3⟩
      have B3 := Lib.hid (bel_tr B2.out b3 (Nat.le_refl _))
      have F3 := Lib.hid (F2.out.2.next b3); clear b3
      obtain ⟨⟨z0, z1, z2, z3, z4⟩, ⟨k0, k1, k2, k3, k4⟩, zq⟩ := id F3.out
      have K6 := Lib.hid (Cb.put5 (d := s) F3.out)
      have B6 := Lib.hid (put5_below (c := s) B3.out (show w.heap.size ≤ w.heap.size + 1 by omega))
      go_wp2_with fail
      change bodyPost _ _ _ .ret _ (put5 w3 (w.heap.size + 1) s)
      generalize put5 w3 (w.heap.size + 1) s = Z at *
      clear z0 z1 z2 z3 z4 k0 k1 k2 k3 k4
      obtain ⟨⟨c0, c1, c2, c3, c4⟩, -, -⟩ := id K6.out
      refine bodyPost_ret (v := .tuple #[s.agg, .bool b]) (by simp [results, Tryz.results17, go_sem, c0, c1, c2, c3, c4, Cel.agg]) rfl ⟨by rw [HP.out], B6.out⟩
theorem specFindO {B : Nat} {hv sv : Value} {h : List Cel} {ss : List (List Cel)} (K : Cel) (w : World) (o : OwB B w hv sv h ss) (hlow : Low h ss) (hmod : Mod h ss) (hKm : K.mod) :
    Calls Tryz.prog 17 #[.agg #[hv, sv], .string K.r, .string K.b, .int .i64 K.t] w (FindPost (fdP h ss K) w) := by
  obtain ⟨a, c, sa, sc, hs, rfl, rfl, h1, h2⟩ := o.view
  exact specFindB_any w a sa c sc _ _ h hs ss K rfl rfl h1 h2 hlow hmod hKm
end Go.Proofs.YtcloejmakjdgcaaGreat.Cl
