/-
  The contracts of impl.FindBarn and spec.FindBarn: 'fdP'.
-/
import Derived.Test.YtkkpokfekbdigaaRe
import Derived.Test.YtkkpokfekbdigaaCs
namespace Go.Proofs.Ytkkpokfekbdigaa.Cl
open Go.RowKit Wd Rp Kp Ra Go.Shelf
attribute [local go_sem] Oper.semAt_some
set_option linter.unusedVariables false
set_option maxRecDepth 100000 in
set_option maxHeartbeats 4000000 in
theorem implFindB_any (w : World) (a sa : Option Addr) (c sc n sn : Nat) (h : List Cel) (hs : List Hd) (ss : List (List Cel)) (K : Cel) (hn : h.length = n) (hsn : ss.length = sn) (hv : Vw w a c h) (hvs : VwS w sa sc hs ss) (hlow : Low h ss) :
    Calls Try.prog 32 #[.agg #[.slice a n c, .slice sa sn sc], .string K.r, .string K.b, .int .i64 K.t] w (FindPost (fdP h ss K) w) := by
  have HV := Lib.hid hv; clear hv
  have HVS := Lib.hid hvs; clear hvs
  have HLOW := Lib.hid hlow; clear hlow
  have HN := Lib.hid hn; clear hn
  have HSN := Lib.hid hsn; clear hsn
  have hn1 : n ≤ 1048576 := by rw [← HN.out]; exact HLOW.out.1
  have hsn1 : sn ≤ 1048576 := by rw [← HSN.out]; exact HLOW.out.2.1
  have H0 := Lib.hid (ftW_below w (.slice a n c) (.slice sa sn sc) K)
  have F0 := Lib.hid (ftW_ft w (.slice a n c) (.slice sa sn sc) K)
  cases hok : okB h ss
  · have HP := Lib.hid (fdP_no (K := K) hok)
    have HB := Lib.hid (barnI_is hok _ a sa c sc n sn hs HN.out HSN.out (HV.out.below H0.out) (HVS.out.below H0.out) HLOW.out); clear hok
    refine (callsIn_wide (n := 9)).1 (callsIn_of_wp_marks Try.func32 rfl trivial ?_ rfl)
    simp only [Try.ntmps32, List.size_toArray, List.length_cons, List.length_nil, Nat.reduceAdd, Nat.reduceSub, Array.replicate_succ, Array.replicate_zero, List.push_toArray, List.append_toArray, List.nil_append, List.cons_append]
    gi_wp2_with fail
    refine ⟨trivial, (callsIn_wide.2 HB.out).mono ?_⟩; rintro e w1 ⟨rfl, b1⟩
    have F1 := Lib.hid (F0.out.next b1)
    have B1 := Lib.hid (bel_tr H0.out b1 (Nat.le_refl _)); clear b1 HB
    obtain ⟨⟨x0, x1, -, -, -⟩, -, -, -, ⟨z0, z1, z2, z3, z4⟩, ⟨f0, f1, f2, f3, f4⟩, zq⟩ := id F1.out
    gi_wp2_with fail
    refine ⟨.tuple #[zz.agg, .bool false], by simp [results, Try.f32, go_sem, z0, z1, z2, z3, z4, Cel.agg, zz], by rw [HP.out], ?_⟩
    exact put5_below (c := zz) B1.out (by omega)
  · have HP := Lib.hid (fdP_yes (K := K) hok)
    have HOK := Lib.hid hok
    have hsn5 : sn ≤ 5 := by rw [← HSN.out]; exact (okB_iff.1 hok).2.1
    have HB := Lib.hid (barnI_is hok _ a sa c sc n sn hs HN.out HSN.out (HV.out.below H0.out) (HVS.out.below H0.out) HLOW.out); clear hok
    refine (callsIn_wide (n := 9)).1 (callsIn_of_wp_marks Try.func32 rfl trivial ?_ rfl)
    simp only [Try.ntmps32, List.size_toArray, List.length_cons, List.length_nil, Nat.reduceAdd, Nat.reduceSub, Array.replicate_succ, Array.replicate_zero, List.push_toArray, List.append_toArray, List.nil_append, List.cons_append]
    gi_wp2_with fail
    refine ⟨trivial, (callsIn_wide.2 HB.out).mono ?_⟩; rintro e w1 ⟨rfl, b1⟩
    have F1 := Lib.hid (F0.out.next b1)
    have hz1 : w.heap.size + 5 ≤ w1.heap.size := by have := b1.size; rw [ftW_size] at this; exact this
    have B1 := Lib.hid (bel_tr H0.out b1 (Nat.le_refl _)); clear b1 HB
    obtain ⟨⟨x0, x1, -, -, -⟩, -⟩ := id F1.out
    have F2 := Lib.hid (show Ft w.heap.size (.slice a n c) (.slice sa sn sc) K ((w1.alloc (.cells #[.string ⟨#[]⟩, .string ⟨#[]⟩, .int .i64 0, .int .i64 0, .bool false] 28)).alloc (.cells #[.bool false] 4)) from F1.out.next (bel2 _ _ _))
    have BB2 := Lib.hid (show Best w1.heap.size (zz, false) ((w1.alloc (.cells #[.string ⟨#[]⟩, .string ⟨#[]⟩, .int .i64 0, .int .i64 0, .bool false] 28)).alloc (.cells #[.bool false] 4)) from bestW_best w1)
    have B2 := Lib.hid (bel_tr B1.out (bel2 w1 (.cells #[.string ⟨#[]⟩, .string ⟨#[]⟩, .int .i64 0, .int .i64 0, .bool false] 28) (.cells #[.bool false] 4)) (Nat.le_refl _))
    have hz2 : ((w1.alloc (.cells #[.string ⟨#[]⟩, .string ⟨#[]⟩, .int .i64 0, .int .i64 0, .bool false] 28)).alloc (.cells #[.bool false] 4)).heap.size = w1.heap.size + 2 := by simp
    obtain ⟨⟨y0, y1, -, -, -⟩, -⟩ := id F2.out
    gi_wp2_with fail
    generalize (w1.alloc (.cells #[.string ⟨#[]⟩, .string ⟨#[]⟩, .int .i64 0, .int .i64 0, .bool false] 28)).alloc (.cells #[.bool false] 4) = w2 at *
    refine ⟨trivial, (callsIn_wide.2 (tablesOf_any (fun k => k = w1.heap.size ∨ k = w1.heap.size + 1) w.heap.size a sa n c sn sc hs (HVS.out.1.1.trans HSN.out) (by omega) w2 (HVS.out.2.2.2.2.below B2.out) B2.out.size (fun q o e hne hq => by
      obtain ⟨x, r, hr⟩ := List.exists_cons_of_ne_nil hne
      obtain ⟨g2, o2, e3, hg2, -⟩ := HVS.out.2.2.2.2 0 x (by rw [hr]; rfl)
      rw [e] at e3
      cases e3
      omega) (fun k hk => by omega))).mono ?_⟩
    rintro e w3 ⟨gf, lb, rfl, hen, hha', b3⟩
    have hha := hha' (fun k => k = w1.heap.size ∨ k = w1.heap.size + 1) (fun k hk => Or.inl hk)
    clear hha'
    have F3 := Lib.hid (F2.out.next b3)
    have BB3 := Lib.hid (BB2.out.next b3)
    have B3 := Lib.hid (bel_tr B2.out b3 (Nat.le_refl _))
    have hz3 : w1.heap.size + 2 ≤ w3.heap.size := by have := b3.size; omega
    clear b3 x0 x1 y0 y1 F1 F2 B1 B2 BB2 F0 H0
    gi_wp2_with fail
    have hT := Lib.hid (show VwH w (⟨a, n, c⟩ :: hs) (h :: ss) from ⟨by simp [HVS.out.1.1], fun j x l h1 h2 => by
      cases j with
      | zero =>
        obtain rfl : (⟨a, n, c⟩ : Hd) = x := by simpa using h1
        obtain rfl : h = l := by simpa using h2
        exact ⟨HN.out.symm, HV.out⟩
      | succ j => exact HVS.out.1.2 j x l (by simpa using h1) (by simpa using h2)⟩)
    refine loop_hands1 22 12 rfl hen hha (Below.refl _ _) (fun k hk => by rcases hk with hk | hk <;> omega)
      (fun s W => s.2 = none ∧ w3.heap.size ≤ W.heap.size ∧ Ft w.heap.size (.slice a n c) (.slice sa sn sc) K W ∧ Best w1.heap.size (fdA ((h :: ss).take s.1.length) K) W ∧ Below w.heap.size w W)
      (fun k pre W => False) ?_ ?_ ?_ ?_ ?_ ?_ ?_
    · exact own_of (fun _ _ h => h.2.1) fun s W W' ⟨h0, h1, h2, h3, h4⟩ hb => ⟨h0, Nat.le_trans h1 hb.size, h2.same (fun k _ hk => hb.block k (by omega)) hb.size, h3.below hb (by omega), h4.trans (hb.mono B3.out.size)⟩
    · exact fun k => fun _ _ _ _ h _ _ => h
    · exact ⟨rfl, Nat.le_refl _, F3.out, BB3.out, B3.out⟩
    · intro l m x W K' hK
      simp only [List.setIfInBounds_toArray, List.set_cons_zero, List.set_cons_succ] at hK ⊢
      gi_wp2
      exact hK
    · rintro l m pre x gg W hpre hsz ⟨hg0, hs1, hft, hbest, hbel⟩
      replace hg0 : gg = none := hg0
      subst hg0
      replace hbest : Best w1.heap.size (fdA ((h :: ss).take pre.length) K) W := hbest
      simp only [List.setIfInBounds_toArray, List.set_cons_zero, List.set_cons_succ]
      obtain ⟨y, hy, rfl⟩ := pre_at (hs := ⟨a, n, c⟩ :: hs) hpre
      obtain ⟨t, ht⟩ : ∃ t, (h :: ss)[pre.length]? = some t := ⟨(h :: ss)[pre.length]'(by rw [← hT.out.1]; exact (List.getElem?_eq_some_iff.1 hy).1), List.getElem?_eq_getElem _⟩
      obtain ⟨hyn, hyv⟩ := hT.out.2 _ _ _ hy ht
      have hyl : y.n ≤ 1048576 := by
        rw [hyn]
        rcases List.mem_cons.1 (List.mem_of_getElem? ht) with e | e
        · rw [e]; exact HLOW.out.1
        · exact HLOW.out.2.2 t e
      have HST := Lib.hid (show fdA ((h :: ss).take (pre ++ [Value.slice y.a y.n y.c]).length) K = stepF (fdA ((h :: ss).take pre.length) K) (findP t K) by
        rw [List.length_append, List.length_singleton, take_at ht, fdA_snoc])
      have HYV := Lib.hid (implFind_any W y.a y.c t K y.n hyn.symm (hyv.below hbel) (by omega)); clear hyv hyn ht hy
      have HBL := Lib.hid hbel; clear hbel
      have HFT := Lib.hid hft
      have HBS := Lib.hid hbest
      obtain ⟨-, ⟨r0, -, -⟩, ⟨r1, -, -⟩, ⟨r2, -, -⟩, -⟩ := hft
      clear hbest
      generalize fdA ((h :: ss).take pre.length) K = st at *
      generalize findP t K = fx at *
      obtain ⟨sc1, sf1⟩ := st
      obtain ⟨fc, fb⟩ := fx
      have HYF := Lib.hid (show Calls Try.prog 20 #[.slice y.a y.n y.c, .string K.r, .string K.b, .int .i64 K.t] W fun e w' => e = .returned (.tuple #[.agg #[.string fc.r, .string fc.b, .int .i64 fc.t, .int .i64 fc.v, .bool fc.g], .bool fb]) ∧ Below W.heap.size W w' from HYV.out); clear HYV
      have hFF : ∀ k, (fun k => k = w1.heap.size ∨ k = w1.heap.size + 1) k → k < w3.heap.size := fun k hk => by rcases hk with hk | hk <;> omega
      gi_wp2_with fail
      refine ⟨trivial, fun h => (by cases h), (CallsIn.inRound l (callsIn_wide.2 HYF.out)).mono ?_⟩; rintro e w4 ⟨rfl, b4⟩
      clear r0 r1 r2
      have b5 := bel_tr b4 (bel1 w4 (.cells #[.string fc.r, .string fc.b, .int .i64 fc.t, .int .i64 fc.v, .bool fc.g] 28)) (Nat.le_refl _)
      have FT5 := Lib.hid (HFT.out.next b5)
      have FT4 := Lib.hid (HFT.out.next b4)
      have BS4 := Lib.hid (HBS.out.next b4)
      have BL4 := Lib.hid (bel_tr HBL.out b4 (Nat.le_refl _))
      have K4 := Lib.hid b4
      have BS5 := Lib.hid (HBS.out.next b5)
      have BL5 := Lib.hid (bel_tr HBL.out b5 (Nat.le_refl _))
      have K5 := Lib.hid b5
      have hs5 := b5.size
      have hs4 := b4.size
      clear b4 b5 HYF
      have FIN0 := Lib.hid (show stepF (sc1, sf1) (fc, fb) = (sc1, sf1) → ∀ act : Act, Rounds w3.heap.size (fun k => k = w1.heap.size ∨ k = w1.heap.size + 1) (fun s W => s.2 = none ∧ w3.heap.size ≤ W.heap.size ∧ Ft w.heap.size (.slice a n c) (.slice sa sn sc) K W ∧ Best w1.heap.size (fdA ((h :: ss).take s.1.length) K) W ∧ Below w.heap.size w W) (fun _ _ _ => False) (pre ++ [.slice y.a y.n y.c]) none W .normal act (w4.alloc (.cells #[.string fc.r, .string fc.b, .int .i64 fc.t, .int .i64 fc.v, .bool fc.g] 28)) from fun e act =>
        ⟨Below.keeps K5.out, Kept.of_below K5.out, none, Or.inl rfl, rfl, by omega, FT5.out, by show Best _ (fdA ((h :: ss).take (pre ++ [Value.slice y.a y.n y.c]).length) K) _; rw [HST.out, e]; exact BS5.out, BL5.out⟩)
      have FIN1 := Lib.hid (show stepF (sc1, sf1) (fc, fb) = (fc, true) → ∀ act : Act, Rounds w3.heap.size (fun k => k = w1.heap.size ∨ k = w1.heap.size + 1) (fun s W => s.2 = none ∧ w3.heap.size ≤ W.heap.size ∧ Ft w.heap.size (.slice a n c) (.slice sa sn sc) K W ∧ Best w1.heap.size (fdA ((h :: ss).take s.1.length) K) W ∧ Below w.heap.size w W) (fun _ _ _ => False) (pre ++ [.slice y.a y.n y.c]) none W .normal act ((upd w4 w1.heap.size fc).alloc (.cells #[.string fc.r, .string fc.b, .int .i64 fc.t, .int .i64 fc.v, .bool fc.g] 28)) from fun e act =>
        ⟨((Below.keeps K4.out).trans upd_keeps).trans (Below.keeps (bel1 _ _)), ((Kept.of_below K4.out).trans (upd_kept (Or.inl rfl) (Or.inr rfl))).trans (Kept.of_below (bel1 _ _)), none, Or.inl rfl, rfl, by rw [World.size_alloc, upd_size]; omega, (FT4.out.same (fun k _ hk => upd_other _ _ k _ (by omega) (by omega)) (by rw [upd_size]; exact Nat.le_refl _)).next (bel1 _ _),
          by show Best _ (fdA ((h :: ss).take (pre ++ [Value.slice y.a y.n y.c]).length) K) _; rw [HST.out, e]; exact (BS4.out.upd fc).next (bel1 _ _), bel_tr (upd_below BL4.out (by omega)) (bel1 _ _) (Nat.le_refl _)⟩)
      obtain ⟨⟨⟨d0, d1, d2, d3, d4⟩, ⟨e0, e1, e2, e3, e4⟩, dq⟩, p0, p1, pq⟩ := id BS4.out
      obtain ⟨⟨⟨c0, c1, c2, c3, c4⟩, ⟨g0, g1, g2, g3, g4⟩, cq⟩, o0, o1, oq⟩ := id BS5.out
      have nq : w1.heap.size < w4.heap.size := by omega
      cases fb
      · gi_wp2_with fail
        exact FIN0.out (step_no rfl) _
      · cases sf1
        · gi_wp2_with fail
          exact FIN1.out (step_new rfl rfl) _
        · by_cases htt : sc1.t < fc.t
          · gi_wp2_with fail
            exact FIN1.out (step_yes rfl rfl (by show sc1.t < fc.t; omega)) _
          · gi_wp2_with fail
            exact FIN0.out (step_old rfl rfl (by show ¬ sc1.t < fc.t; omega)) _
    · rintro D gg W hD ⟨-, hs1, hft, hbest, hbel⟩ hK
      replace hbest : Best w1.heap.size (fdA ((h :: ss).take (Value.slice a n c :: hs.map Hd.val).length) K) W := hbest
      rw [List.take_of_length_le (by simp [HVS.out.1.1])] at hbest
      have HBL := Lib.hid hbel; clear hbel
      generalize fdA (h :: ss) K = st at *
      obtain ⟨sc1, sf1⟩ := st
      have HFT := Lib.hid hft
      obtain ⟨⟨⟨c0, c1, c2, c3, c4⟩, ⟨g0, g1, g2, g3, g4⟩, cq⟩, o0, o1, oq⟩ := id hbest
      obtain ⟨-, -, -, -, ⟨z0, z1, z2, z3, z4⟩, ⟨f0, f1, f2, f3, f4⟩, zq⟩ := id hft
      clear hft hbest
      gi_wp2_with fail
      gi_region
      gi_wp2_with fail
      have hD5 : D ≠ w.heap.size + 1 + 1 + 1 + 1 := by omega
      have hq4 : Cb (w.heap.size + 1 + 1 + 1 + 1) zz W := HFT.out.2.2.2.2
      have K6 : Cb (w.heap.size + 1 + 1 + 1 + 1) sc1 (put5 W (w.heap.size + 1 + 1 + 1 + 1) sc1).drew := (Cb.put5 (d := sc1) hq4).drew
      have B6 : Below w.heap.size w (put5 W (w.heap.size + 1 + 1 + 1 + 1) sc1).drew := (put5_below HBL.out (by omega)).drew
      have hK6 : (put5 W (w.heap.size + 1 + 1 + 1 + 1) sc1).drew.heap[D]? = some (.deferred (some [])) := drew_at ((put5_other W (w.heap.size + 1 + 1 + 1 + 1) D sc1 hD5).trans hK)
      change bodyPostM Fence.wide 9 Try.prog Try.f32 _ .ret _ (put5 W (w.heap.size + 1 + 1 + 1 + 1) sc1).drew
      generalize (put5 W (w.heap.size + 1 + 1 + 1 + 1) sc1).drew = Z0 at *
      clear c0 c1 c2 c3 c4 g0 g1 g2 g3 g4 cq o0 o1 oq z0 z1 z2 z3 z4 f0 f1 f2 f3 f4 zq
      refine ⟨by simp, .inl ⟨_, _, rfl, run_takeDeferred hK6, ?_⟩⟩
      have K7 : Cb (w.heap.size + 1 + 1 + 1 + 1) sc1 (Z0.putObj D (.deferred none)) := K6.same (World.putObj_heap_other (fun e => hD5 e.symm))
      have B7 : Below w.heap.size w (Z0.putObj D (.deferred none)) := B6.trans (put_below (by omega) B6.size)
      obtain ⟨⟨k0, k1, k2, k3, k4⟩, -, -⟩ := K7
      generalize Z0.putObj D (.deferred none) = Z at *
      refine ⟨.tuple #[sc1.agg, .bool sf1], by simp [results, Try.f32, go_sem, k0, k1, k2, k3, k4, Cel.agg], by rw [HP.out], B7⟩
    · rintro D k pre W hD hpre hf hK
      exact hf.elim
theorem implFindO {B : Nat} {hv sv : Value} {h : List Cel} {ss : List (List Cel)} (K : Cel) (w : World) (o : OwB B w hv sv h ss) (hlow : Low h ss) :
    Calls Try.prog 32 #[.agg #[hv, sv], .string K.r, .string K.b, .int .i64 K.t] w (FindPost (fdP h ss K) w) := by
  obtain ⟨a, c, sa, sc, hs, rfl, rfl, h1, h2⟩ := o.view
  exact implFindB_any w a sa c sc _ _ h hs ss K rfl rfl h1 h2 hlow
end Go.Proofs.Ytkkpokfekbdigaa.Cl
namespace Go.Proofs.Ytkkpokfekbdigaa.Cl
open Go.RowKit Wd Rp Kp Ra
set_option linter.unusedVariables false
set_option maxRecDepth 100000 in
set_option maxHeartbeats 4000000 in
theorem l6Find_any (w : World) (a sa : Option Addr) (c sc n sn : Nat) (h : List Cel) (hs : List Hd) (ss : List (List Cel)) (K : Cel) (hn : h.length = n) (hsn : ss.length = sn) (hv : Vw w a c h) (hvs : VwS w sa sc hs ss) (hlow : Low h ss) :
    Calls Try.prog 77 #[.agg #[.slice a n c, .slice sa sn sc], .string K.r, .string K.b, .int .i64 K.t] w (FindPost (fdR h ss K) w) := by
  have HVS := Lib.hid hvs; clear hvs
  have HLOW := Lib.hid hlow; clear hlow
  have HSN := Lib.hid hsn; clear hsn
  have hn1 : n ≤ 1048576 := by rw [← hn]; exact HLOW.out.1
  have hsn1 : sn ≤ 1048576 := by rw [← HSN.out]; exact HLOW.out.2.1
  have H0 := Lib.hid (bel2 w (.cells #[.slice a n c, .slice sa sn sc] 45) (.cells #[.string ⟨#[]⟩, .string ⟨#[]⟩, .int .i64 0, .int .i64 0, .bool false] 28))
  have F0 := Lib.hid (show Bb w.heap.size (.slice a n c) (.slice sa sn sc) ((w.alloc (.cells #[.slice a n c, .slice sa sn sc] 45)).alloc (.cells #[.string ⟨#[]⟩, .string ⟨#[]⟩, .int .i64 0, .int .i64 0, .bool false] 28)) ∧ Cb (w.heap.size + 1) zz ((w.alloc (.cells #[.slice a n c, .slice sa sn sc] 45)).alloc (.cells #[.string ⟨#[]⟩, .string ⟨#[]⟩, .int .i64 0, .int .i64 0, .bool false] 28)) from
    ⟨(Bb.made _ _ w 45).next (bel1 _ _), by
      have := Cb.made zz (w.alloc (.cells #[.slice a n c, .slice sa sn sc] 45)) 28
      rwa [World.size_alloc] at this⟩)
  have hz0 : ((w.alloc (.cells #[.slice a n c, .slice sa sn sc] 45)).alloc (.cells #[.string ⟨#[]⟩, .string ⟨#[]⟩, .int .i64 0, .int .i64 0, .bool false] 28)).heap.size = w.heap.size + 2 := by simp
  have HF0 := Lib.hid (l4Find_any _ a c h K n hn (hv.below H0.out) (by omega)); clear hv hn
  have HFD := Lib.hid (show findR h K = fdT h ss K 0 from by unfold fdT fdR; rw [List.take_zero]; rfl)
  rw [HFD.out] at HF0
  have HZ := Lib.hid (show fdT h ss K sn = fdR h ss K by unfold fdT; rw [List.take_of_length_le (by rw [HSN.out]; exact Nat.le_refl _)])
  generalize hst : fdT h ss K 0 = st0 at *
  obtain ⟨s0, f0⟩ := st0
  have HST0 := Lib.hid hst; clear hst
  have HF1 := Lib.hid (show Calls Try.prog 71 #[.slice a n c, .string K.r, .string K.b, .int .i64 K.t] _ fun e w' => e = .returned (.tuple #[.agg #[.string s0.r, .string s0.b, .int .i64 s0.t, .int .i64 s0.v, .bool s0.g], .bool f0]) ∧ Below _ _ w' from HF0.out); clear HF0
  go_enter Try.func77, Try.ntmps77
  go_wp2_with fail
  refine HF1.out.mono ?_; rintro e w1 ⟨rfl, b1⟩
  have z1 : w.heap.size + 2 ≤ w1.heap.size := by have := b1.size; omega
  have F1 := Lib.hid (show Bb w.heap.size (.slice a n c) (.slice sa sn sc) (w1.alloc (.cells #[.string s0.r, .string s0.b, .int .i64 s0.t, .int .i64 s0.v, .bool s0.g] 28)) ∧ Cb (w.heap.size + 1) zz (w1.alloc (.cells #[.string s0.r, .string s0.b, .int .i64 s0.t, .int .i64 s0.v, .bool s0.g] 28)) ∧ Cb w1.heap.size s0 (w1.alloc (.cells #[.string s0.r, .string s0.b, .int .i64 s0.t, .int .i64 s0.v, .bool s0.g] 28)) from
    ⟨(F0.out.1.next b1).next (bel1 _ _), (F0.out.2.next b1).next (bel1 _ _), Cb.made s0 w1 28⟩)
  have B1 := Lib.hid (bel_tr (bel_tr H0.out b1 (Nat.le_refl _)) (bel1 w1 (.cells #[.string s0.r, .string s0.b, .int .i64 s0.t, .int .i64 s0.v, .bool s0.g] 28)) (Nat.le_refl _))
  clear b1 HF1 F0 H0
  go_wp2_with fail
  go_loopw [11, 12] (fun f i wr => ∃ (k : Nat) (s : Cel) (b : Bool), k ≤ sn ∧ i = .int .i64 k ∧ f = .bool b ∧ fdT h ss K k = (s, b) ∧ Bb w.heap.size (.slice a n c) (.slice sa sn sc) wr ∧ Cb (w.heap.size + 1) zz wr ∧ Cb w1.heap.size s wr ∧ Below w.heap.size w wr) (fun _ i _ => sn - intV i)
  case atStart => exact ⟨0, s0, f0, Nat.zero_le _, rfl, rfl, HST0.out, F1.out.1, F1.out.2.1, F1.out.2.2, B1.out⟩
  case round =>
    clear F1 B1 HST0
    obtain ⟨k, s, b, hk, rfl, rfl, hst, hbb, hzc, hcb, hbel⟩ := hrel
    have HST := Lib.hid hst; clear hst
    have HB := Lib.hid hbel; clear hbel
    have HBB := Lib.hid hbb
    have HZC := Lib.hid hzc
    have HCB := Lib.hid hcb
    obtain ⟨x0, x1, -, -, -⟩ := hbb
    by_cases hlt : k < sn
    · clear hzc hcb
      obtain ⟨t, ht⟩ : ∃ t, ss[k]? = some t := ⟨ss[k]'(by rw [HSN.out]; exact hlt), List.getElem?_eq_getElem _⟩
      obtain ⟨x, g, o, -, rfl, hg, hc, hvl⟩ := HVS.out.at ht
      have hcx : wr.cell? ⟨g, o + k, none⟩ = some (.slice x.a t.length x.c) := (HB.out.cell (p := ⟨g, o + k, none⟩) hg).trans hc
      have htl : t.length ≤ 1048576 := HLOW.out.2.2 t (List.mem_of_getElem? ht)
      have HF := Lib.hid (l4Find_any wr x.a x.c t K t.length rfl (hvl.below HB.out) (by omega)); clear hvl hc hg
      have HSX := Lib.hid (fdT_succ (h := h) (K := K) ht); clear ht
      rw [HST.out] at HSX
      generalize findR t K = fx at *
      obtain ⟨fc, fb⟩ := fx
      generalize t.length = tl at *
      have HF1 := Lib.hid (show Calls Try.prog 71 #[.slice x.a tl x.c, .string K.r, .string K.b, .int .i64 K.t] wr fun e w' => e = .returned (.tuple #[.agg #[.string fc.r, .string fc.b, .int .i64 fc.t, .int .i64 fc.v, .bool fc.g], .bool fb]) ∧ Below wr.heap.size wr w' from HF.out); clear HF
      go_wp2_with fail
      refine HF1.out.mono ?_; rintro e w4 ⟨rfl, b4⟩
      have BB4 := Lib.hid (HBB.out.next b4)
      have ZC4 := Lib.hid (HZC.out.next b4)
      have CB4 := Lib.hid (HCB.out.next b4)
      have B4 := Lib.hid (bel_tr HB.out b4 (Nat.le_refl _))
      have hs4 : w1.heap.size < w4.heap.size := CB4.out.2.2
      clear b4 x0 x1 hcx HF1 HBB HZC HCB HB
      obtain ⟨⟨d0, d1, d2, d3, d4⟩, ⟨e0, e1, e2, e3, e4⟩, dq⟩ := id CB4.out
      have C5 := Lib.hid (CB4.out.next (bel1 w4 (.cells #[.string fc.r, .string fc.b, .int .i64 fc.t, .int .i64 fc.v, .bool fc.g] 28)))
      obtain ⟨⟨c0, c1, c2, c3, c4⟩, ⟨g0, g1, g2, g3, g4⟩, cq⟩ := id C5.out
      have REL0 := Lib.hid (show stepF (s, b) (fc, fb) = (s, b) → ∃ (k' : Nat) (s' : Cel) (b' : Bool), k' = k + 1 ∧ s' = s ∧ b' = b ∧ fdT h ss K k' = (s', b') ∧ Bb w.heap.size (.slice a n c) (.slice (some ⟨g, o, none⟩) sn sc) (w4.alloc (.cells #[.string fc.r, .string fc.b, .int .i64 fc.t, .int .i64 fc.v, .bool fc.g] 28)) ∧ Cb (w.heap.size + 1) zz (w4.alloc (.cells #[.string fc.r, .string fc.b, .int .i64 fc.t, .int .i64 fc.v, .bool fc.g] 28)) ∧ Cb w1.heap.size s' (w4.alloc (.cells #[.string fc.r, .string fc.b, .int .i64 fc.t, .int .i64 fc.v, .bool fc.g] 28)) ∧ Below w.heap.size w (w4.alloc (.cells #[.string fc.r, .string fc.b, .int .i64 fc.t, .int .i64 fc.v, .bool fc.g] 28)) from
        fun e => ⟨k + 1, s, b, rfl, rfl, rfl, HSX.out.trans e, BB4.out.next (bel1 _ _), ZC4.out.next (bel1 _ _), C5.out, bel_tr B4.out (bel1 _ _) (Nat.le_refl _)⟩)
      have REL1 := Lib.hid (show stepF (s, b) (fc, fb) = (fc, true) → ∃ (k' : Nat) (s' : Cel) (b' : Bool), k' = k + 1 ∧ s' = fc ∧ b' = true ∧ fdT h ss K k' = (s', b') ∧ Bb w.heap.size (.slice a n c) (.slice (some ⟨g, o, none⟩) sn sc) ((put5 w4 w1.heap.size fc).alloc (.cells #[.string fc.r, .string fc.b, .int .i64 fc.t, .int .i64 fc.v, .bool fc.g] 28)) ∧ Cb (w.heap.size + 1) zz ((put5 w4 w1.heap.size fc).alloc (.cells #[.string fc.r, .string fc.b, .int .i64 fc.t, .int .i64 fc.v, .bool fc.g] 28)) ∧ Cb w1.heap.size s' ((put5 w4 w1.heap.size fc).alloc (.cells #[.string fc.r, .string fc.b, .int .i64 fc.t, .int .i64 fc.v, .bool fc.g] 28)) ∧ Below w.heap.size w ((put5 w4 w1.heap.size fc).alloc (.cells #[.string fc.r, .string fc.b, .int .i64 fc.t, .int .i64 fc.v, .bool fc.g] 28)) from
        fun e => ⟨k + 1, fc, true, rfl, rfl, rfl, HSX.out.trans e, (BB4.out.same' (put5_other _ _ _ _ (by omega))).next (bel1 _ _), (ZC4.out.same (put5_other _ _ _ _ (by omega))).next (bel1 _ _), CB4.out.put5.next (bel1 _ _), bel_tr (put5_below B4.out (by omega)) (bel1 _ _) (Nat.le_refl _)⟩)
      cases fb
      · obtain ⟨k', s', b', e1, e2, e3, e4, e5, e6, e7, e8⟩ := REL0.out (step_no rfl)
        have RR := Lib.hid (And.intro e4 (And.intro e5 (And.intro e6 (And.intro e7 e8)))); clear e4 e5 e6 e7 e8 REL0 REL1
        go_wp2_with fail
        go_roundw
        case rel => exact ⟨k', s', b', by omega, by rw [e1]; go_num, by rw [e3], RR.out.1, RR.out.2.1, RR.out.2.2.1, RR.out.2.2.2.1, RR.out.2.2.2.2⟩
        case measure => simp [intV]; omega
      · cases b
        · obtain ⟨k', s', b', e1, e2, e3, e4, e5, e6, e7, e8⟩ := REL1.out (step_new rfl rfl)
          have RR := Lib.hid (And.intro e4 (And.intro e5 (And.intro e6 (And.intro e7 e8)))); clear e4 e5 e6 e7 e8 REL0 REL1
          go_wp2_with fail
          go_roundw
          case rel => exact ⟨k', s', b', by omega, by rw [e1]; go_num, by rw [e3], RR.out.1, RR.out.2.1, RR.out.2.2.1, RR.out.2.2.2.1, RR.out.2.2.2.2⟩
          case measure => simp [intV]; omega
        · by_cases htt : s.t < fc.t
          · obtain ⟨k', s', b', e1, e2, e3, e4, e5, e6, e7, e8⟩ := REL1.out (step_yes rfl rfl htt)
            have RR := Lib.hid (And.intro e4 (And.intro e5 (And.intro e6 (And.intro e7 e8)))); clear e4 e5 e6 e7 e8 REL0 REL1
            go_wp2_with fail
            go_roundw
            case rel => exact ⟨k', s', b', by omega, by rw [e1]; go_num, by rw [e3], RR.out.1, RR.out.2.1, RR.out.2.2.1, RR.out.2.2.2.1, RR.out.2.2.2.2⟩
            case measure => simp [intV]; omega
          · obtain ⟨k', s', b', e1, e2, e3, e4, e5, e6, e7, e8⟩ := REL0.out (step_old rfl rfl htt)
            have RR := Lib.hid (And.intro e4 (And.intro e5 (And.intro e6 (And.intro e7 e8)))); clear e4 e5 e6 e7 e8 REL0 REL1
            go_wp2_with fail
            go_roundw
            case rel => exact ⟨k', s', b', by omega, by rw [e1]; go_num, by rw [e3], RR.out.1, RR.out.2.1, RR.out.2.2.1, RR.out.2.2.2.1, RR.out.2.2.2.2⟩
            case measure => simp [intV]; omega
    · obtain rfl : k = sn := by omega
      have HE := Lib.hid (HZ.out.symm.trans HST.out)
      obtain ⟨⟨c0, c1, c2, c3, c4⟩, ⟨g0, g1, g2, g3, g4⟩, cq⟩ := hcb
      obtain ⟨⟨y0, y1, y2, y3, y4⟩, ⟨k0, k1, k2, k3, k4⟩, yq⟩ := hzc
      have K6 := Lib.hid (Cb.put5 (d := s) HZC.out)
      have B6 := Lib.hid (put5_below (c := s) HB.out (show w.heap.size ≤ w.heap.size + 1 by omega))
      go_wp2_with fail
      change bodyPost _ _ _ .ret _ (put5 wr (w.heap.size + 1) s)
      generalize put5 wr (w.heap.size + 1) s = Z at *
      clear c0 c1 c2 c3 c4 g0 g1 g2 g3 g4 y0 y1 y2 y3 y4 k0 k1 k2 k3 k4
      obtain ⟨⟨c0, c1, c2, c3, c4⟩, -, -⟩ := id K6.out
      refine bodyPost_ret (v := .tuple #[s.agg, .bool b]) (by simp [results, Try.results77, go_sem, c0, c1, c2, c3, c4, Cel.agg]) rfl ⟨by rw [HE.out], B6.out⟩
end Go.Proofs.Ytkkpokfekbdigaa.Cl
namespace Go.Proofs.Ytkkpokfekbdigaa.Cl
open Go.RowKit Wd Rp Kp Ra
set_option linter.unusedVariables false
set_option maxRecDepth 100000 in
set_option maxHeartbeats 4000000 in
theorem specFindB_any (w : World) (a sa : Option Addr) (c sc n sn : Nat) (h : List Cel) (hs : List Hd) (ss : List (List Cel)) (K : Cel) (hn : h.length = n) (hsn : ss.length = sn) (hv : Vw w a c h) (hvs : VwS w sa sc hs ss) (hlow : Low h ss) (hmod : Mod h ss) (hKm : K.mod) :
    Calls Try.prog 33 #[.agg #[.slice a n c, .slice sa sn sc], .string K.r, .string K.b, .int .i64 K.t] w (FindPost (fdP h ss K) w) := by
  have HV := Lib.hid hv; clear hv
  have HVS := Lib.hid hvs; clear hvs
  have HLM := Lib.hid (And.intro hlow hmod); clear hlow hmod
  have HN := Lib.hid (And.intro hn hsn); clear hn hsn
  have H0 := Lib.hid (bel2 w (.cells #[.slice a n c, .slice sa sn sc] 45) (.cells #[.string ⟨#[]⟩, .string ⟨#[]⟩, .int .i64 0, .int .i64 0, .bool false] 28))
  have F0 := Lib.hid (show Bb w.heap.size (.slice a n c) (.slice sa sn sc) ((w.alloc (.cells #[.slice a n c, .slice sa sn sc] 45)).alloc (.cells #[.string ⟨#[]⟩, .string ⟨#[]⟩, .int .i64 0, .int .i64 0, .bool false] 28)) ∧ Cb (w.heap.size + 1) zz ((w.alloc (.cells #[.slice a n c, .slice sa sn sc] 45)).alloc (.cells #[.string ⟨#[]⟩, .string ⟨#[]⟩, .int .i64 0, .int .i64 0, .bool false] 28)) from
    ⟨(Bb.made _ _ w 45).next (bel1 _ _), by
      have := Cb.made zz (w.alloc (.cells #[.slice a n c, .slice sa sn sc] 45)) 28
      rwa [World.size_alloc] at this⟩)
  have HBK := Lib.hid (fun x (e : okB h ss = x) => barnS_is e _ a sa c sc n sn hs HN.out.1 HN.out.2 (HV.out.below H0.out) (HVS.out.below H0.out) HLM.out.1 HLM.out.2)
  cases hok : okB h ss
  · have HP := Lib.hid (fdP_no (K := K) hok)
    have HB := Lib.hid (HBK.out _ hok); clear hok HBK
    go_enter Try.func33, Try.ntmps33
    go_wp2_with fail
    refine HB.out.mono ?_; rintro e w1 ⟨rfl, b1⟩
    have B1 := Lib.hid (bel_tr H0.out b1 (Nat.le_refl _))
    obtain ⟨⟨z0, z1, z2, z3, z4⟩, ⟨k0, k1, k2, k3, k4⟩, zq⟩ := F0.out.2.next b1; clear b1
    go_wp2_with fail
    refine bodyPost_ret (v := .tuple #[zz.agg, .bool false]) (by simp [results, Try.results33, go_sem, z0, z1, z2, z3, z4, Cel.agg, zz]) rfl ⟨by rw [HP.out], ?_⟩
    exact put5_below (c := zz) B1.out (by omega)
  · have HOK := Lib.hid hok
    have HB := Lib.hid (HBK.out _ hok); clear hok HBK
    cases hk : keyB K.r.data.toList K.b.data.toList K.t
    · have HP := Lib.hid (fdP_key (h := h) (ss := ss) hk)
      have HK := Lib.hid hk; clear hk
      go_enter Try.func33, Try.ntmps33
      go_wp2_with fail
      refine HB.out.mono ?_; rintro e w1 ⟨rfl, b1⟩
      have B1 := Lib.hid (bel_tr H0.out b1 (Nat.le_refl _))
      have F1 := Lib.hid (F0.out.2.next b1); clear b1
      go_wp2_with fail
      refine (specKey_is HK.out _ hKm.1 hKm.2).mono ?_; rintro e w2 ⟨rfl, b2⟩
      have B2 := Lib.hid (bel_tr B1.out b2 (Nat.le_refl _))
      obtain ⟨⟨z0, z1, z2, z3, z4⟩, ⟨k0, k1, k2, k3, k4⟩, zq⟩ := F1.out.next b2; clear b2
      go_wp2_with fail
      refine bodyPost_ret (v := .tuple #[zz.agg, .bool false]) (by simp [results, Try.results33, go_sem, z0, z1, z2, z3, z4, Cel.agg, zz]) rfl ⟨by rw [HP.out], ?_⟩
      exact put5_below (c := zz) B2.out (by omega)
    · have HP := Lib.hid (fdP_is HOK.out hk)
      have HK := Lib.hid hk; clear hk
      go_enter Try.func33, Try.ntmps33
      go_wp2_with fail
      refine HB.out.mono ?_; rintro e w1 ⟨rfl, b1⟩
      have B1 := Lib.hid (bel_tr H0.out b1 (Nat.le_refl _))
      have F1 := Lib.hid (And.intro (F0.out.1.next b1) (F0.out.2.next b1)); clear b1
      go_wp2_with fail
      refine (specKey_is HK.out _ hKm.1 hKm.2).mono ?_; rintro e w2 ⟨rfl, b2⟩
      have B2 := Lib.hid (bel_tr B1.out b2 (Nat.le_refl _))
      have F2 := Lib.hid (And.intro (F1.out.1.next b2) (F1.out.2.next b2)); clear b2
      obtain ⟨x0, x1, -, -, -⟩ := id F2.out.1
      have HL := Lib.hid (l6Find_any w2 a sa c sc n sn h hs ss K HN.out.1 HN.out.2 (HV.out.below B2.out) (HVS.out.below B2.out) HLM.out.1)
      generalize fdR h ss K = st at *
      obtain ⟨s, b⟩ := st
      have HL1 := Lib.hid (show Calls Try.prog 77 #[.agg #[.slice a n c, .slice sa sn sc], .string K.r, .string K.b, .int .i64 K.t] w2 fun e w' => e = .returned (.tuple #[.agg #[.string s.r, .string s.b, .int .i64 s.t, .int .i64 s.v, .bool s.g], .bool b]) ∧ Below w2.heap.size w2 w' from HL.out); clear HL
      go_wp2_with fail
      refine HL1.out.mono ?_; rintro e w3 ⟨rfl, b3⟩
      have B3 := Lib.hid (bel_tr B2.out b3 (Nat.le_refl _))
      have F3 := Lib.hid (F2.out.2.next b3); clear b3
      obtain ⟨⟨z0, z1, z2, z3, z4⟩, ⟨k0, k1, k2, k3, k4⟩, zq⟩ := id F3.out
      have K6 := Lib.hid (Cb.put5 (d := s) F3.out)
      have B6 := Lib.hid (put5_below (c := s) B3.out (show w.heap.size ≤ w.heap.size + 1 by omega))
      go_wp2_with fail
      change bodyPost _ _ _ .ret _ (put5 w3 (w.heap.size + 1) s)
      generalize put5 w3 (w.heap.size + 1) s = Z at *
      clear z0 z1 z2 z3 z4 k0 k1 k2 k3 k4
      obtain ⟨⟨c0, c1, c2, c3, c4⟩, -, -⟩ := id K6.out
      refine bodyPost_ret (v := .tuple #[s.agg, .bool b]) (by simp [results, Try.results33, go_sem, c0, c1, c2, c3, c4, Cel.agg]) rfl ⟨by rw [HP.out], B6.out⟩
theorem specFindO {B : Nat} {hv sv : Value} {h : List Cel} {ss : List (List Cel)} (K : Cel) (w : World) (o : OwB B w hv sv h ss) (hlow : Low h ss) (hmod : Mod h ss) (hKm : K.mod) :
    Calls Try.prog 33 #[.agg #[hv, sv], .string K.r, .string K.b, .int .i64 K.t] w (FindPost (fdP h ss K) w) := by
  obtain ⟨a, c, sa, sc, hs, rfl, rfl, h1, h2⟩ := o.view
  exact specFindB_any w a sa c sc _ _ h hs ss K rfl rfl h1 h2 hlow hmod hKm
end Go.Proofs.Ytkkpokfekbdigaa.Cl
