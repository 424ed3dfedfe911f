/-
  The contract of spec.FindBarn: 'fdP'.
-/
import Derived.Test.YtopcjiaakefmeaaRf
namespace Go.Proofs.Ytopcjiaakefmeaa.Cl
open Go.RowKit Wd Rp Kp Ra
set_option linter.unusedVariables false
theorem Bb.same' {q : Nat} {u v : Value} {w w' : World} (h : Bb q u v w) (e : w'.heap[q]? = w.heap[q]?) : Bb q u v w' := by
  obtain ⟨h0, h1, h2, h3, h4⟩ := h
  have hl' : q < w'.heap.size := by rw [Array.getElem?_eq_getElem h4] at e; exact (Array.getElem?_eq_some_iff.1 e).1
  exact ⟨(World.cell?_of_block (w := w) e).trans h0, (World.cell?_of_block (w := w) e).trans h1, (World.frozen?_of_block (w := w) e).trans h2, (World.frozen?_of_block (w := w) e).trans h3, hl'⟩
def fdR (h : List Cel) (ss : List (List Cel)) (K : Cel) : Cel × Bool := (ss.map fun t => findR t K).foldl stepF (findR h K)
theorem findR_zero (t : List Cel) (K : Cel) : stepF (zz, false) (findR t K) = findR t K := by
  unfold findR
  cases findL t K with
  | none => rfl
  | some c => rfl
theorem fdA_key {ts : List (List Cel)} {K : Cel} (hK : keyB K.r.data.toList K.b.data.toList K.t = false) : fdA ts K = (zz, false) := by
  unfold fdA
  induction ts with
  | nil => rfl
  | cons t ts ih =>
    rw [List.map_cons, List.foldl_cons, findP_no (by rw [hK, Bool.and_false]), step_no rfl]; exact ih
theorem fdA_is {h : List Cel} {ss : List (List Cel)} {K : Cel} (ho : okB h ss = true) (hK : keyB K.r.data.toList K.b.data.toList K.t = true) : fdA (h :: ss) K = fdR h ss K := by
  obtain ⟨o1, -, o3⟩ := okB_iff.1 ho
  unfold fdA fdR
  rw [List.map_cons, List.foldl_cons, findP_yes o1 hK, findR_zero]
  congr 1
  exact List.map_congr_left fun t ht => findP_yes (o3 t ht).2 hK
theorem fdP_key {h : List Cel} {ss : List (List Cel)} {K : Cel} (hK : keyB K.r.data.toList K.b.data.toList K.t = false) : fdP h ss K = (zz, false) := by
  unfold fdP
  split
  · exact fdA_key hK
  · rfl
theorem fdP_is {h : List Cel} {ss : List (List Cel)} {K : Cel} (ho : okB h ss = true) (hK : keyB K.r.data.toList K.b.data.toList K.t = true) : fdP h ss K = fdR h ss K := by rw [fdP_yes ho, fdA_is ho hK]
def fdT (h : List Cel) (ss : List (List Cel)) (K : Cel) (k : Nat) : Cel × Bool := fdR h (ss.take k) K
theorem fdT_succ {h : List Cel} {ss : List (List Cel)} {K : Cel} {k : Nat} {t : List Cel} (ht : ss[k]? = some t) : fdT h ss K (k + 1) = stepF (fdT h ss K k) (findR t K) := by
  unfold fdT fdR; rw [take_at ht, List.map_append, List.foldl_append]; rfl
set_option maxRecDepth 100000 in
set_option maxHeartbeats 4000000 in
theorem l6Find_any (w : World) (a sa : Option Addr) (c sc n sn : Nat) (h : List Cel) (hs : List Hd) (ss : List (List Cel)) (K : Cel) (hn : h.length = n) (hsn : ss.length = sn) (hv : Vw w a c h) (hvs : VwS w sa sc hs ss) (hlow : Low h ss) :
    Calls Try.prog 91 #[.agg #[.slice a n c, .slice sa sn sc], .string K.r, .string K.b, .int .i64 K.t] w (FindPost (fdR h ss K) w) := by
  have HVS := Lib.hid hvs; clear hvs
  have HLOW := Lib.hid hlow; clear hlow
  have HSN := Lib.hid hsn; clear hsn
  have hn1 : n ≤ 1048576 := by rw [← hn]; exact HLOW.out.1
  have hsn1 : sn ≤ 1048576 := by rw [← HSN.out]; exact HLOW.out.2.1
  have H0 := Lib.hid (bel2 w (.cells #[.slice a n c, .slice sa sn sc] 38) (.cells #[.string ⟨#[]⟩, .string ⟨#[]⟩, .int .i64 0, .int .i64 0, .bool false] 33))
  have F0 := Lib.hid (show Bb w.heap.size (.slice a n c) (.slice sa sn sc) ((w.alloc (.cells #[.slice a n c, .slice sa sn sc] 38)).alloc (.cells #[.string ⟨#[]⟩, .string ⟨#[]⟩, .int .i64 0, .int .i64 0, .bool false] 33)) ∧ Cb (w.heap.size + 1) zz ((w.alloc (.cells #[.slice a n c, .slice sa sn sc] 38)).alloc (.cells #[.string ⟨#[]⟩, .string ⟨#[]⟩, .int .i64 0, .int .i64 0, .bool false] 33)) from
    ⟨(Bb.made _ _ w 38).next (bel1 _ _), by
      have := Cb.made zz (w.alloc (.cells #[.slice a n c, .slice sa sn sc] 38)) 33
      rwa [World.size_alloc] at this⟩)
  have hz0 : ((w.alloc (.cells #[.slice a n c, .slice sa sn sc] 38)).alloc (.cells #[.string ⟨#[]⟩, .string ⟨#[]⟩, .int .i64 0, .int .i64 0, .bool false] 33)).heap.size = w.heap.size + 2 := by simp
  have HF0 := Lib.hid (l4Find_any _ a c h K n hn (hv.below H0.out) (by omega)); clear hv hn
  have HFD := Lib.hid (show findR h K = fdT h ss K 0 from by unfold fdT fdR; rw [List.take_zero]; rfl)
  rw [HFD.out] at HF0
  have HZ := Lib.hid (show fdT h ss K sn = fdR h ss K by unfold fdT; rw [List.take_of_length_le (by rw [HSN.out]; exact Nat.le_refl _)])
  generalize hst : fdT h ss K 0 = st0 at *
  obtain ⟨s0, f0⟩ := st0
  have HST0 := Lib.hid hst; clear hst
  have HF1 := Lib.hid (show Calls Try.prog 70 #[.slice a n c, .string K.r, .string K.b, .int .i64 K.t] _ fun e w' => e = .returned (.tuple #[.agg #[.string s0.r, .string s0.b, .int .i64 s0.t, .int .i64 s0.v, .bool s0.g], .bool f0]) ∧ Below _ _ w' from HF0.out); clear HF0
  go_enter Try.func91, Try.ntmps91
  go_wp2_with fail
  refine HF1.out.mono ?_; rintro e w1 ⟨rfl, b1⟩
  have z1 : w.heap.size + 2 ≤ w1.heap.size := by have := b1.size; omega
  have F1 := Lib.hid (show Bb w.heap.size (.slice a n c) (.slice sa sn sc) (w1.alloc (.cells #[.string s0.r, .string s0.b, .int .i64 s0.t, .int .i64 s0.v, .bool s0.g] 33)) ∧ Cb (w.heap.size + 1) zz (w1.alloc (.cells #[.string s0.r, .string s0.b, .int .i64 s0.t, .int .i64 s0.v, .bool s0.g] 33)) ∧ Cb w1.heap.size s0 (w1.alloc (.cells #[.string s0.r, .string s0.b, .int .i64 s0.t, .int .i64 s0.v, .bool s0.g] 33)) from
    ⟨(F0.out.1.next b1).next (bel1 _ _), (F0.out.2.next b1).next (bel1 _ _), Cb.made s0 w1 33⟩)
  have B1 := Lib.hid (bel_tr (bel_tr H0.out b1 (Nat.le_refl _)) (bel1 w1 (.cells #[.string s0.r, .string s0.b, .int .i64 s0.t, .int .i64 s0.v, .bool s0.g] 33)) (Nat.le_refl _))
  clear b1 HF1 F0 H0
  go_wp2_with fail
  go_loopw [11, 12] (fun f i wr => ∃ (k : Nat) (s : Cel) (b : Bool), k ≤ sn ∧ i = .int .i64 k ∧ f = .bool b ∧ fdT h ss K k = (s, b) ∧ Bb w.heap.size (.slice a n c) (.slice sa sn sc) wr ∧ Cb (w.heap.size + 1) zz wr ∧ Cb w1.heap.size s wr ∧ Below w.heap.size w wr) (fun _ i _ => sn - intV i)
  case atStart => exact ⟨0, s0, f0, Nat.zero_le _, rfl, rfl, HST0.out, F1.out.1, F1.out.2.1, F1.out.2.2, B1.out⟩
  case round =>
    clear F1 B1 HST0
    obtain ⟨k, s, b, hk, rfl, rfl, hst, hbb, hzc, hcb, hbel⟩ := hrel
    have HST := Lib.hid hst; clear hst
    have HB := Lib.hid hbel; clear hbel
    have HBB := Lib.hid hbb
    have HZC := Lib.hid hzc
    have HCB := Lib.hid hcb
    obtain ⟨x0, x1, -, -, -⟩ := hbb
    by_cases hlt : k < sn
    · clear hzc hcb
      obtain ⟨t, ht⟩ : ∃ t, ss[k]? = some t := ⟨ss[k]'(by rw [HSN.out]; exact hlt), List.getElem?_eq_getElem _⟩
      obtain ⟨x, g, o, -, rfl, hg, hc, hvl⟩ := HVS.out.at ht
      have hcx : wr.cell? ⟨g, o + k, none⟩ = some (.slice x.a t.length x.c) := (HB.out.cell (p := ⟨g, o + k, none⟩) hg).trans hc
      have htl : t.length ≤ 1048576 := HLOW.out.2.2 t (List.mem_of_getElem? ht)
      have HF := Lib.hid (l4Find_any wr x.a x.c t K t.length rfl (hvl.below HB.out) (by omega)); clear hvl hc hg
      have HSX := Lib.hid (fdT_succ (h := h) (K := K) ht); clear ht
      rw [HST.out] at HSX
      generalize findR t K = fx at *
      obtain ⟨fc, fb⟩ := fx
      generalize t.length = tl at *
      have HF1 := Lib.hid (show Calls Try.prog 70 #[.slice x.a tl x.c, .string K.r, .string K.b, .int .i64 K.t] wr fun e w' => e = .returned (.tuple #[.agg #[.string fc.r, .string fc.b, .int .i64 fc.t, .int .i64 fc.v, .bool fc.g], .bool fb]) ∧ Below wr.heap.size wr w' from HF.out); clear HF
      go_wp2_with fail
      refine HF1.out.mono ?_; rintro e w4 ⟨rfl, b4⟩
      have BB4 := Lib.hid (HBB.out.next b4)
      have ZC4 := Lib.hid (HZC.out.next b4)
      have CB4 := Lib.hid (HCB.out.next b4)
      have B4 := Lib.hid (bel_tr HB.out b4 (Nat.le_refl _))
      have hs4 : w1.heap.size < w4.heap.size := CB4.out.2.2
      clear b4 x0 x1 hcx HF1 HBB HZC HCB HB
      obtain ⟨⟨d0, d1, d2, d3, d4⟩, ⟨e0, e1, e2, e3, e4⟩, dq⟩ := id CB4.out
      have C5 := Lib.hid (CB4.out.next (bel1 w4 (.cells #[.string fc.r, .string fc.b, .int .i64 fc.t, .int .i64 fc.v, .bool fc.g] 33)))
      obtain ⟨⟨c0, c1, c2, c3, c4⟩, ⟨g0, g1, g2, g3, g4⟩, cq⟩ := id C5.out
      have REL0 := Lib.hid (show stepF (s, b) (fc, fb) = (s, b) → ∃ (k' : Nat) (s' : Cel) (b' : Bool), k' = k + 1 ∧ s' = s ∧ b' = b ∧ fdT h ss K k' = (s', b') ∧ Bb w.heap.size (.slice a n c) (.slice (some ⟨g, o, none⟩) sn sc) (w4.alloc (.cells #[.string fc.r, .string fc.b, .int .i64 fc.t, .int .i64 fc.v, .bool fc.g] 33)) ∧ Cb (w.heap.size + 1) zz (w4.alloc (.cells #[.string fc.r, .string fc.b, .int .i64 fc.t, .int .i64 fc.v, .bool fc.g] 33)) ∧ Cb w1.heap.size s' (w4.alloc (.cells #[.string fc.r, .string fc.b, .int .i64 fc.t, .int .i64 fc.v, .bool fc.g] 33)) ∧ Below w.heap.size w (w4.alloc (.cells #[.string fc.r, .string fc.b, .int .i64 fc.t, .int .i64 fc.v, .bool fc.g] 33)) from
        fun e => ⟨k + 1, s, b, rfl, rfl, rfl, HSX.out.trans e, BB4.out.next (bel1 _ _), ZC4.out.next (bel1 _ _), C5.out, bel_tr B4.out (bel1 _ _) (Nat.le_refl _)⟩)
      have REL1 := Lib.hid (show stepF (s, b) (fc, fb) = (fc, true) → ∃ (k' : Nat) (s' : Cel) (b' : Bool), k' = k + 1 ∧ s' = fc ∧ b' = true ∧ fdT h ss K k' = (s', b') ∧ Bb w.heap.size (.slice a n c) (.slice (some ⟨g, o, none⟩) sn sc) ((put5 w4 w1.heap.size fc).alloc (.cells #[.string fc.r, .string fc.b, .int .i64 fc.t, .int .i64 fc.v, .bool fc.g] 33)) ∧ Cb (w.heap.size + 1) zz ((put5 w4 w1.heap.size fc).alloc (.cells #[.string fc.r, .string fc.b, .int .i64 fc.t, .int .i64 fc.v, .bool fc.g] 33)) ∧ Cb w1.heap.size s' ((put5 w4 w1.heap.size fc).alloc (.cells #[.string fc.r, .string fc.b, .int .i64 fc.t, .int .i64 fc.v, .bool fc.g] 33)) ∧ Below w.heap.size w ((put5 w4 w1.heap.size fc).alloc (.cells #[.string fc.r, .string fc.b, .int .i64 fc.t, .int .i64 fc.v, .bool fc.g] 33)) from
        fun e => ⟨k + 1, fc, true, rfl, rfl, rfl, HSX.out.trans e, (BB4.out.same' (put5_other _ _ _ _ (by omega))).next (bel1 _ _), (ZC4.out.same (put5_other _ _ _ _ (by omega))).next (bel1 _ _), CB4.out.put5.next (bel1 _ _), bel_tr (put5_below B4.out (by omega)) (bel1 _ _) (Nat.le_refl _)⟩)
      cases fb
      · obtain ⟨k', s', b', e1, e2, e3, e4, e5, e6, e7, e8⟩ := REL0.out (step_no rfl)
        have RR := Lib.hid (And.intro e4 (And.intro e5 (And.intro e6 (And.intro e7 e8)))); clear e4 e5 e6 e7 e8 REL0 REL1
        go_wp2_with fail
        go_roundw
        case rel => exact ⟨k', s', b', by omega, by rw [e1]; go_num, by rw [e3], RR.out.1, RR.out.2.1, RR.out.2.2.1, RR.out.2.2.2.1, RR.out.2.2.2.2⟩
        case measure => simp [intV]; omega
      · cases b
        · obtain ⟨k', s', b', e1, e2, e3, e4, e5, e6, e7, e8⟩ := REL1.out (step_new rfl rfl)
          have RR := Lib.hid (And.intro e4 (And.intro e5 (And.intro e6 (And.intro e7 e8)))); clear e4 e5 e6 e7 e8 REL0 REL1
          go_wp2_with fail
          go_roundw
          case rel => exact ⟨k', s', b', by omega, by rw [e1]; go_num, by rw [e3], RR.out.1, RR.out.2.1, RR.out.2.2.1, RR.out.2.2.2.1, RR.out.2.2.2.2⟩
          case measure => simp [intV]; omega
        · by_cases htt : s.t < fc.t
          · obtain ⟨k', s', b', e1, e2, e3, e4, e5, e6, e7, e8⟩ := REL1.out (step_yes rfl rfl htt)
            have RR := Lib.hid (And.intro e4 (And.intro e5 (And.intro e6 (And.intro e7 e8)))); clear e4 e5 e6 e7 e8 REL0 REL1
            go_wp2_with fail
            go_roundw
            case rel => exact ⟨k', s', b', by omega, by rw [e1]; go_num, by rw [e3], RR.out.1, RR.out.2.1, RR.out.2.2.1, RR.out.2.2.2.1, RR.out.2.2.2.2⟩
            case measure => simp [intV]; omega
          · obtain ⟨k', s', b', e1, e2, e3, e4, e5, e6, e7, e8⟩ := REL0.out (step_old rfl rfl htt)
            have RR := Lib.hid (And.intro e4 (And.intro e5 (And.intro e6 (And.intro e7 e8)))); clear e4 e5 e6 e7 e8 REL0 REL1
            go_wp2_with fail
            go_roundw
            case rel => exact ⟨k', s', b', by omega, by rw [e1]; go_num, by rw [e3], RR.out.1, RR.out.2.1, RR.out.2.2.1, RR.out.2.2.2.1, RR.out.2.2.2.2⟩
            case measure => simp [intV]; omega
    · obtain rfl : k = sn := by omega
      have HE := Lib.hid (HZ.out.symm.trans HST.out)
      obtain ⟨⟨c0, c1, c2, c3, c4⟩, ⟨g0, g1, g2, g3, g4⟩, cq⟩ := hcb
      obtain ⟨⟨y0, y1, y2, y3, y4⟩, ⟨k0, k1, k2, k3, k4⟩, yq⟩ := hzc
      have K6 := Lib.hid (Cb.put5 (d := s) HZC.out)
      have B6 := Lib.hid (put5_below (c := s) HB.out (show w.heap.size ≤ w.heap.size + 1 by omega))
      go_wp2_with fail
      change bodyPost _ _ _ .ret _ (put5 wr (w.heap.size + 1) s)
      generalize put5 wr (w.heap.size + 1) s = Z at *
      clear c0 c1 c2 c3 c4 g0 g1 g2 g3 g4 y0 y1 y2 y3 y4 k0 k1 k2 k3 k4
      obtain ⟨⟨c0, c1, c2, c3, c4⟩, -, -⟩ := id K6.out
      refine bodyPost_ret (v := .tuple #[s.agg, .bool b]) (by simp [results, Try.results91, go_sem, c0, c1, c2, c3, c4, Cel.agg]) rfl ⟨by rw [HE.out], B6.out⟩
end Go.Proofs.Ytopcjiaakefmeaa.Cl
