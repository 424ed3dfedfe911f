/-
  What a recipe means: contracts of spec.l10Fuel, Means. (Made by gen_mw.py.)
-/
import Derived.Test.YtfnnoehpahdgcaaGreatDoorMv
namespace Go.Proofs.YtfnnoehpahdgcaaGreatDoor.Cl
open Go.RowKit Wd Rp Kp
set_option linter.unusedVariables false
theorem l10Fuel_any (f : Int) (w : World) : Calls Tryz.prog 52 #[.int .i64 f] w fun e w' => e = .returned (.bool (inB f 0 400)) ∧ w = w' := by
  have HI := Lib.hid (l1In_any f 0 400 w)
  generalize inB f 0 400 = x at *
  go_enter Tryz.func52, Tryz.ntmps52
  go_wp2_with fail
  refine HI.out.mono ?_; rintro e w1 ⟨rfl, rfl⟩
  go_wp2_with fail
  go_ret
  exact ⟨rfl, rfl⟩
/-- All is right that a recipe is given. -/
def meB (l : List Tk) (bs : List Bi) (gs : List Int) (f : Int) : Bool := rcB l && (okI bs && (thB gs && inB f 0 400))
set_option maxHeartbeats 8000000 in
set_option maxRecDepth 100000 in
theorem specMeans_bad (w : World) (a : Option Addr) (cap : Nat) (l : List Tk) (n : Nat) (hn : l.length = n) (hl : n ≤ 4194304) (hm : ∀ s ∈ l, s.length ≤ 4194304) (hv : V1 w a cap (txL l)) (ba : Option Addr) (bc bn : Nat) (bs : List Bi) (hbn : bs.length = bn) (hb : VwI w ba bc bs) (hbl : bn ≤ 4194304) (hbm : ∀ c ∈ bs, c.n.size ≤ 9223372036854775806) (ga : Option Addr) (gc gn : Nat) (gs : List Int) (hgn : gs.length = gn) (hgl : gn ≤ 4194304) (hg : V1 w ga gc (inL gs)) (f : Int) (h : meB l bs gs f = false) :
    Calls Tryz.prog 13 #[.slice a n cap, .slice ba bn bc, .slice ga gn gc, .int .i64 f] w (EndP w.heap.size ⟨5, bs, 0⟩ w) := by
  have HV := Lib.hid hv; clear hv
  have HVB := Lib.hid hb; clear hb
  have HG := Lib.hid hg; clear hg
  have HT := Lib.hid (Tri.made (.int .i64 0) (.slice none 0 0) (.int .i64 0) w 30)
  have HW0 := Lib.hid (bel1 w (.cells #[.int .i64 0, .slice none 0 0, .int .i64 0] 30))
  have H1 := Lib.hid (fun w h => specRecipeOk_any w a cap l n hn h hl hm)
  have H2 := Lib.hid (fun w h => specBins2_any w ba bc bs bn hbn h hbm hbl)
  have H3 := Lib.hid (fun w h => l8Three_any w ga gc gs gn hgn h hgl)
  have H4 := Lib.hid (fun w => l10Fuel_any f w)
  have HCP := Lib.hid (fun w h => l7Copy_any w ba bc bs bn hbn h hbl)
  have HEND := Lib.hid (show ∀ (w1 w2 : World) (v : Value), Below w.heap.size w w1 → OwI w1.heap.size w2 v bs → Below w1.heap.size w1 w2 → w.heap.size < w1.heap.size → OwI w.heap.size (put3 w2 w.heap.size (.int .i64 5) v (.int .i64 0)) v bs ∧ Below w.heap.size w (put3 w2 w.heap.size (.int .i64 5) v (.int .i64 0)) from
    fun w1 w2 v b1 o2 b2 hlt => ⟨(OwI.put3 o2 hlt).mono b1.size, put3_below (bel_tr b1 b2 (Nat.le_refl _)) (Nat.le_refl _)⟩)
  unfold meB at h
  generalize rcB l = x1 at *
  generalize okI bs = x2 at *
  generalize thB gs = x3 at *
  generalize inB f 0 400 = x4 at *
  go_enter Tryz.func13, Tryz.ntmps13
  go_wp2_with fail
  generalize w.alloc (.cells #[.int .i64 0, .slice none 0 0, .int .i64 0] 30) = w0 at *
  refine (H1.out w0 (HV.out.below HW0.out)).mono ?_; rintro e w1 ⟨rfl, b1⟩
  have T1 := Lib.hid (HT.out.below b1 HT.out.2.2)
  have W1 := Lib.hid (bel_tr HW0.out b1 (Nat.le_refl _)); clear b1
  cases x1
  · have HC := Lib.hid (HCP.out w1 (HVB.out.below W1.out))
    go_wp2_with fail
    refine HC.out.mono ?_; rintro e wz ⟨v2, rfl, o2, b2⟩
    obtain ⟨va2, vc2, rfl, -⟩ := o2.view
    rw [hbn] at o2 ⊢
    have T9 := Lib.hid (T1.out.below b2 T1.out.2.2)
    have HZ := Lib.hid (HEND.out w1 wz _ W1.out o2 b2 T1.out.2.2)
    obtain ⟨⟨q0, q1, q2⟩, ⟨r0, r1, r2⟩, r3⟩ := T9.out
    obtain ⟨⟨p0, p1, p2⟩, -, -⟩ := T9.out.put3 (x' := .int .i64 5) (y' := .slice va2 bn vc2) (z' := .int .i64 0)
    clear o2 b2
    go_wp2_with fail
    refine bodyPost_ret (v := .agg #[.int .i64 5, .slice va2 bn vc2, .int .i64 0]) (by simp only [put3] at p0 p1 p2; simp [results, Tryz.results13, go_sem, p0, p1, p2]) rfl ⟨.slice va2 bn vc2, rfl, HZ.out.1, HZ.out.2⟩
  · go_wp2_with fail
    refine (H2.out w1 (HVB.out.below W1.out)).mono ?_; rintro e w2 ⟨rfl, b2⟩
    have T2 := Lib.hid (T1.out.below b2 T1.out.2.2)
    have W2 := Lib.hid (bel_tr W1.out b2 (Nat.le_refl _)); clear b2
    cases x2
    · have HC := Lib.hid (HCP.out w2 (HVB.out.below W2.out))
      go_wp2_with fail
      refine HC.out.mono ?_; rintro e wz ⟨v2, rfl, o2, b2⟩
      obtain ⟨va2, vc2, rfl, -⟩ := o2.view
      rw [hbn] at o2 ⊢
      have T9 := Lib.hid (T2.out.below b2 T2.out.2.2)
      have HZ := Lib.hid (HEND.out w2 wz _ W2.out o2 b2 T2.out.2.2)
      obtain ⟨⟨q0, q1, q2⟩, ⟨r0, r1, r2⟩, r3⟩ := T9.out
      obtain ⟨⟨p0, p1, p2⟩, -, -⟩ := T9.out.put3 (x' := .int .i64 5) (y' := .slice va2 bn vc2) (z' := .int .i64 0)
      clear o2 b2
      go_wp2_with fail
      refine bodyPost_ret (v := .agg #[.int .i64 5, .slice va2 bn vc2, .int .i64 0]) (by simp only [put3] at p0 p1 p2; simp [results, Tryz.results13, go_sem, p0, p1, p2]) rfl ⟨.slice va2 bn vc2, rfl, HZ.out.1, HZ.out.2⟩
    · go_wp2_with fail
      refine (H3.out w2 (HG.out.below W2.out)).mono ?_; rintro e w3 ⟨rfl, rfl⟩
      cases x3
      · have HC := Lib.hid (HCP.out w2 (HVB.out.below W2.out))
        go_wp2_with fail
        refine HC.out.mono ?_; rintro e wz ⟨v2, rfl, o2, b2⟩
        obtain ⟨va2, vc2, rfl, -⟩ := o2.view
        rw [hbn] at o2 ⊢
        have T9 := Lib.hid (T2.out.below b2 T2.out.2.2)
        have HZ := Lib.hid (HEND.out w2 wz _ W2.out o2 b2 T2.out.2.2)
        obtain ⟨⟨q0, q1, q2⟩, ⟨r0, r1, r2⟩, r3⟩ := T9.out
        obtain ⟨⟨p0, p1, p2⟩, -, -⟩ := T9.out.put3 (x' := .int .i64 5) (y' := .slice va2 bn vc2) (z' := .int .i64 0)
        clear o2 b2
        go_wp2_with fail
        refine bodyPost_ret (v := .agg #[.int .i64 5, .slice va2 bn vc2, .int .i64 0]) (by simp only [put3] at p0 p1 p2; simp [results, Tryz.results13, go_sem, p0, p1, p2]) rfl ⟨.slice va2 bn vc2, rfl, HZ.out.1, HZ.out.2⟩
      · go_wp2_with fail
        refine (H4.out w2).mono ?_; rintro e w3 ⟨rfl, rfl⟩
        cases x4
        · have HC := Lib.hid (HCP.out w2 (HVB.out.below W2.out))
          go_wp2_with fail
          refine HC.out.mono ?_; rintro e wz ⟨v2, rfl, o2, b2⟩
          obtain ⟨va2, vc2, rfl, -⟩ := o2.view
          rw [hbn] at o2 ⊢
          have T9 := Lib.hid (T2.out.below b2 T2.out.2.2)
          have HZ := Lib.hid (HEND.out w2 wz _ W2.out o2 b2 T2.out.2.2)
          obtain ⟨⟨q0, q1, q2⟩, ⟨r0, r1, r2⟩, r3⟩ := T9.out
          obtain ⟨⟨p0, p1, p2⟩, -, -⟩ := T9.out.put3 (x' := .int .i64 5) (y' := .slice va2 bn vc2) (z' := .int .i64 0)
          clear o2 b2
          go_wp2_with fail
          refine bodyPost_ret (v := .agg #[.int .i64 5, .slice va2 bn vc2, .int .i64 0]) (by simp only [put3] at p0 p1 p2; simp [results, Tryz.results13, go_sem, p0, p1, p2]) rfl ⟨.slice va2 bn vc2, rfl, HZ.out.1, HZ.out.2⟩
        · cases h
set_option maxHeartbeats 8000000 in
set_option maxRecDepth 100000 in
theorem specMeans_ok (w : World) (a : Option Addr) (cap : Nat) (l : List Tk) (n : Nat) (hn : l.length = n) (hl : n ≤ 4194304) (hm : ∀ s ∈ l, s.length ≤ 4194304) (hv : V1 w a cap (txL l)) (ba : Option Addr) (bc bn : Nat) (bs : List Bi) (hbn : bs.length = bn) (hb : VwI w ba bc bs) (hbm : ∀ c ∈ bs, c.n.size ≤ 9223372036854775806) (ga : Option Addr) (gc : Nat) (gs : List Int) (hg : V1 w ga gc (inL gs)) (f : Int) (h : meB l bs gs f = true) (t : Sl) (hw : t.wf 5) (ht : l = t.fl) :
    Calls Tryz.prog 13 #[.slice a n cap, .slice ba bn bc, .slice ga (3 : Nat) gc, .int .i64 f] w (EndP w.heap.size (t.end_ gs bs f) w) := by
  unfold meB at h
  rw [Bool.and_eq_true, Bool.and_eq_true, Bool.and_eq_true] at h
  obtain ⟨h1, h2, h3, h4⟩ := h
  have hb12 : bn ≤ 12 := by have := (okI_iff.1 h2).1; omega
  have hg3 := thB_len h3
  have hf : 0 ≤ f ∧ f ≤ 400 := by
    unfold inB at h4
    simpa using h4
  have HV := Lib.hid hv; clear hv
  have HVB := Lib.hid hb; clear hb
  have HG := Lib.hid hg; clear hg
  have HT := Lib.hid (Tri.made (.int .i64 0) (.slice none 0 0) (.int .i64 0) w 30)
  have HW0 := Lib.hid (bel1 w (.cells #[.int .i64 0, .slice none 0 0, .int .i64 0] 30))
  have H1 := Lib.hid (fun w h => specRecipeOk_any w a cap l n hn h hl hm)
  have H2 := Lib.hid (fun w h => specBins2_any w ba bc bs bn hbn h hbm (by omega))
  have H3 := Lib.hid (fun w h => l8Three_any w ga gc gs 3 hg3 h (by decide))
  have H4 := Lib.hid (fun w => l10Fuel_any f w)
  have HM := Lib.hid (fun w hv hb hg => l10Means_any w a cap l n hn hl hm hv ba bc bn bs hbn hb hb12 ga gc gs hg hg3 f hf t hw ht)
  rw [h1] at H1; rw [h2] at H2; rw [h3] at H3; rw [h4] at H4
  generalize t.end_ gs bs f = r at *
  clear h1 h2 h3 h4 hw ht hf hg3
  go_enter Tryz.func13, Tryz.ntmps13
  go_wp2_with fail
  generalize w.alloc (.cells #[.int .i64 0, .slice none 0 0, .int .i64 0] 30) = w0 at *
  refine (H1.out w0 (HV.out.below HW0.out)).mono ?_; rintro e w1 ⟨rfl, b1⟩
  have T1 := Lib.hid (HT.out.below b1 HT.out.2.2)
  have W1 := Lib.hid (bel_tr HW0.out b1 (Nat.le_refl _)); clear b1
  go_wp2_with fail
  refine (H2.out w1 (HVB.out.below W1.out)).mono ?_; rintro e w2 ⟨rfl, b2⟩
  have T2 := Lib.hid (T1.out.below b2 T1.out.2.2)
  have W2 := Lib.hid (bel_tr W1.out b2 (Nat.le_refl _)); clear b2
  go_wp2_with fail
  refine (H3.out w2 (HG.out.below W2.out)).mono ?_; rintro e w3 ⟨rfl, rfl⟩
  go_wp2_with fail
  refine (H4.out w2).mono ?_; rintro e w3 ⟨rfl, rfl⟩
  go_wp2_with fail
  refine (HM.out w2 (HV.out.below W2.out) (HVB.out.below W2.out) (HG.out.below W2.out)).mono ?_; rintro e w3 ⟨v3, rfl, o3, b3⟩
  obtain ⟨va3, vc3, rfl, -⟩ := o3.view
  have T9 := Lib.hid (T2.out.below b3 T2.out.2.2)
  have O9 := Lib.hid ((OwI.put3 o3 T2.out.2.2 (x := .int .i64 r.c) (y := .slice va3 r.b.length vc3) (z := .int .i64 r.f)).mono W2.out.size)
  have B9 := Lib.hid (put3_below (q := w.heap.size) (x := .int .i64 r.c) (y := .slice va3 r.b.length vc3) (z := .int .i64 r.f) (bel_tr W2.out b3 (Nat.le_refl _)) (Nat.le_refl _))
  obtain ⟨⟨q0, q1, q2⟩, ⟨r0, r1, r2⟩, r3⟩ := T9.out
  obtain ⟨⟨p0, p1, p2⟩, -, -⟩ := T9.out.put3 (x' := .int .i64 r.c) (y' := .slice va3 r.b.length vc3) (z' := .int .i64 r.f)
  clear o3 b3
  go_wp2_with fail
  refine bodyPost_ret (v := .agg #[.int .i64 r.c, .slice va3 r.b.length vc3, .int .i64 r.f]) (by simp only [put3] at p0 p1 p2; simp [results, Tryz.results13, go_sem, p0, p1, p2]) rfl ⟨_, rfl, O9.out, B9.out⟩
end Go.Proofs.YtfnnoehpahdgcaaGreatDoor.Cl
