/-
  What a recipe means by the program: contracts of impl.Means, Steps; both sides' Means in one shape. (Made by gen_he.py.)
-/
import Derived.Test.YtfnnoehpahdgcaaGreatDoorHd
namespace Go.Proofs.YtfnnoehpahdgcaaGreatDoor.Cl
open Go.RowKit Wd Rp Cu Kp
set_option linter.unusedVariables false
/-- What Means gives. -/
def meV (l : List Tk) (bs : List Bi) (gs : List Int) (f : Int) : St0 := if meB l bs gs f = true then (T.rcR l).end_ gs bs f else ⟨5, bs, 0⟩
theorem meV_no {l : List Tk} {bs : List Bi} {gs : List Int} {f : Int} (h : meB l bs gs f = false) : meV l bs gs f = ⟨5, bs, 0⟩ := by unfold meV; rw [h]; rfl
theorem meB_tree {l : List Tk} {bs : List Bi} {gs : List Int} {f : Int} (h : meB l bs gs f = true) : ∃ t : Sl, t.wf 5 ∧ l = t.fl ∧ meV l bs gs f = t.end_ gs bs f := by
  have h1 : rcB l = true := by unfold meB at h; rw [Bool.and_eq_true] at h; exact h.1
  obtain ⟨t, hw, ht⟩ := rc_tree h1
  refine ⟨t, hw, ht, ?_⟩
  unfold meV
  rw [if_pos h, ht, T.rc_det hw]
theorem meB_gn {l : List Tk} {bs : List Bi} {gs : List Int} {f : Int} (h : meB l bs gs f = true) : gs.length = 3 := by
  unfold meB at h
  rw [Bool.and_eq_true, Bool.and_eq_true, Bool.and_eq_true] at h
  exact thB_len h.2.2.1
theorem specMeans_any (w : World) (a : Option Addr) (cap : Nat) (l : List Tk) (n : Nat) (hn : l.length = n) (hl : n ≤ 4194304) (hm : ∀ s ∈ l, s.length ≤ 4194304) (hv : V1 w a cap (txL l)) (ba : Option Addr) (bc bn : Nat) (bs : List Bi) (hbn : bs.length = bn) (hb : VwI w ba bc bs) (hbl : bn ≤ 4194304) (ga : Option Addr) (gc gn : Nat) (gs : List Int) (hgn : gs.length = gn) (hgl : gn ≤ 4194304) (hg : V1 w ga gc (inL gs)) (f : Int) (hbm : ∀ c ∈ bs, c.n.size ≤ 9223372036854775806) :
    Calls Tryz.prog 13 #[.slice a n cap, .slice ba bn bc, .slice ga gn gc, .int .i64 f] w (EndP w.heap.size (meV l bs gs f) w) := by
  cases h : meB l bs gs f with
  | false => rw [meV_no h]; exact specMeans_bad w a cap l n hn hl hm hv ba bc bn bs hbn hb hbl hbm ga gc gn gs hgn hgl hg f h
  | true =>
    obtain ⟨t, hw, ht, e⟩ := meB_tree h
    have hg3 := meB_gn h
    obtain rfl : gn = 3 := by omega
    rw [e]
    exact specMeans_ok w a cap l n hn hl hm hv ba bc bn bs hbn hb hbm ga gc gs hg f h t hw ht
set_option maxHeartbeats 8000000 in
set_option maxRecDepth 100000 in
theorem implMeans_bad (w : World) (a : Option Addr) (cap : Nat) (l : List Tk) (n : Nat) (hn : l.length = n) (hl : n ≤ 4194304) (hm : ∀ s ∈ l, s.length ≤ 4194304) (hv : V1 w a cap (txL l)) (ba : Option Addr) (bc bn : Nat) (bs : List Bi) (hbn : bs.length = bn) (hb : VwI w ba bc bs) (hbl : bn ≤ 4194304) (ga : Option Addr) (gc gn : Nat) (gs : List Int) (hgn : gs.length = gn) (hgl : gn ≤ 4194304) (hg : V1 w ga gc (inL gs)) (f : Int) (hL : Lib3 w) (h : meB l bs gs f = false) :
    Calls Tryz.prog 9 #[.slice a n cap, .slice ba bn bc, .slice ga gn gc, .int .i64 f] w (EndP w.heap.size ⟨5, bs, 0⟩ w) := by
  have hb1 := bel1 w (.cells #[.int .i64 0, .slice none 0 0, .int .i64 0] 30)
  have hb2 := bel1 (w.alloc (.cells #[.int .i64 0, .slice none 0 0, .int .i64 0] 30)) (.cells #[.slice ba bn bc, .slice ga gn gc, .int .i64 f] 67)
  have hbb := hb1.trans (hb2.mono hb1.size)
  have N1 := Tri.made (.int .i64 0) (.slice none 0 0) (.int .i64 0) w 30
  have N2 := Tri.made (.slice ba bn bc) (.slice ga gn gc) (.int .i64 f) (w.alloc (.cells #[.int .i64 0, .slice none 0 0, .int .i64 0] 30)) 67
  have hz1 : (w.alloc (.cells #[.int .i64 0, .slice none 0 0, .int .i64 0] 30)).heap.size = w.heap.size + 1 := World.size_alloc _ _
  have T1 := Lib.hid (N1.below hb2 N1.2.2)
  rw [hz1] at N2
  have VX := hb.below hbb
  have hvx : VwX (w.heap.size + 1) ((w.alloc (.cells #[.int .i64 0, .slice none 0 0, .int .i64 0] 30)).alloc (.cells #[.slice ba bn bc, .slice ga gn gc, .int .i64 f] 67)) ba bc bs := ⟨VX, fun k c hk g o e => by
    obtain ⟨g', o', e', hg', -⟩ := hb.2.2.2 k c hk
    rw [e] at e'; cases e'; omega⟩
  have HR := Lib.hid (run_bad w _ (w.heap.size + 1) (Nat.le_succ _) N2.2.2 hbb N2.2.1 ba bn bc bs hbn hbl N2.1.1 hvx ga gc gn gs hgn hgl N2.1.2.1 hg f N2.1.2.2 a cap n l hn hv hl hm hL h)
  have HBW := Lib.hid (fun (z : World) (h : But (w.heap.size + 1) ((w.alloc (.cells #[.int .i64 0, .slice none 0 0, .int .i64 0] 30)).alloc (.cells #[.slice ba bn bc, .slice ga gn gc, .int .i64 f] 67)) z) => (show Below w.heap.size w z from hbb.trans (h.below (Nat.le_succ _) (by rw [World.size_alloc, hz1]; omega))))
  have HVX := Lib.hid hvx
  have HN2 := Lib.hid N2
  have heb : w.heap.size ≠ w.heap.size + 1 := by omega
  obtain ⟨pp, hpp⟩ : ∃ pp, w.heap.size + 1 = pp := ⟨_, rfl⟩
  rw [hpp] at HR HBW HVX HN2 heb
  clear hb1 hb2 hbb N1 N2 VX hvx hb hv hg hm
  go_enter Tryz.func9, Tryz.ntmps9
  go_wp2_with fail
  try rw [hz1, hpp]
  clear hz1 hpp
  generalize w.heap.size = eb at *
  generalize (w.alloc (.cells #[.int .i64 0, .slice none 0 0, .int .i64 0] 30)).alloc (.cells #[.slice ba bn bc, .slice ga gn gc, .int .i64 f] 67) = w2 at *
  refine HR.out.mono ?_; rintro e w3 ⟨rfl, bu3⟩
  have B3 := Lib.hid (HBW.out _ bu3)
  have T3 := Lib.hid (show Tri eb (.int .i64 0) (.slice none 0 0) (.int .i64 0) w3 from by
    have e := bu3.block eb T1.out.2.2 heb
    obtain ⟨⟨h0, h1, h2⟩, ⟨f0, f1, f2⟩, hl⟩ := T1.out
    exact ⟨⟨(World.cell?_of_block (w := w2) e).trans h0, (World.cell?_of_block (w := w2) e).trans h1, (World.cell?_of_block (w := w2) e).trans h2⟩, ⟨(World.frozen?_of_block (w := w2) e).trans f0, (World.frozen?_of_block (w := w2) e).trans f1, (World.frozen?_of_block (w := w2) e).trans f2⟩, Nat.lt_of_lt_of_le hl bu3.size⟩)
  have VB3 := Lib.hid (show VwI w3 ba bc bs from (HVX.out.but bu3).1)
  clear bu3
  go_wp2_with fail
  refine (cloneB_any w3 ba bc bs bn hbn VB3.out hbl).mono ?_; rintro e w4 ⟨v4, rfl, o4, b4⟩
  obtain ⟨va4, vc4, rfl, -⟩ := o4.view
  rw [hbn] at o4 ⊢
  have T4 := Lib.hid (T3.out.below b4 T3.out.2.2)
  have O9 := Lib.hid ((OwI.put3 o4 T3.out.2.2 (x := .int .i64 5) (y := .slice va4 bn vc4) (z := .int .i64 0)).mono (Nat.le_of_lt T3.out.2.2))
  have B9 := Lib.hid (put3_below (q := eb) (x := .int .i64 5) (y := .slice va4 bn vc4) (z := .int .i64 0) (B3.out.trans (b4.mono (Nat.le_of_lt T3.out.2.2))) (Nat.le_refl _))
  obtain ⟨⟨q0, q1, q2⟩, ⟨r0, r1, r2⟩, r3⟩ := T4.out
  obtain ⟨⟨p0, p1, p2⟩, -, -⟩ := T4.out.put3 (x' := .int .i64 5) (y' := .slice va4 bn vc4) (z' := .int .i64 0)
  clear o4 b4
  go_wp2_with fail
  refine bodyPost_ret (v := .agg #[.int .i64 5, .slice va4 bn vc4, .int .i64 0]) (by simp only [put3] at p0 p1 p2; simp [results, Tryz.results9, go_sem, p0, p1, p2]) rfl ⟨_, rfl, O9.out, B9.out⟩
set_option maxHeartbeats 8000000 in
set_option maxRecDepth 100000 in
theorem implMeans_ok (w : World) (a : Option Addr) (cap : Nat) (l : List Tk) (n : Nat) (hn : l.length = n) (hl : n ≤ 4194304) (hm : ∀ s ∈ l, s.length ≤ 4194304) (hv : V1 w a cap (txL l)) (ba : Option Addr) (bc bn : Nat) (bs : List Bi) (hbn : bs.length = bn) (hb : VwI w ba bc bs) (hbl : bn ≤ 4194304) (ga : Option Addr) (gc gn : Nat) (gs : List Int) (hgn : gs.length = gn) (hgl : gn ≤ 4194304) (hg : V1 w ga gc (inL gs)) (f : Int) (hL : Lib3 w) (h : meB l bs gs f = true) (t : Sl) (hw : t.wf 5) (ht : l = t.fl) :
    Calls Tryz.prog 9 #[.slice a n cap, .slice ba bn bc, .slice ga gn gc, .int .i64 f] w (EndP w.heap.size (t.end_ gs bs f) w) := by
  have hb1 := bel1 w (.cells #[.int .i64 0, .slice none 0 0, .int .i64 0] 30)
  have hb2 := bel1 (w.alloc (.cells #[.int .i64 0, .slice none 0 0, .int .i64 0] 30)) (.cells #[.slice ba bn bc, .slice ga gn gc, .int .i64 f] 67)
  have hbb := hb1.trans (hb2.mono hb1.size)
  have N1 := Tri.made (.int .i64 0) (.slice none 0 0) (.int .i64 0) w 30
  have N2 := Tri.made (.slice ba bn bc) (.slice ga gn gc) (.int .i64 f) (w.alloc (.cells #[.int .i64 0, .slice none 0 0, .int .i64 0] 30)) 67
  have hz1 : (w.alloc (.cells #[.int .i64 0, .slice none 0 0, .int .i64 0] 30)).heap.size = w.heap.size + 1 := World.size_alloc _ _
  have T1 := Lib.hid (N1.below hb2 N1.2.2)
  rw [hz1] at N2
  have VX := hb.below hbb
  have hvx : VwX (w.heap.size + 1) ((w.alloc (.cells #[.int .i64 0, .slice none 0 0, .int .i64 0] 30)).alloc (.cells #[.slice ba bn bc, .slice ga gn gc, .int .i64 f] 67)) ba bc bs := ⟨VX, fun k c hk g o e => by
    obtain ⟨g', o', e', hg', -⟩ := hb.2.2.2 k c hk
    rw [e] at e'; cases e'; omega⟩
  have HR := Lib.hid (run_ok w _ (w.heap.size + 1) (Nat.le_succ _) N2.2.2 hbb N2.2.1 ba bn bc bs hbn hbl N2.1.1 hvx ga gc gn gs hgn hgl N2.1.2.1 hg f N2.1.2.2 a cap n l hn hv hl hm hL h t hw ht)
  have HBW := Lib.hid (fun (z : World) (h : But (w.heap.size + 1) ((w.alloc (.cells #[.int .i64 0, .slice none 0 0, .int .i64 0] 30)).alloc (.cells #[.slice ba bn bc, .slice ga gn gc, .int .i64 f] 67)) z) => (show Below w.heap.size w z from hbb.trans (h.below (Nat.le_succ _) (by rw [World.size_alloc, hz1]; omega))))
  have HVX := Lib.hid hvx
  have HN2 := Lib.hid N2
  have heb : w.heap.size ≠ w.heap.size + 1 := by omega
  obtain ⟨pp, hpp⟩ : ∃ pp, w.heap.size + 1 = pp := ⟨_, rfl⟩
  rw [hpp] at HR HBW HVX HN2 heb
  clear hb1 hb2 hbb N1 N2 VX hvx hb hv hg hm
  obtain ⟨r, hr⟩ : ∃ r, t.end_ gs bs f = r := ⟨_, rfl⟩
  rw [hr]
  unfold Sl.end_ at hr
  obtain ⟨fin, hfin⟩ : ∃ r, t.run gs ⟨0, bs, f⟩ = r := ⟨_, rfl⟩
  rw [hfin] at hr HR
  have HRR := Lib.hid hr
  clear hr hfin hw ht h
  go_enter Tryz.func9, Tryz.ntmps9
  go_wp2_with fail
  try rw [hz1, hpp]
  clear hz1 hpp
  generalize w.heap.size = eb at *
  generalize (w.alloc (.cells #[.int .i64 0, .slice none 0 0, .int .i64 0] 30)).alloc (.cells #[.slice ba bn bc, .slice ga gn gc, .int .i64 f] 67) = w2 at *
  refine HR.out.mono ?_; rintro e w3 ⟨rfl, bu3, hx3⟩
  have B3 := Lib.hid (HBW.out _ bu3)
  have T3 := Lib.hid (show Tri eb (.int .i64 0) (.slice none 0 0) (.int .i64 0) w3 from by
    have e := bu3.block eb T1.out.2.2 heb
    obtain ⟨⟨h0, h1, h2⟩, ⟨f0, f1, f2⟩, hl⟩ := T1.out
    exact ⟨⟨(World.cell?_of_block (w := w2) e).trans h0, (World.cell?_of_block (w := w2) e).trans h1, (World.cell?_of_block (w := w2) e).trans h2⟩, ⟨(World.frozen?_of_block (w := w2) e).trans f0, (World.frozen?_of_block (w := w2) e).trans f1, (World.frozen?_of_block (w := w2) e).trans f2⟩, Nat.lt_of_lt_of_le hl bu3.size⟩)
  have VB3 := Lib.hid (show VwI w3 ba bc bs from (HVX.out.but bu3).1)
  clear bu3
  by_cases hz : fin.c = 0
  · have X3 := Lib.hid (hx3 hz)
    have er : r = ⟨0, fin.b, fin.f⟩ := by
      have := HRR.out
      rw [if_pos hz] at this
      rw [← this, ← hz]
    subst er
    rw [hz]
    obtain ⟨xa, xn, xc, x0, hxn, hxv⟩ := X3.out.b
    have x2 := X3.out.f
    have xv := Lib.hid (hxv.1.below (Below.refl _ w3).drew)
    clear hxv hx3 hz
    go_wp2_with fail
    refine wp_region_held_drew (S := fun z => z.cell? ⟨pp, 0, none⟩ = some (.slice xa xn xc) ∧ z.cell? ⟨pp, 2, none⟩ = some (.int .i64 fin.f)) (by kernel_rfl) ⟨x0, x2⟩ (fun hHeld => ?_)
    refine wpAnyH_take (i := 0) (v := ?v0m) rfl (by kernel_rfl) (by kernel_rfl) (by kernel_rfl) (fun _ _ _ h => h) (Or.inl ⟨by rfl, ?hy0m⟩) (by assumption) ?rest0m
    case hy0m => (intro zz hSw; (try dsimp only at hSw); go_simp; (try with_reducible rfl))
    change wpAnyH _ _ _ _ _ _ _ (Act.put _ (some 23) _) _
    simp only [Act.put, List.setIfInBounds_toArray, List.set_cons_zero, List.set_cons_succ]
    refine wpAnyH_take (i := 1) (v := ?v1m) rfl (by kernel_rfl) (by kernel_rfl) (by kernel_rfl) (fun _ _ _ h => h) (Or.inl ⟨by rfl, ?hy1m⟩) (by assumption) ?rest1m
    case hy1m => (intro zz hSw; (try dsimp only at hSw); go_simp; (try with_reducible rfl))
    change wpAnyH _ _ _ _ _ _ _ (Act.put _ (some 24) _) _
    simp only [Act.put, List.setIfInBounds_toArray, List.set_cons_zero, List.set_cons_succ]
    refine wpAnyH_take (i := 3) (v := ?v3m) rfl (by kernel_rfl) (by kernel_rfl) (by kernel_rfl) (fun _ _ _ h => h) (Or.inl ⟨by rfl, ?hy3m⟩) (by assumption) ?rest3m
    case hy3m => (intro zz hSw; (try dsimp only at hSw); go_simp; (try with_reducible rfl))
    change wpAnyH _ _ _ _ _ _ _ (Act.put _ (some 26) _) _
    simp only [Act.put, List.setIfInBounds_toArray, List.set_cons_zero, List.set_cons_succ]
    refine wpAnyH_take (i := 4) (v := ?v4m) rfl (by kernel_rfl) (by kernel_rfl) (by kernel_rfl) (fun _ _ _ h => h) (Or.inl ⟨by rfl, ?hy4m⟩) (by assumption) ?rest4m
    case hy4m => (intro zz hSw; (try dsimp only at hSw); go_simp; (try with_reducible rfl))
    change wpAnyH _ _ _ _ _ _ _ (Act.put _ (some 27) _) _
    simp only [Act.put, List.setIfInBounds_toArray, List.set_cons_zero, List.set_cons_succ]
    refine wpAnyH_ready (rs := [2]) (by kernel_rfl) (by simp) (AllReadyH.cons rfl (fun K hK => ?_) (AllReadyH.nil))
    go_simp
    refine (cloneB_any w3.drew xa xc fin.b xn hxn xv.out (by have := X3.out.len; omega)).mono ?_; rintro e w4 ⟨v4, rfl, o4, b4'⟩
    have b4 : Below w3.heap.size w3 w4 := (Below.refl _ w3).drew.trans b4'
    obtain ⟨va4, vc4, rfl, -⟩ := o4.view
    rw [hxn] at o4 ⊢
    have T4 := Lib.hid (T3.out.below b4 T3.out.2.2)
    have O9 := Lib.hid ((OwI.put3 o4 T3.out.2.2 (x := .int .i64 0) (y := .slice va4 xn vc4) (z := .int .i64 fin.f)).mono (Nat.le_of_lt T3.out.2.2))
    have B9 := Lib.hid (put3_below (q := eb) (x := .int .i64 0) (y := .slice va4 xn vc4) (z := .int .i64 fin.f) (B3.out.trans (b4.mono (Nat.le_of_lt T3.out.2.2))) (Nat.le_refl _))
    have P0 := (World.cell?_of_block (w := w3) (a := ⟨pp, 0, none⟩) (b4.block pp X3.out.hp)).trans hHeld.1
    have P2 := (World.cell?_of_block (w := w3) (a := ⟨pp, 2, none⟩) (b4.block pp X3.out.hp)).trans hHeld.2
    obtain ⟨⟨q0, q1, q2⟩, ⟨r0, r1, r2⟩, r3⟩ := T4.out
    refine hK.out _ _ ⟨P0, P2⟩ (fun hHeld => ?_)
    clear hK K o4 b4 b4'
    refine wpAnyH_take (i := 5) (v := ?v5m) rfl (by kernel_rfl) (by kernel_rfl) (by kernel_rfl) (fun _ _ _ h => h) (Or.inl ⟨by rfl, ?hy5m⟩) (by assumption) ?rest5m
    case hy5m => (intro zz hSw; (try dsimp only at hSw); go_simp; (try with_reducible rfl))
    change wpAnyH _ _ _ _ _ _ _ (Act.put _ (some 28) _) _
    simp only [Act.put, List.setIfInBounds_toArray, List.set_cons_zero, List.set_cons_succ]
    refine wpAnyH_ready (rs := [6]) (by kernel_rfl) (by simp) (AllReadyH.cons rfl (fun K hK => ?_) (AllReadyH.nil))
    go_simp
    refine hK.out _ _ ⟨put3_cell (q := eb) (fun e => heb e.symm) P0, put3_cell (q := eb) (fun e => heb e.symm) P2⟩ (fun hHeld => ?_)
    clear hK K
    refine wpAnyH_done (by kernel_rfl) ?_ _
    obtain ⟨⟨p0, p1, p2⟩, -, -⟩ := T4.out.put3 (x' := .int .i64 0) (y' := .slice va4 xn vc4) (z' := .int .i64 fin.f)
    clear hHeld
    go_wp2_with fail
    refine bodyPost_ret (v := .agg #[.int .i64 0, .slice va4 xn vc4, .int .i64 fin.f]) (by simp only [put3] at p0 p1 p2; simp [results, Tryz.results9, go_sem, p0, p1, p2]) rfl ⟨_, rfl, O9.out, B9.out⟩
  · have er : r = ⟨fin.c, bs, 0⟩ := by
      have := HRR.out
      rw [if_neg hz] at this
      exact this.symm
    subst er
    have t1 : (fin.c != 0) = true := by simpa using hz
    clear hx3
    go_wp2_with fail
    refine (cloneB_any w3 ba bc bs bn hbn VB3.out hbl).mono ?_; rintro e w4 ⟨v4, rfl, o4, b4⟩
    obtain ⟨va4, vc4, rfl, -⟩ := o4.view
    rw [hbn] at o4 ⊢
    have T4 := Lib.hid (T3.out.below b4 T3.out.2.2)
    have O9 := Lib.hid ((OwI.put3 o4 T3.out.2.2 (x := .int .i64 fin.c) (y := .slice va4 bn vc4) (z := .int .i64 0)).mono (Nat.le_of_lt T3.out.2.2))
    have B9 := Lib.hid (put3_below (q := eb) (x := .int .i64 fin.c) (y := .slice va4 bn vc4) (z := .int .i64 0) (B3.out.trans (b4.mono (Nat.le_of_lt T3.out.2.2))) (Nat.le_refl _))
    obtain ⟨⟨q0, q1, q2⟩, ⟨r0, r1, r2⟩, r3⟩ := T4.out
    obtain ⟨⟨p0, p1, p2⟩, -, -⟩ := T4.out.put3 (x' := .int .i64 fin.c) (y' := .slice va4 bn vc4) (z' := .int .i64 0)
    clear o4 b4
    go_wp2_with fail
    refine bodyPost_ret (v := .agg #[.int .i64 fin.c, .slice va4 bn vc4, .int .i64 0]) (by simp only [put3] at p0 p1 p2; simp [results, Tryz.results9, go_sem, p0, p1, p2]) rfl ⟨_, rfl, O9.out, B9.out⟩
theorem implMeans_any (w : World) (a : Option Addr) (cap : Nat) (l : List Tk) (n : Nat) (hn : l.length = n) (hl : n ≤ 4194304) (hm : ∀ s ∈ l, s.length ≤ 4194304) (hv : V1 w a cap (txL l)) (ba : Option Addr) (bc bn : Nat) (bs : List Bi) (hbn : bs.length = bn) (hb : VwI w ba bc bs) (hbl : bn ≤ 4194304) (ga : Option Addr) (gc gn : Nat) (gs : List Int) (hgn : gs.length = gn) (hgl : gn ≤ 4194304) (hg : V1 w ga gc (inL gs)) (f : Int) (hL : Lib3 w) :
    Calls Tryz.prog 9 #[.slice a n cap, .slice ba bn bc, .slice ga gn gc, .int .i64 f] w (EndP w.heap.size (meV l bs gs f) w) := by
  cases h : meB l bs gs f with
  | false => rw [meV_no h]; exact implMeans_bad w a cap l n hn hl hm hv ba bc bn bs hbn hb hbl ga gc gn gs hgn hgl hg f hL h
  | true =>
    obtain ⟨t, hw, ht, e⟩ := meB_tree h
    rw [e]
    exact implMeans_ok w a cap l n hn hl hm hv ba bc bn bs hbn hb hbl ga gc gn gs hgn hgl hg f hL h t hw ht
set_option maxHeartbeats 4000000 in
set_option maxRecDepth 100000 in
theorem implSteps_any (w : World) (v1 v2 v3 : Value) (f : Int) (r : St0) (hf : r.c = 0 → IntKind.i64.wrap (f - r.f) = f - r.f) (hM : Calls Tryz.prog 9 #[v1, v2, v3, .int .i64 f] w (EndP w.heap.size r w)) :
    Calls Tryz.prog 10 #[v1, v2, v3, .int .i64 f] w (GivesI (stV r f) w) := by
  have HM := Lib.hid hM; clear hM
  obtain ⟨c, b, rf⟩ := r
  generalize hx : stV ⟨c, b, rf⟩ f = x
  have HX := Lib.hid hx; clear hx
  dsimp only at hf
  by_cases h0 : c = 0
  · subst h0
    have i1 := hf rfl
    have HY := Lib.hid (show f - rf = x from HX.out)
    clear hf
    go_enter Tryz.func10, Tryz.ntmps10
    go_wp2_with fail
    refine HM.out.mono ?_; rintro e w1 ⟨v, rfl, o1, b1⟩
    obtain ⟨va, vc, rfl, -⟩ := o1.view
    have B1 := Lib.hid b1; clear b1 o1
    go_wp2_with fail
    go_ret
    exact ⟨by rw [← HY.out]; rfl, bel_tr B1.out (bel1 _ _) (Nat.le_refl _)⟩
  · have t0 : (c == 0) = false := beq_eq_false_iff_ne.2 h0
    by_cases h3 : c = 3
    · subst h3
      have HY := Lib.hid (show f = x from HX.out)
      clear hf
      go_enter Tryz.func10, Tryz.ntmps10
      go_wp2_with fail
      refine HM.out.mono ?_; rintro e w1 ⟨v, rfl, o1, b1⟩
      obtain ⟨va, vc, rfl, -⟩ := o1.view
      have B1 := Lib.hid b1; clear b1 o1
      go_wp2_with fail
      go_ret
      exact ⟨by rw [← HY.out]; rfl, bel_tr B1.out (bel1 _ _) (Nat.le_refl _)⟩
    · have t3 : (c == 3) = false := beq_eq_false_iff_ne.2 h3
      have HY := Lib.hid (show -1 = x by have := HX.out; unfold stV at this; rw [if_neg h0, if_neg h3] at this; exact this)
      clear hf
      go_enter Tryz.func10, Tryz.ntmps10
      go_wp2_with fail
      refine HM.out.mono ?_; rintro e w1 ⟨v, rfl, o1, b1⟩
      obtain ⟨va, vc, rfl, -⟩ := o1.view
      have B1 := Lib.hid b1; clear b1 o1
      go_wp2_with fail
      go_ret
      exact ⟨by rw [← HY.out]; rfl, bel_tr B1.out (bel1 _ _) (Nat.le_refl _)⟩
end Go.Proofs.YtfnnoehpahdgcaaGreatDoor.Cl
