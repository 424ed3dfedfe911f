/-
  Texts of mine, joined (part 9 of 9): what the law at hand reaches of them; each text's own words stand in the verifier's repo.
-/
import Derived.Test.YtfnnoehpahdgcaaGreatDoorSs8
import Derived.Test.YtfnnoehpahdgcaaGreatDoorRows
import Derived.WalkKit
import Derived.IntWalk
import Derived.Laws.Bits128
import Derived.Lib.Hide
import Derived.Lib.ParseIntBTie
import Derived.Lib.ParseIntBCases
import Derived.Lib.ItoaMem
import Derived.Lib.IndexMore
import Derived.Lib.Repeat
import Derived.WalkSpells
import Derived.Below
import Derived.Carry
import Derived.WalkSmall
import Derived.Laws.Closers25b
import Derived.Lib.Strings
import Derived.Lib.SmallJoins
import Derived.Lib.AppendIntMem
import Derived.Maps.AppendAt
import Derived.OwnWalk
import Derived.WalkLawsBesides
import Derived.Deep.QuietTactic
import Derived.BigQuiet
import Derived.Deep.RegionHeld3
import Derived.Laws.OwnMore
import Derived.Laws.StructEq
import Derived.BigFrame
import Derived.Deep.Upon
import Derived.Laws.CopyRow
import Derived.Laws.BytesArg
import Derived.RowKit3
import Derived.Shelf.Strconv.Itoa4
import Derived.Shelf.Strconv.ParseIntPublic10
import Derived.Shelf.Strconv.ErrVarParseInt
import Derived.Test.YtfnnoehpahdgcaaGreatDoorProg
import Derived.LaidMore
import Derived.Stop.LaidErr
import Derived.Lib.LaidTab
import Derived.RangeFuncWrites
import Derived.RangeFuncCalls
import Derived.RangeFuncBox
import Derived.RangeFuncNested
import Derived.RangeFuncLeaves
import Derived.Shelf.Abstract
import Derived.Shelf.RegionOpen
import Derived.OwnWalkIn
import Derived.TacticsInMore
import Derived.LoopNIn
import Derived.LoopIn
import Derived.Lib.Bytealg
import Derived.Deep.LoopGhost
import Derived.Lib.AtoiErrMem
import Derived.OpenShut
import Derived.Lib.ConvBytes
import Derived.Deep.RegionLaw
import Derived.Deep.AppendLies
import Derived.Lib.AppendZeros
import Derived.Defers
import Derived.Recover
import Derived.ProofKit
import Derived.Handed
import Derived.SizedLaws
import Derived.ShutString
import Derived.Deep.Slices
import Derived.Deep.Fields
import Derived.ChangeSame
namespace Go.Proofs.YtfnnoehpahdgcaaGreatDoor.Cl
set_option linter.unusedVariables false
open Go.RowKit Wd Rp Cu Kp
def meV (l : List Tk) (bs : List Bi) (gs : List Int) (f : Int) : St0 := if meB l bs gs f = true then (T.rcR l).end_ gs bs f else ⟨5, bs, 0⟩
theorem meV_no {l : List Tk} {bs : List Bi} {gs : List Int} {f : Int} (h : meB l bs gs f = false) : meV l bs gs f = ⟨5, bs, 0⟩ := by unfold meV; rw [h]; rfl
theorem meB_tree {l : List Tk} {bs : List Bi} {gs : List Int} {f : Int} (h : meB l bs gs f = true) : ∃ t : Sl, t.wf 5 ∧ l = t.fl ∧ meV l bs gs f = t.end_ gs bs f := by
  have h1 : rcB l = true := by unfold meB at h; rw [Bool.and_eq_true] at h; exact h.1
  obtain ⟨t, hw, ht⟩ := rc_tree h1
  refine ⟨t, hw, ht, ?_⟩
  unfold meV
  rw [if_pos h, ht, T.rc_det hw]
theorem meB_gn {l : List Tk} {bs : List Bi} {gs : List Int} {f : Int} (h : meB l bs gs f = true) : gs.length = 3 := by
  unfold meB at h
  rw [Bool.and_eq_true, Bool.and_eq_true, Bool.and_eq_true] at h
  exact thB_len h.2.2.1
theorem specMeans_any (w : World) (a : Option Addr) (cap : Nat) (l : List Tk) (n : Nat) (hn : l.length = n) (hl : n ≤ 4194304) (hm : ∀ s ∈ l, s.length ≤ 4194304) (hv : V1 w a cap (txL l)) (ba : Option Addr) (bc bn : Nat) (bs : List Bi) (hbn : bs.length = bn) (hb : VwI w ba bc bs) (hbl : bn ≤ 4194304) (ga : Option Addr) (gc gn : Nat) (gs : List Int) (hgn : gs.length = gn) (hgl : gn ≤ 4194304) (hg : V1 w ga gc (inL gs)) (f : Int) (hbm : ∀ c ∈ bs, c.n.size ≤ 9223372036854775806) :
    Calls Tryz.prog 13 #[.slice a n cap, .slice ba bn bc, .slice ga gn gc, .int .i64 f] w (EndP w.heap.size (meV l bs gs f) w) := by
  cases h : meB l bs gs f with
  | false => rw [meV_no h]; exact specMeans_bad w a cap l n hn hl hm hv ba bc bn bs hbn hb hbl hbm ga gc gn gs hgn hgl hg f h
  | true =>
    obtain ⟨t, hw, ht, e⟩ := meB_tree h
    have hg3 := meB_gn h
    obtain rfl : gn = 3 := by omega
    rw [e]
    exact specMeans_ok w a cap l n hn hl hm hv ba bc bn bs hbn hb hbm ga gc gs hg f h t hw ht
set_option maxHeartbeats 8000000 in
set_option maxRecDepth 100000 in
theorem implMeans_bad (w : World) (a : Option Addr) (cap : Nat) (l : List Tk) (n : Nat) (hn : l.length = n) (hl : n ≤ 4194304) (hm : ∀ s ∈ l, s.length ≤ 4194304) (hv : V1 w a cap (txL l)) (ba : Option Addr) (bc bn : Nat) (bs : List Bi) (hbn : bs.length = bn) (hb : VwI w ba bc bs) (hbl : bn ≤ 4194304) (ga : Option Addr) (gc gn : Nat) (gs : List Int) (hgn : gs.length = gn) (hgl : gn ≤ 4194304) (hg : V1 w ga gc (inL gs)) (f : Int) (hL : Lib3 w) (h : meB l bs gs f = false) :
    Calls Tryz.prog 9 #[.slice a n cap, .slice ba bn bc, .slice ga gn gc, .int .i64 f] w (EndP w.heap.size ⟨5, bs, 0⟩ w) := by
  have hb1 := bel1 w (.cells #[.int .i64 0, .slice none 0 0, .int .i64 0] 30)
  have hb2 := bel1 (w.alloc (.cells #[.int .i64 0, .slice none 0 0, .int .i64 0] 30)) (.cells #[.slice ba bn bc, .slice ga gn gc, .int .i64 f] 67)
  have hbb := hb1.trans (hb2.mono hb1.size)
  have N1 := Tri.made (.int .i64 0) (.slice none 0 0) (.int .i64 0) w 30
  have N2 := Tri.made (.slice ba bn bc) (.slice ga gn gc) (.int .i64 f) (w.alloc (.cells #[.int .i64 0, .slice none 0 0, .int .i64 0] 30)) 67
  have hz1 : (w.alloc (.cells #[.int .i64 0, .slice none 0 0, .int .i64 0] 30)).heap.size = w.heap.size + 1 := World.size_alloc _ _
  have T1 := Lib.hid (N1.below hb2 N1.2.2)
  rw [hz1] at N2
  have VX := hb.below hbb
  have hvx : VwX (w.heap.size + 1) ((w.alloc (.cells #[.int .i64 0, .slice none 0 0, .int .i64 0] 30)).alloc (.cells #[.slice ba bn bc, .slice ga gn gc, .int .i64 f] 67)) ba bc bs := ⟨VX, fun k c hk g o e => by
    obtain ⟨g', o', e', hg', -⟩ := hb.2.2.2 k c hk
    rw [e] at e'; cases e'; omega⟩
  have HR := Lib.hid (run_bad w _ (w.heap.size + 1) (Nat.le_succ _) N2.2.2 hbb N2.2.1 ba bn bc bs hbn hbl N2.1.1 hvx ga gc gn gs hgn hgl N2.1.2.1 hg f N2.1.2.2 a cap n l hn hv hl hm hL h)
  have HBW := Lib.hid (fun (z : World) (h : But (w.heap.size + 1) ((w.alloc (.cells #[.int .i64 0, .slice none 0 0, .int .i64 0] 30)).alloc (.cells #[.slice ba bn bc, .slice ga gn gc, .int .i64 f] 67)) z) => (show Below w.heap.size w z from hbb.trans (h.below (Nat.le_succ _) (by rw [World.size_alloc, hz1]; omega))))
  have HVX := Lib.hid hvx
  have HN2 := Lib.hid N2
  have heb : w.heap.size ≠ w.heap.size + 1 := by omega
  obtain ⟨pp, hpp⟩ : ∃ pp, w.heap.size + 1 = pp := ⟨_, rfl⟩
  rw [hpp] at HR HBW HVX HN2 heb
  clear hb1 hb2 hbb N1 N2 VX hvx hb hv hg hm
  go_enter Tryz.func9, Tryz.ntmps9
  go_wp2_with fail
  try rw [hz1, hpp]
  clear hz1 hpp
  generalize w.heap.size = eb at *
  generalize (w.alloc (.cells #[.int .i64 0, .slice none 0 0, .int .i64 0] 30)).alloc (.cells #[.slice ba bn bc, .slice ga gn gc, .int .i64 f] 67) = w2 at *
  refine HR.out.mono ?_; rintro e w3 ⟨rfl, bu3⟩
  have B3 := Lib.hid (HBW.out _ bu3)
  have T3 := Lib.hid (show Tri eb (.int .i64 0) (.slice none 0 0) (.int .i64 0) w3 from by
    have e := bu3.block eb T1.out.2.2 heb
    obtain ⟨⟨h0, h1, h2⟩, ⟨f0, f1, f2⟩, hl⟩ := T1.out
    exact ⟨⟨(World.cell?_of_block (w := w2) e).trans h0, (World.cell?_of_block (w := w2) e).trans h1, (World.cell?_of_block (w := w2) e).trans h2⟩, ⟨(World.frozen?_of_block (w := w2) e).trans f0, (World.frozen?_of_block (w := w2) e).trans f1, (World.frozen?_of_block (w := w2) e).trans f2⟩, Nat.lt_of_lt_of_le hl bu3.size⟩)
  have VB3 := Lib.hid (show VwI w3 ba bc bs from (HVX.out.but bu3).1)
  clear bu3
  go_wp2_with fail
  refine (cloneB_any w3 ba bc bs bn hbn VB3.out hbl).mono ?_; rintro e w4 ⟨v4, rfl, o4, b4⟩
  obtain ⟨va4, vc4, rfl, -⟩ := o4.view
  rw [hbn] at o4 ⊢
  have T4 := Lib.hid (T3.out.below b4 T3.out.2.2)
  have O9 := Lib.hid ((OwI.put3 o4 T3.out.2.2 (x := .int .i64 5) (y := .slice va4 bn vc4) (z := .int .i64 0)).mono (Nat.le_of_lt T3.out.2.2))
  have B9 := Lib.hid (put3_below (q := eb) (x := .int .i64 5) (y := .slice va4 bn vc4) (z := .int .i64 0) (B3.out.trans (b4.mono (Nat.le_of_lt T3.out.2.2))) (Nat.le_refl _))
  obtain ⟨⟨q0, q1, q2⟩, ⟨r0, r1, r2⟩, r3⟩ := T4.out
  obtain ⟨⟨p0, p1, p2⟩, -, -⟩ := T4.out.put3 (x' := .int .i64 5) (y' := .slice va4 bn vc4) (z' := .int .i64 0)
  clear o4 b4
  go_wp2_with fail
  refine bodyPost_ret (v := .agg #[.int .i64 5, .slice va4 bn vc4, .int .i64 0]) (by simp only [put3] at p0 p1 p2; simp [results, Tryz.results9, go_sem, p0, p1, p2]) rfl ⟨_, rfl, O9.out, B9.out⟩
set_option maxHeartbeats 8000000 in
set_option maxRecDepth 100000 in
theorem implMeans_ok (w : World) (a : Option Addr) (cap : Nat) (l : List Tk) (n : Nat) (hn : l.length = n) (hl : n ≤ 4194304) (hm : ∀ s ∈ l, s.length ≤ 4194304) (hv : V1 w a cap (txL l)) (ba : Option Addr) (bc bn : Nat) (bs : List Bi) (hbn : bs.length = bn) (hb : VwI w ba bc bs) (hbl : bn ≤ 4194304) (ga : Option Addr) (gc gn : Nat) (gs : List Int) (hgn : gs.length = gn) (hgl : gn ≤ 4194304) (hg : V1 w ga gc (inL gs)) (f : Int) (hL : Lib3 w) (h : meB l bs gs f = true) (t : Sl) (hw : t.wf 5) (ht : l = t.fl) :
    Calls Tryz.prog 9 #[.slice a n cap, .slice ba bn bc, .slice ga gn gc, .int .i64 f] w (EndP w.heap.size (t.end_ gs bs f) w) := by
  have hb1 := bel1 w (.cells #[.int .i64 0, .slice none 0 0, .int .i64 0] 30)
  have hb2 := bel1 (w.alloc (.cells #[.int .i64 0, .slice none 0 0, .int .i64 0] 30)) (.cells #[.slice ba bn bc, .slice ga gn gc, .int .i64 f] 67)
  have hbb := hb1.trans (hb2.mono hb1.size)
  have N1 := Tri.made (.int .i64 0) (.slice none 0 0) (.int .i64 0) w 30
  have N2 := Tri.made (.slice ba bn bc) (.slice ga gn gc) (.int .i64 f) (w.alloc (.cells #[.int .i64 0, .slice none 0 0, .int .i64 0] 30)) 67
  have hz1 : (w.alloc (.cells #[.int .i64 0, .slice none 0 0, .int .i64 0] 30)).heap.size = w.heap.size + 1 := World.size_alloc _ _
  have T1 := Lib.hid (N1.below hb2 N1.2.2)
  rw [hz1] at N2
  have VX := hb.below hbb
  have hvx : VwX (w.heap.size + 1) ((w.alloc (.cells #[.int .i64 0, .slice none 0 0, .int .i64 0] 30)).alloc (.cells #[.slice ba bn bc, .slice ga gn gc, .int .i64 f] 67)) ba bc bs := ⟨VX, fun k c hk g o e => by
    obtain ⟨g', o', e', hg', -⟩ := hb.2.2.2 k c hk
    rw [e] at e'; cases e'; omega⟩
  have HR := Lib.hid (run_ok w _ (w.heap.size + 1) (Nat.le_succ _) N2.2.2 hbb N2.2.1 ba bn bc bs hbn hbl N2.1.1 hvx ga gc gn gs hgn hgl N2.1.2.1 hg f N2.1.2.2 a cap n l hn hv hl hm hL h t hw ht)
  have HBW := Lib.hid (fun (z : World) (h : But (w.heap.size + 1) ((w.alloc (.cells #[.int .i64 0, .slice none 0 0, .int .i64 0] 30)).alloc (.cells #[.slice ba bn bc, .slice ga gn gc, .int .i64 f] 67)) z) => (show Below w.heap.size w z from hbb.trans (h.below (Nat.le_succ _) (by rw [World.size_alloc, hz1]; omega))))
  have HVX := Lib.hid hvx
  have HN2 := Lib.hid N2
  have heb : w.heap.size ≠ w.heap.size + 1 := by omega
  obtain ⟨pp, hpp⟩ : ∃ pp, w.heap.size + 1 = pp := ⟨_, rfl⟩
  rw [hpp] at HR HBW HVX HN2 heb
  clear hb1 hb2 hbb N1 N2 VX hvx hb hv hg hm
  obtain ⟨r, hr⟩ : ∃ r, t.end_ gs bs f = r := ⟨_, rfl⟩
  rw [hr]
  unfold Sl.end_ at hr
  obtain ⟨fin, hfin⟩ : ∃ r, t.run gs ⟨0, bs, f⟩ = r := ⟨_, rfl⟩
  rw [hfin] at hr HR
  have HRR := Lib.hid hr
  clear hr hfin hw ht h
  go_enter Tryz.func9, Tryz.ntmps9
  go_wp2_with fail
  try rw [hz1, hpp]
  clear hz1 hpp
  generalize w.heap.size = eb at *
  generalize (w.alloc (.cells #[.int .i64 0, .slice none 0 0, .int .i64 0] 30)).alloc (.cells #[.slice ba bn bc, .slice ga gn gc, .int .i64 f] 67) = w2 at *
  refine HR.out.mono ?_; rintro e w3 ⟨rfl, bu3, hx3⟩
  have B3 := Lib.hid (HBW.out _ bu3)
  have T3 := Lib.hid (show Tri eb (.int .i64 0) (.slice none 0 0) (.int .i64 0) w3 from by
    have e := bu3.block eb T1.out.2.2 heb
    obtain ⟨⟨h0, h1, h2⟩, ⟨f0, f1, f2⟩, hl⟩ := T1.out
    exact ⟨⟨(World.cell?_of_block (w := w2) e).trans h0, (World.cell?_of_block (w := w2) e).trans h1, (World.cell?_of_block (w := w2) e).trans h2⟩, ⟨(World.frozen?_of_block (w := w2) e).trans f0, (World.frozen?_of_block (w := w2) e).trans f1, (World.frozen?_of_block (w := w2) e).trans f2⟩, Nat.lt_of_lt_of_le hl bu3.size⟩)
  have VB3 := Lib.hid (show VwI w3 ba bc bs from (HVX.out.but bu3).1)
  clear bu3
  by_cases hz : fin.c = 0
  · have X3 := Lib.hid (hx3 hz)
    have er : r = ⟨0, fin.b, fin.f⟩ := by
      have := HRR.out
      rw [if_pos hz] at this
      rw [← this, ← hz]
    subst er
    rw [hz]
    obtain ⟨xa, xn, xc, x0, hxn, hxv⟩ := X3.out.b
    have x2 := X3.out.f
    have xv := Lib.hid (hxv.1.below (Below.refl _ w3).drew)
    clear hxv hx3 hz
    go_wp2_with fail
    refine wp_region_held_drew (S := fun z => z.cell? ⟨pp, 0, none⟩ = some (.slice xa xn xc) ∧ z.cell? ⟨pp, 2, none⟩ = some (.int .i64 fin.f)) (by kernel_rfl) ⟨x0, x2⟩ (fun hHeld => ?_)
    refine wpAnyH_take (i := 0) (v := ?v0m) rfl (by kernel_rfl) (by kernel_rfl) (by kernel_rfl) (fun _ _ _ h => h) (Or.inl ⟨by rfl, ?hy0m⟩) (by assumption) ?rest0m
    case hy0m => (intro zz hSw; (try dsimp only at hSw); go_simp; (try with_reducible rfl))
    change wpAnyH _ _ _ _ _ _ _ (Act.put _ (some 23) _) _
    simp only [Act.put, List.setIfInBounds_toArray, List.set_cons_zero, List.set_cons_succ]
    refine wpAnyH_take (i := 1) (v := ?v1m) rfl (by kernel_rfl) (by kernel_rfl) (by kernel_rfl) (fun _ _ _ h => h) (Or.inl ⟨by rfl, ?hy1m⟩) (by assumption) ?rest1m
    case hy1m => (intro zz hSw; (try dsimp only at hSw); go_simp; (try with_reducible rfl))
    change wpAnyH _ _ _ _ _ _ _ (Act.put _ (some 24) _) _
    simp only [Act.put, List.setIfInBounds_toArray, List.set_cons_zero, List.set_cons_succ]
    refine wpAnyH_take (i := 3) (v := ?v3m) rfl (by kernel_rfl) (by kernel_rfl) (by kernel_rfl) (fun _ _ _ h => h) (Or.inl ⟨by rfl, ?hy3m⟩) (by assumption) ?rest3m
    case hy3m => (intro zz hSw; (try dsimp only at hSw); go_simp; (try with_reducible rfl))
    change wpAnyH _ _ _ _ _ _ _ (Act.put _ (some 26) _) _
    simp only [Act.put, List.setIfInBounds_toArray, List.set_cons_zero, List.set_cons_succ]
    refine wpAnyH_take (i := 4) (v := ?v4m) rfl (by kernel_rfl) (by kernel_rfl) (by kernel_rfl) (fun _ _ _ h => h) (Or.inl ⟨by rfl, ?hy4m⟩) (by assumption) ?rest4m
    case hy4m => (intro zz hSw; (try dsimp only at hSw); go_simp; (try with_reducible rfl))
    change wpAnyH _ _ _ _ _ _ _ (Act.put _ (some 27) _) _
    simp only [Act.put, List.setIfInBounds_toArray, List.set_cons_zero, List.set_cons_succ]
    refine wpAnyH_ready (rs := [2]) (by kernel_rfl) (by simp) (AllReadyH.cons rfl (fun K hK => ?_) (AllReadyH.nil))
    go_simp
    refine (cloneB_any w3.drew xa xc fin.b xn hxn xv.out (by have := X3.out.len; omega)).mono ?_; rintro e w4 ⟨v4, rfl, o4, b4'⟩
    have b4 : Below w3.heap.size w3 w4 := (Below.refl _ w3).drew.trans b4'
    obtain ⟨va4, vc4, rfl, -⟩ := o4.view
    rw [hxn] at o4 ⊢
    have T4 := Lib.hid (T3.out.below b4 T3.out.2.2)
    have O9 := Lib.hid ((OwI.put3 o4 T3.out.2.2 (x := .int .i64 0) (y := .slice va4 xn vc4) (z := .int .i64 fin.f)).mono (Nat.le_of_lt T3.out.2.2))
    have B9 := Lib.hid (put3_below (q := eb) (x := .int .i64 0) (y := .slice va4 xn vc4) (z := .int .i64 fin.f) (B3.out.trans (b4.mono (Nat.le_of_lt T3.out.2.2))) (Nat.le_refl _))
    have P0 := (World.cell?_of_block (w := w3) (a := ⟨pp, 0, none⟩) (b4.block pp X3.out.hp)).trans hHeld.1
    have P2 := (World.cell?_of_block (w := w3) (a := ⟨pp, 2, none⟩) (b4.block pp X3.out.hp)).trans hHeld.2
    obtain ⟨⟨q0, q1, q2⟩, ⟨r0, r1, r2⟩, r3⟩ := T4.out
    refine hK.out _ _ ⟨P0, P2⟩ (fun hHeld => ?_)
    clear hK K o4 b4 b4'
    refine wpAnyH_take (i := 5) (v := ?v5m) rfl (by kernel_rfl) (by kernel_rfl) (by kernel_rfl) (fun _ _ _ h => h) (Or.inl ⟨by rfl, ?hy5m⟩) (by assumption) ?rest5m
    case hy5m => (intro zz hSw; (try dsimp only at hSw); go_simp; (try with_reducible rfl))
    change wpAnyH _ _ _ _ _ _ _ (Act.put _ (some 28) _) _
    simp only [Act.put, List.setIfInBounds_toArray, List.set_cons_zero, List.set_cons_succ]
    refine wpAnyH_ready (rs := [6]) (by kernel_rfl) (by simp) (AllReadyH.cons rfl (fun K hK => ?_) (AllReadyH.nil))
    go_simp
    refine hK.out _ _ ⟨put3_cell (q := eb) (fun e => heb e.symm) P0, put3_cell (q := eb) (fun e => heb e.symm) P2⟩ (fun hHeld => ?_)
    clear hK K
    refine wpAnyH_done (by kernel_rfl) ?_ _
    obtain ⟨⟨p0, p1, p2⟩, -, -⟩ := T4.out.put3 (x' := .int .i64 0) (y' := .slice va4 xn vc4) (z' := .int .i64 fin.f)
    clear hHeld
    go_wp2_with fail
    refine bodyPost_ret (v := .agg #[.int .i64 0, .slice va4 xn vc4, .int .i64 fin.f]) (by simp only [put3] at p0 p1 p2; simp [results, Tryz.results9, go_sem, p0, p1, p2]) rfl ⟨_, rfl, O9.out, B9.out⟩
  · have er : r = ⟨fin.c, bs, 0⟩ := by
      have := HRR.out
      rw [if_neg hz] at this
      exact this.symm
    subst er
    have t1 : (fin.c != 0) = true := by simpa using hz
    clear hx3
    go_wp2_with fail
    refine (cloneB_any w3 ba bc bs bn hbn VB3.out hbl).mono ?_; rintro e w4 ⟨v4, rfl, o4, b4⟩
    obtain ⟨va4, vc4, rfl, -⟩ := o4.view
    rw [hbn] at o4 ⊢
    have T4 := Lib.hid (T3.out.below b4 T3.out.2.2)
    have O9 := Lib.hid ((OwI.put3 o4 T3.out.2.2 (x := .int .i64 fin.c) (y := .slice va4 bn vc4) (z := .int .i64 0)).mono (Nat.le_of_lt T3.out.2.2))
    have B9 := Lib.hid (put3_below (q := eb) (x := .int .i64 fin.c) (y := .slice va4 bn vc4) (z := .int .i64 0) (B3.out.trans (b4.mono (Nat.le_of_lt T3.out.2.2))) (Nat.le_refl _))
    obtain ⟨⟨q0, q1, q2⟩, ⟨r0, r1, r2⟩, r3⟩ := T4.out
    obtain ⟨⟨p0, p1, p2⟩, -, -⟩ := T4.out.put3 (x' := .int .i64 fin.c) (y' := .slice va4 bn vc4) (z' := .int .i64 0)
    clear o4 b4
    go_wp2_with fail
    refine bodyPost_ret (v := .agg #[.int .i64 fin.c, .slice va4 bn vc4, .int .i64 0]) (by simp only [put3] at p0 p1 p2; simp [results, Tryz.results9, go_sem, p0, p1, p2]) rfl ⟨_, rfl, O9.out, B9.out⟩
theorem implMeans_any (w : World) (a : Option Addr) (cap : Nat) (l : List Tk) (n : Nat) (hn : l.length = n) (hl : n ≤ 4194304) (hm : ∀ s ∈ l, s.length ≤ 4194304) (hv : V1 w a cap (txL l)) (ba : Option Addr) (bc bn : Nat) (bs : List Bi) (hbn : bs.length = bn) (hb : VwI w ba bc bs) (hbl : bn ≤ 4194304) (ga : Option Addr) (gc gn : Nat) (gs : List Int) (hgn : gs.length = gn) (hgl : gn ≤ 4194304) (hg : V1 w ga gc (inL gs)) (f : Int) (hL : Lib3 w) :
    Calls Tryz.prog 9 #[.slice a n cap, .slice ba bn bc, .slice ga gn gc, .int .i64 f] w (EndP w.heap.size (meV l bs gs f) w) := by
  cases h : meB l bs gs f with
  | false => rw [meV_no h]; exact implMeans_bad w a cap l n hn hl hm hv ba bc bn bs hbn hb hbl ga gc gn gs hgn hgl hg f hL h
  | true =>
    obtain ⟨t, hw, ht, e⟩ := meB_tree h
    rw [e]
    exact implMeans_ok w a cap l n hn hl hm hv ba bc bn bs hbn hb hbl ga gc gn gs hgn hgl hg f hL h t hw ht
set_option maxHeartbeats 4000000 in
set_option maxRecDepth 100000 in
theorem implSteps_any (w : World) (v1 v2 v3 : Value) (f : Int) (r : St0) (hf : r.c = 0 → IntKind.i64.wrap (f - r.f) = f - r.f) (hM : Calls Tryz.prog 9 #[v1, v2, v3, .int .i64 f] w (EndP w.heap.size r w)) :
    Calls Tryz.prog 10 #[v1, v2, v3, .int .i64 f] w (GivesI (stV r f) w) := by
  have HM := Lib.hid hM; clear hM
  obtain ⟨c, b, rf⟩ := r
  generalize hx : stV ⟨c, b, rf⟩ f = x
  have HX := Lib.hid hx; clear hx
  dsimp only at hf
  by_cases h0 : c = 0
  · subst h0
    have i1 := hf rfl
    have HY := Lib.hid (show f - rf = x from HX.out)
    clear hf
    go_enter Tryz.func10, Tryz.ntmps10
    go_wp2_with fail
    refine HM.out.mono ?_; rintro e w1 ⟨v, rfl, o1, b1⟩
    obtain ⟨va, vc, rfl, -⟩ := o1.view
    have B1 := Lib.hid b1; clear b1 o1
    go_wp2_with fail
    go_ret
    exact ⟨by rw [← HY.out]; rfl, bel_tr B1.out (bel1 _ _) (Nat.le_refl _)⟩
  · have t0 : (c == 0) = false := beq_eq_false_iff_ne.2 h0
    by_cases h3 : c = 3
    · subst h3
      have HY := Lib.hid (show f = x from HX.out)
      clear hf
      go_enter Tryz.func10, Tryz.ntmps10
      go_wp2_with fail
      refine HM.out.mono ?_; rintro e w1 ⟨v, rfl, o1, b1⟩
      obtain ⟨va, vc, rfl, -⟩ := o1.view
      have B1 := Lib.hid b1; clear b1 o1
      go_wp2_with fail
      go_ret
      exact ⟨by rw [← HY.out]; rfl, bel_tr B1.out (bel1 _ _) (Nat.le_refl _)⟩
    · have t3 : (c == 3) = false := beq_eq_false_iff_ne.2 h3
      have HY := Lib.hid (show -1 = x by have := HX.out; unfold stV at this; rw [if_neg h0, if_neg h3] at this; exact this)
      clear hf
      go_enter Tryz.func10, Tryz.ntmps10
      go_wp2_with fail
      refine HM.out.mono ?_; rintro e w1 ⟨v, rfl, o1, b1⟩
      obtain ⟨va, vc, rfl, -⟩ := o1.view
      have B1 := Lib.hid b1; clear b1 o1
      go_wp2_with fail
      go_ret
      exact ⟨by rw [← HY.out]; rfl, bel_tr B1.out (bel1 _ _) (Nat.le_refl _)⟩
end Go.Proofs.YtfnnoehpahdgcaaGreatDoor.Cl
namespace Go.Proofs.YtfnnoehpahdgcaaGreatDoor.Cl
set_option linter.unusedVariables false
open Go.RowKit Wd Rp Cu Kp
theorem meB_parts {l : List Tk} {bs : List Bi} {gs : List Int} {f : Int} (h : meB l bs gs f = true) : rcB l = true ∧ okI bs = true ∧ thB gs = true ∧ 0 ≤ f ∧ f ≤ 400 := by
  unfold meB at h
  rw [Bool.and_eq_true, Bool.and_eq_true, Bool.and_eq_true] at h
  obtain ⟨h1, h2, h3, h4⟩ := h
  unfold inB at h4
  rw [Bool.and_eq_true, decide_eq_true_eq, decide_eq_true_eq] at h4
  exact ⟨h1, h2, h3, h4.1, h4.2⟩
theorem end_c {t : Sl} {gs : List Int} {bs : List Bi} {f : Int} : (t.end_ gs bs f).c = (t.run gs ⟨0, bs, f⟩).c := by
  unfold Sl.end_
  split <;> rfl
theorem end_0 {t : Sl} {gs : List Int} {bs : List Bi} {f : Int} (h : (t.run gs ⟨0, bs, f⟩).c = 0) : t.end_ gs bs f = t.run gs ⟨0, bs, f⟩ := if_pos h
theorem meV_good {l : List Tk} {bs : List Bi} {gs : List Int} {f : Int} (h : (meV l bs gs f).c ≠ 5) : meB l bs gs f = true := by
  cases hm : meB l bs gs f with
  | false => rw [meV_no hm] at h; exact absurd rfl h
  | true => rfl
theorem meV_fuel {l : List Tk} {bs : List Bi} {gs : List Int} {f : Int} (h : (meV l bs gs f).c = 0) : 0 ≤ (meV l bs gs f).f ∧ (meV l bs gs f).f ≤ f ∧ f ≤ 400 := by
  have hm := meV_good (l := l) (bs := bs) (gs := gs) (f := f) (by rw [h]; decide)
  obtain ⟨h1, h2, h3, h4, h5⟩ := meB_parts hm
  obtain ⟨t, hw, ht, e⟩ := meB_tree hm
  rw [e] at h ⊢
  rw [end_c] at h
  rw [end_0 h]
  have := Sl.run_fuel gs t ⟨0, bs, f⟩ h4
  exact ⟨this.1, this.2, h5⟩
theorem meV_wrap {l : List Tk} {bs : List Bi} {gs : List Int} {f : Int} (h : (meV l bs gs f).c = 0) : IntKind.i64.wrap (f - (meV l bs gs f).f) = f - (meV l bs gs f).f := by
  have := meV_fuel h
  rw [IntKind.wrap_i64]; omega
end Go.Proofs.YtfnnoehpahdgcaaGreatDoor.Cl
namespace Go.Proofs.YtfnnoehpahdgcaaGreatDoor.Cl
set_option linter.unusedVariables false
open Go.RowKit Wd Rp Kp
theorem Tri.grown {q : Nat} {x y z : Value} {w w' : World} {row : Option Nat} (h : Tri q x y z w) (hg : w.grownBy w' row) (hne : row ≠ some q) : Tri q x y z w' := by
  have e := hg.block q h.2.2 (fun e => hne e.symm)
  obtain ⟨⟨h0, h1, h2⟩, ⟨f0, f1, f2⟩, hl⟩ := h
  exact ⟨⟨(World.cell?_of_block (w := w) e).trans h0, (World.cell?_of_block (w := w) e).trans h1, (World.cell?_of_block (w := w) e).trans h2⟩, ⟨(World.frozen?_of_block (w := w) e).trans f0, (World.frozen?_of_block (w := w) e).trans f1, (World.frozen?_of_block (w := w) e).trans f2⟩, Nat.lt_of_lt_of_le hl hg.size⟩
end Go.Proofs.YtfnnoehpahdgcaaGreatDoor.Cl
namespace Go.Proofs.YtfnnoehpahdgcaaGreatDoor.Cl
set_option linter.unusedVariables false
open Go.RowKit Wd Rp Kp
theorem O1.own {T : TypeId} {B : Nat} {w : World} {v : Value} {l : List Value} (h : O1 T B w v l) : ∃ a cap, v = .slice a l.length cap ∧ (∀ k, k < l.length → ∃ g, a = some ⟨g, 0, none⟩ ∧ g < w.heap.size) := by
  rcases h.2 with ⟨rfl, hn⟩ | ⟨g, cap, cur, rfl, hB, hg, hn, hc, -⟩
  · exact ⟨none, 0, by rw [hn], fun k hk => by omega⟩
  · exact ⟨_, cap, rfl, fun k _ => ⟨g, rfl, (Array.getElem?_eq_some_iff.1 hg).1⟩⟩
end Go.Proofs.YtfnnoehpahdgcaaGreatDoor.Cl
namespace Go.Proofs.YtfnnoehpahdgcaaGreatDoor.Nx
set_option linter.unusedVariables false
open Go.RowKit Wd Rp Kp
def OwT (B : Nat) (w : World) (v : Value) (l : List (List UInt8)) : Prop := w.ownsRow B 9 1 v l.length (l.map fun p => .string (tx p))
theorem row_below {B : Nat} {e : TypeId} {k : Nat} {v : Value} {n : Nat} {xs : List Value} {w w' : World} (h : w.ownsRow B e k v n xs) (hb : Below w.heap.size w w') : w'.ownsRow B e k v n xs := by
  obtain ⟨h1, h2⟩ := h
  refine ⟨h1, ?_⟩
  rcases h2 with h2 | ⟨g, cap, cur, hv, hB, hg, h3⟩
  · exact .inl h2
  · exact .inr ⟨g, cap, cur, hv, hB, (hb.block g (Array.getElem?_eq_some_iff.1 hg).1).trans hg, h3⟩
theorem OwT.next {B : Nat} {w w' : World} {v : Value} {l : List (List UInt8)} (h : OwT B w v l) (hb : Below w.heap.size w w') : OwT B w' v l := row_below h hb
theorem OwT.mono {B C : Nat} {w : World} {v : Value} {l : List (List UInt8)} (h : OwT B w v l) (hC : C ≤ B) : OwT C w v l := by
  obtain ⟨h1, h2⟩ := h
  refine ⟨h1, ?_⟩
  rcases h2 with h2 | ⟨g, cap, cur, hv, hB, h3⟩
  · exact .inl h2
  · exact .inr ⟨g, cap, cur, hv, Nat.le_trans hC hB, h3⟩
theorem OwT.form {B : Nat} {w : World} {v : Value} {l : List (List UInt8)} (h : OwT B w v l) : ∃ a cap, v = .slice a l.length cap ∧
    ∀ k, k < l.length → ∃ g x, a = some ⟨g, 0, none⟩ ∧ B ≤ g ∧ g < w.heap.size ∧ l[k]? = some x ∧ w.cell? ⟨g, k, none⟩ = some (.string (tx x)) ∧ w.frozen? ⟨g, k, none⟩ = false := by
  obtain ⟨h1, h2⟩ := h
  rcases h2 with ⟨rfl, hn⟩ | ⟨g, cap, cur, rfl, hB, hg, hn, hc, hsz, hxs⟩
  · exact ⟨none, 0, by rw [hn], fun k hk => by omega⟩
  · refine ⟨_, cap, rfl, fun k hk => ⟨g, l[k], rfl, hB, (Array.getElem?_eq_some_iff.1 hg).1, List.getElem?_eq_getElem hk, ?_, by simp [World.frozen?, hg]⟩⟩
    have e1 : (l.map fun p => Value.string (tx p))[k]? = some (.string (tx l[k])) := by rw [List.getElem?_map, List.getElem?_eq_getElem hk]; rfl
    rw [← hxs, List.getElem?_take_of_lt (by omega)] at e1
    simpa [World.cell?, hg] using e1
theorem OwT.set {B : Nat} {w : World} {g n cap : Nat} {m : List (List UInt8)} (h : OwT B w (.slice (some ⟨g, 0, none⟩) n cap) m) (hn : n = m.length) (j : Nat) (x : List UInt8) : OwT B (w.setCell ⟨g, j, none⟩ (.string (tx x))) (.slice (some ⟨g, 0, none⟩) n cap) (m.set j x) := by
  subst hn
  have := World.ownsRow.stored h j (.string (tx x))
  unfold OwT
  rw [List.length_set, List.map_set]; exact this.1
end Go.Proofs.YtfnnoehpahdgcaaGreatDoor.Nx
namespace Go.Proofs.YtfnnoehpahdgcaaGreatDoor.Nx
set_option linter.unusedVariables false
open Go.RowKit Wd Rp Kp
end Go.Proofs.YtfnnoehpahdgcaaGreatDoor.Nx
namespace Go.Proofs.YtfnnoehpahdgcaaGreatDoor.Fr
set_option linter.unusedVariables false
open Go.ChangeShapes Go.WideShapes Go.ChangeAt Go.RowKit Go.Joins Go.Deep
open Go.ChangeMaps (open_string shut_string)
theorem cStrT : Tryz.prog.cellsOf 9 = 1 := by kernel_rfl
theorem cIntT : Tryz.prog.cellsOf 2 = 1 := by kernel_rfl
set_option maxRecDepth 100000 in
theorem openTexts {H : Type} {enc : TypeId × Value → H} {W : World} {base : Nat} {v : Value} {d : DataW H} {p : List MemPlace} (hv : Value.okWide Tryz.prog W .any base 24 v)
    (h : DataW.Trod enc Tryz.prog W 0 (fun _ => true) true 24 v d p) :
    ∃ (a : Option Addr) (cap : Nat) (l : List Cl.Tk), v = .slice a l.length cap ∧ Cl.V1 W a cap (Cl.txL l) ∧ ∀ s ∈ l, s.length ≤ maxLen := by
  obtain ⟨a0, len0, cap0, rfl⟩ := okWide_slice Tryz.underlying24 hv
  obtain ⟨fuel, hf⟩ := h
  rcases open_slice Tryz.underlying24 hf with ⟨hcs, _⟩ | ⟨x, len, cap, m, n, D, Pl, hcs, -, hle, hm, hmm, -, hi⟩
  · simp [Value.cells] at hcs
    obtain ⟨rfl, rfl, rfl⟩ := hcs
    exact ⟨none, 0, [], rfl, ⟨Nat.le_refl _, by decide, fun _ => rfl, fun k c hk => by simp [Cl.txL] at hk⟩, fun c hc => by cases hc⟩
  · simp [Value.cells] at hcs
    obtain ⟨rfl, rfl, rfl⟩ := hcs
    rw [if_pos rfl] at hmm
    subst hmm
    rw [cStrT] at hi
    have hone : ∀ i, i < len0 → ∃ c : Cl.Tk, (∃ g o, x = ⟨g, o, none⟩ ∧ g < W.heap.size ∧ W.cell? ⟨g, o + i, none⟩ = some (.string (Kp.tx c))) ∧ c.length ≤ maxLen := by
      intro i hil
      obtain ⟨cs, hc, ht⟩ := hi i (by omega)
      obtain ⟨s, rfl, -, h1⟩ := DataW.trod_string Tryz.underlying9 ht
      obtain ⟨_, hcl, hat⟩ := World.cells?_some hc
      obtain ⟨xb, xo, xs⟩ := x
      have hspot : xs = none := by
        obtain ⟨cs0, hc0, ht0⟩ := hi 0 (by omega)
        obtain ⟨s0, rfl, -⟩ := DataW.trod_string Tryz.underlying9 ht0
        have z0 := (World.cells?_some hc0).2.2 0 (by decide)
        simpa [Addr.add] using World.cell?_spot z0
      subst hspot
      have a0 := hat 0 (by decide)
      have hadd : (Addr.add ⟨xb, xo, none⟩ (i * 1)).add 0 = ⟨xb, xo + i, none⟩ := by cases i <;> simp [Addr.add]
      rw [hadd] at a0
      have hlt := Lib.lt_of_cell a0
      refine ⟨s.data.toList, ⟨xb, xo, rfl, hlt, ?_⟩, by rw [Kp.llen]; exact h1⟩
      rw [Kp.tx_of]; exact a0
    obtain ⟨F, hF⟩ := choose_lt hone
    refine ⟨some x, _, (List.range len0).map F, by rw [List.length_map, List.length_range], ⟨by rw [Cl.txL_len, List.length_map, List.length_range]; exact hle, hm, (fun e => by cases e), fun k c hk => ?_⟩, fun c hc => ?_⟩
    · unfold Cl.txL at hk
      have hkl : k < len0 := by have := (List.getElem?_eq_some_iff.1 hk).1; simpa using this
      rw [List.getElem?_map, List.getElem?_map, List.getElem?_range hkl] at hk
      obtain rfl : Cl.tv (F k) = c := by simpa using hk
      obtain ⟨⟨g, o, rfl, hg, h5⟩, -⟩ := hF k hkl
      exact ⟨g, o, rfl, hg, h5⟩
    · rw [List.mem_map] at hc
      obtain ⟨k, hk, rfl⟩ := hc
      exact (hF k (by simpa using hk)).2
set_option maxRecDepth 100000 in
theorem openInts {H : Type} {enc : TypeId × Value → H} {W : World} {base : Nat} {v : Value} {d : DataW H} {p : List MemPlace} (hv : Value.okWide Tryz.prog W .any base 26 v)
    (h : DataW.Trod enc Tryz.prog W 0 (fun _ => true) true 26 v d p) :
    ∃ (a : Option Addr) (cap : Nat) (l : List Int), v = .slice a l.length cap ∧ Cl.V1 W a cap (Cl.inL l) ∧ ∀ s ∈ l, Wd.I64 s := by
  obtain ⟨a0, len0, cap0, rfl⟩ := okWide_slice Tryz.underlying26 hv
  obtain ⟨fuel, hf⟩ := h
  rcases open_slice Tryz.underlying26 hf with ⟨hcs, _⟩ | ⟨x, len, cap, m, n, D, Pl, hcs, -, hle, hm, hmm, -, hi⟩
  · simp [Value.cells] at hcs
    obtain ⟨rfl, rfl, rfl⟩ := hcs
    exact ⟨none, 0, [], rfl, ⟨Nat.le_refl _, by decide, fun _ => rfl, fun k c hk => by simp [Cl.inL] at hk⟩, fun c hc => by cases hc⟩
  · simp [Value.cells] at hcs
    obtain ⟨rfl, rfl, rfl⟩ := hcs
    rw [if_pos rfl] at hmm
    subst hmm
    rw [cIntT] at hi
    have hone : ∀ i, i < len0 → ∃ c : Int, (∃ g o, x = ⟨g, o, none⟩ ∧ g < W.heap.size ∧ W.cell? ⟨g, o + i, none⟩ = some (.int .i64 c)) ∧ Wd.I64 c := by
      intro i hil
      obtain ⟨cs, hc, ht⟩ := hi i (by omega)
      obtain ⟨s, rfl, -, h1⟩ := DataW.trod_int Tryz.underlying2 ht
      obtain ⟨_, hcl, hat⟩ := World.cells?_some hc
      obtain ⟨xb, xo, xs⟩ := x
      have hspot : xs = none := by
        obtain ⟨cs0, hc0, ht0⟩ := hi 0 (by omega)
        obtain ⟨s0, rfl, -⟩ := DataW.trod_int Tryz.underlying2 ht0
        have z0 := (World.cells?_some hc0).2.2 0 (by decide)
        simpa [Addr.add] using World.cell?_spot z0
      subst hspot
      have a0 := hat 0 (by decide)
      have hadd : (Addr.add ⟨xb, xo, none⟩ (i * 1)).add 0 = ⟨xb, xo + i, none⟩ := by cases i <;> simp [Addr.add]
      rw [hadd] at a0
      have hlt := Lib.lt_of_cell a0
      exact ⟨s, ⟨xb, xo, rfl, hlt, a0⟩, Wd.i64_of_wf h1⟩
    obtain ⟨F, hF⟩ := choose_lt hone
    refine ⟨some x, _, (List.range len0).map F, by rw [List.length_map, List.length_range], ⟨by rw [Cl.inL_len, List.length_map, List.length_range]; exact hle, hm, (fun e => by cases e), fun k c hk => ?_⟩, fun c hc => ?_⟩
    · unfold Cl.inL at hk
      have hkl : k < len0 := by have := (List.getElem?_eq_some_iff.1 hk).1; simpa using this
      rw [List.getElem?_map, List.getElem?_map, List.getElem?_range hkl] at hk
      obtain rfl : Cl.iv (F k) = c := by simpa using hk
      obtain ⟨⟨g, o, rfl, hg, h5⟩, -⟩ := hF k hkl
      exact ⟨g, o, rfl, hg, h5⟩
    · rw [List.mem_map] at hc
      obtain ⟨k, hk, rfl⟩ := hc
      exact (hF k (by simpa using hk)).2
end Go.Proofs.YtfnnoehpahdgcaaGreatDoor.Fr
namespace Go.Proofs.YtfnnoehpahdgcaaGreatDoor.Fr
set_option linter.unusedVariables false
open Go.ChangeShapes Go.WideShapes Go.ChangeAt Go.RowKit Go.Joins Go.Deep
open Go.ChangeMaps (open_string shut_string)
theorem cBin : Tryz.prog.cellsOf 78 = 2 := by kernel_rfl
theorem cStrI : Tryz.prog.cellsOf 9 = 1 := by kernel_rfl
theorem cIntI : Tryz.prog.cellsOf 2 = 1 := by kernel_rfl
set_option maxRecDepth 100000 in
theorem binCells {H : Type} {enc : TypeId × Value → H} {W : World} {fuel : Nat} {cs : List Value} {x : DataW H × List MemPlace}
    (h : DataW.trod enc Tryz.prog W 0 (fun _ => true) true fuel 78 cs = some x) :
    ∃ (s : ByteArray) (v : Int), cs = [.string s, .int .i64 v] ∧ s.size ≤ maxLen ∧ Wd.I64 v := by
  obtain ⟨ys, n', hn', hy, hlen, hyl, hf⟩ := DataW.trod_struct Tryz.underlying78 h
  rw [cBin] at hlen
  match cs, hlen with
  | [c0, c1], _ =>
    match ys, hyl with
    | [y0, y1], _ =>
      have f0 : DataW.trod enc Tryz.prog W 0 (fun _ => true) true n' 9 (List.take (Tryz.prog.cellsOf 9) (List.drop 0 [c0, c1])) = some y0 := hf 0 _ rfl
      have f1 : DataW.trod enc Tryz.prog W 0 (fun _ => true) true n' 2 (List.take (Tryz.prog.cellsOf 2) (List.drop 1 [c0, c1])) = some y1 := hf 1 _ rfl
      rw [cStrI] at f0
      rw [cIntI] at f1
      obtain ⟨s, e0, -, hs⟩ := DataW.trod_string Tryz.underlying9 (x := y0) f0
      obtain ⟨v, e1, -, hv⟩ := DataW.trod_int Tryz.underlying2 (x := y1) f1
      simp at e0 e1
      subst e0 e1
      exact ⟨s, v, rfl, hs, Wd.i64_of_wf hv⟩
set_option maxRecDepth 100000 in
theorem openBins {H : Type} {enc : TypeId × Value → H} {W : World} {base : Nat} {v : Value} {d : DataW H} {p : List MemPlace} (hv : Value.okWide Tryz.prog W .any base 49 v)
    (h : DataW.Trod enc Tryz.prog W 0 (fun _ => true) true 49 v d p) :
    ∃ (a : Option Addr) (cap : Nat) (l : List Cl.Bi), v = .slice a l.length cap ∧ Cl.VwI W a cap l ∧ ∀ c ∈ l, c.n.size ≤ maxLen := by
  obtain ⟨a0, len0, cap0, rfl⟩ := okWide_slice Tryz.underlying49 hv
  obtain ⟨fuel, hf⟩ := h
  rcases open_slice Tryz.underlying49 hf with ⟨hcs, _⟩ | ⟨x, len, cap, m, n, D, Pl, hcs, -, hle, hm, hmm, -, hi⟩
  · simp [Value.cells] at hcs
    obtain ⟨rfl, rfl, rfl⟩ := hcs
    exact ⟨none, 0, [], rfl, ⟨Nat.le_refl _, by decide, fun _ => rfl, fun k c hk => by simp at hk⟩, fun c hc => by cases hc⟩
  · simp [Value.cells] at hcs
    obtain ⟨rfl, rfl, rfl⟩ := hcs
    rw [if_pos rfl] at hmm
    subst hmm
    rw [cBin] at hi
    have hone : ∀ i, i < len0 → ∃ c : Cl.Bi, (∃ g o, x = ⟨g, o, none⟩ ∧ g < W.heap.size ∧ Cl.At2 W g (o + i * 2) c) ∧ c.n.size ≤ maxLen := by
      intro i hil
      obtain ⟨cs, hc, ht⟩ := hi i (by omega)
      obtain ⟨s, u, rfl, h1, -⟩ := binCells ht
      obtain ⟨_, hcl, hat⟩ := World.cells?_some hc
      obtain ⟨xb, xo, xs⟩ := x
      have hspot : xs = none := by
        obtain ⟨cs0, hc0, ht0⟩ := hi 0 (by omega)
        obtain ⟨s0, u0, rfl, -⟩ := binCells ht0
        have z0 := (World.cells?_some hc0).2.2 0 (by decide)
        simpa [Addr.add] using World.cell?_spot z0
      subst hspot
      have a0 := hat 0 (by decide)
      have hadd : ∀ k, (Addr.add ⟨xb, xo, none⟩ (i * 2)).add k = ⟨xb, xo + i * 2 + k, none⟩ := fun k => by rw [Go.Deep.add_add]; simp [Addr.add, Nat.add_assoc]
      have hlt := Lib.lt_of_cell a0
      refine ⟨⟨s, u⟩, ⟨xb, xo, rfl, by rw [hadd] at hlt; exact hlt, ?_⟩, h1⟩
      have a1 := hat 1 (by decide)
      rw [hadd] at a0 a1
      exact ⟨a0, a1⟩
    obtain ⟨F, hF⟩ := choose_lt hone
    refine ⟨some x, _, (List.range len0).map F, by rw [List.length_map, List.length_range], ⟨by simpa using hle, hm, (fun e => by cases e), fun k c hk => ?_⟩, fun c hc => ?_⟩
    · have hkl : k < len0 := by have := (List.getElem?_eq_some_iff.1 hk).1; simpa using this
      rw [List.getElem?_map, List.getElem?_range hkl] at hk
      obtain rfl : F k = c := by simpa using hk
      obtain ⟨⟨g, o, rfl, hg, h5⟩, -⟩ := hF k hkl
      exact ⟨g, o, rfl, hg, h5⟩
    · rw [List.mem_map] at hc
      obtain ⟨k, hk, rfl⟩ := hc
      exact (hF k (by simpa using hk)).2
end Go.Proofs.YtfnnoehpahdgcaaGreatDoor.Fr
