/-
  laws.likeBarn: stores that are alike. (Made by gen_ee.py.)
-/
import Derived.Test.YtcloejmakjdgcaaBa
import Derived.Test.YtcloejmakjdgcaaDf
namespace Go.Proofs.Ytcloejmakjdgcaa.Cl
open Go.RowKit Wd Rp Kp Ra
set_option linter.unusedVariables false
set_option maxRecDepth 100000 in
set_option maxHeartbeats 4000000 in
theorem likeBarn_same (w : World) (a a' sa sa' : Option Addr) (c c' sc sc' n sn : Nat) (h : List Cel) (hs hs' : List Hd) (ss : List (List Cel)) (hn : h.length = n) (hsn : ss.length = sn) (hv : Vw w a c h) (hv' : Vw w a' c' h) (hvs : VwS w sa sc hs ss) (hvs' : VwS w sa' sc' hs' ss) (hlow : Low h ss) :
    Calls Try.prog 30 #[.agg #[.slice a n c, .slice sa sn sc], .agg #[.slice a' n c', .slice sa' sn sc']] w fun e w' => e = .returned (.bool true) ∧ Below w.heap.size w w' := by
  have hn1 : n ≤ 1048576 := by rw [← hn]; exact hlow.1
  have hsn1 : sn ≤ 1048576 := by rw [← hsn]; exact hlow.2.1
  have HLL := Lib.hid hlow.2.2; clear hlow
  have HV := Lib.hid (And.intro hv hv'); clear hv hv'
  have HVS := Lib.hid hvs; clear hvs
  have HUS := Lib.hid hvs'; clear hvs'
  have HN := Lib.hid hsn; clear hsn
  have H0 := Lib.hid (bel2 w (.cells #[.slice a n c, .slice sa sn sc] 38) (.cells #[.slice a' n c', .slice sa' sn sc'] 38))
  have F0 := Lib.hid (Bb.two (.slice a n c) (.slice sa sn sc) (.slice a' n c') (.slice sa' sn sc') w 38 38)
  have HE := Lib.hid (like_same _ a a' c c' h n hn (HV.out.1.below H0.out) (HV.out.2.below H0.out) (by omega))
  have q0 : ((sn : Int) != (sn : Int)) = false := by simp
  go_enter Try.func30, Try.ntmps30
  go_wp2_with fail
  refine HE.out.mono ?_; rintro e w1 ⟨rfl, b1⟩
  have B1 := Lib.hid (bel_tr H0.out b1 (Nat.le_refl _))
  have F1 := Lib.hid (And.intro (F0.out.1.next b1) (F0.out.2.next b1)); clear b1 F0 HE
  obtain ⟨x0, x1, -, -, -⟩ := id F1.out.1
  obtain ⟨y0, y1, -, -, -⟩ := id F1.out.2
  go_wp2_with fail
  clear x0 x1 y0 y1
  go_loopw [5] (fun i wr => ∃ k : Nat, k ≤ sn ∧ i = .int .i64 k ∧ Bb w.heap.size (.slice a n c) (.slice sa sn sc) wr ∧ Bb (w.heap.size + 1) (.slice a' n c') (.slice sa' sn sc') wr ∧ Below w.heap.size w wr) (fun i _ => sn - intV i)
  case atStart => exact ⟨0, Nat.zero_le _, rfl, F1.out.1, F1.out.2, B1.out⟩
  case round =>
    clear F1 B1
    obtain ⟨k, hk, rfl, hx, hy, hbel⟩ := hrel
    have HB := Lib.hid hbel; clear hbel
    have HX := Lib.hid hx
    have HY := Lib.hid hy
    obtain ⟨x0, x1, -, -, hp0⟩ := hx
    obtain ⟨y0, y1, -, -, hp1⟩ := hy
    by_cases hlt : k < sn
    · obtain ⟨l, hl⟩ : ∃ l, ss[k]? = some l := ⟨ss[k]'(by rw [HN.out]; exact hlt), List.getElem?_eq_getElem _⟩
      obtain ⟨x, g, o, -, rfl, hg, hc, hvl⟩ := HVS.out.at hl
      obtain ⟨y, g2, o2, -, rfl, hh, hd, hul⟩ := HUS.out.at hl
      have hg' : g < wr.heap.size := Nat.lt_of_lt_of_le hg HB.out.size
      have hh' : g2 < wr.heap.size := Nat.lt_of_lt_of_le hh HB.out.size
      have hc' := (HB.out.cell (p := ⟨g, o + k, none⟩) hg).trans hc
      have hd' := (HB.out.cell (p := ⟨g2, o2 + k, none⟩) hh).trans hd
      have hl2 : l.length ≤ 1048576 := HLL.out l (List.mem_of_getElem? hl)
      obtain ⟨ln, hln⟩ : ∃ ln, l.length = ln := ⟨_, rfl⟩
      have HC := Lib.hid (fun z (hz : Below wr.heap.size wr z) => like_same z x.a y.a x.c y.c l ln hln (hvl.below (bel_tr HB.out hz (Nat.le_refl _))) (hul.below (bel_tr HB.out hz (Nat.le_refl _))) (by omega))
      rw [hln] at hc' hd'
      have HS := Lib.hid (show wr.drew.cell? ⟨w.heap.size, 1, none⟩ = some (.slice (some ⟨g, o, none⟩) sn sc) ∧ wr.drew.cell? ⟨w.heap.size + 1, 1, none⟩ = some (.slice (some ⟨g2, o2, none⟩) sn sc') ∧ wr.drew.cell? ⟨g, o + k, none⟩ = some (.slice x.a ln x.c) ∧ wr.drew.cell? ⟨g2, o2 + k, none⟩ = some (.slice y.a ln y.c) ∧ Below wr.heap.size wr wr.drew from ⟨x1, y1, hc', hd', (Below.refl _ _).drew⟩)
      clear hvl hul hg hh hc hd hc' hd' hl hln hl2
      go_wp2_with fail
      clear x0 x1 y0 y1
      refine wp_region_held_drew (S := fun z => z.cell? ⟨w.heap.size, 1, none⟩ = some (.slice (some ⟨g, o, none⟩) sn sc) ∧ z.cell? ⟨w.heap.size + 1, 1, none⟩ = some (.slice (some ⟨g2, o2, none⟩) sn sc') ∧ z.cell? ⟨g, o + k, none⟩ = some (.slice x.a ln x.c) ∧ z.cell? ⟨g2, o2 + k, none⟩ = some (.slice y.a ln y.c) ∧ Below wr.heap.size wr z) (by kernel_rfl) HS.out (fun hHeld => ?_)
      refine wpAnyH_take (i := 0) (v := ?v0a) rfl (by kernel_rfl) (by kernel_rfl) (by kernel_rfl) (fun _ _ _ h => h) (Or.inl ⟨by rfl, ?hy0a⟩) (by assumption) ?rest0a
      case hy0a => (intro zz hSw; (try dsimp only at hSw); go_simp; (try with_reducible rfl))
      change wpAnyH _ _ _ _ _ _ _ (Act.put _ (some 28) _) _
      simp only [Act.put, List.setIfInBounds_toArray, List.set_cons_zero, List.set_cons_succ]
      refine wpAnyH_take (i := 1) (v := ?v1a) rfl (by kernel_rfl) (by kernel_rfl) (by kernel_rfl) (fun _ _ _ h => h) (Or.inl ⟨by rfl, ?hy1a⟩) (by assumption) ?rest1a
      case hy1a => (intro zz hSw; (try dsimp only at hSw); go_simp; (try with_reducible rfl))
      change wpAnyH _ _ _ _ _ _ _ (Act.put _ (some 29) _) _
      simp only [Act.put, List.setIfInBounds_toArray, List.set_cons_zero, List.set_cons_succ]
      refine wpAnyH_take (i := 2) (v := ?v2a) rfl (by kernel_rfl) (by kernel_rfl) (by kernel_rfl) (fun _ _ _ h => h) (Or.inl ⟨by rfl, ?hy2a⟩) (by assumption) ?rest2a
      case hy2a => (intro zz hSw; (try dsimp only at hSw); go_simp; (try with_reducible rfl))
      change wpAnyH _ _ _ _ _ _ _ (Act.put _ (some 30) _) _
      simp only [Act.put, List.setIfInBounds_toArray, List.set_cons_zero, List.set_cons_succ]
      refine wpAnyH_take (i := 3) (v := ?v3a) rfl (by kernel_rfl) (by kernel_rfl) (by kernel_rfl) (fun _ _ _ h => h) (Or.inl ⟨by rfl, ?hy3a⟩) (by assumption) ?rest3a
      case hy3a => (intro zz hSw; (try dsimp only at hSw); go_simp; (try with_reducible rfl))
      change wpAnyH _ _ _ _ _ _ _ (Act.put _ (some 31) _) _
      simp only [Act.put, List.setIfInBounds_toArray, List.set_cons_zero, List.set_cons_succ]
      refine wpAnyH_take (i := 4) (v := ?v4a) rfl (by kernel_rfl) (by kernel_rfl) (by kernel_rfl) (fun _ _ _ h => h) (Or.inl ⟨by rfl, ?hy4a⟩) (by assumption) ?rest4a
      case hy4a => (intro zz hSw; (try dsimp only at hSw); go_simp; (try with_reducible rfl))
      change wpAnyH _ _ _ _ _ _ _ (Act.put _ (some 32) _) _
      simp only [Act.put, List.setIfInBounds_toArray, List.set_cons_zero, List.set_cons_succ]
      refine wpAnyH_take (i := 5) (v := ?v5a) rfl (by kernel_rfl) (by kernel_rfl) (by kernel_rfl) (fun _ _ _ h => h) (Or.inl ⟨by rfl, ?hy5a⟩) (by assumption) ?rest5a
      case hy5a => (intro zz hSw; (try dsimp only at hSw); go_simp; (try with_reducible rfl))
      change wpAnyH _ _ _ _ _ _ _ (Act.put _ (some 33) _) _
      simp only [Act.put, List.setIfInBounds_toArray, List.set_cons_zero, List.set_cons_succ]
      refine wpAnyH_take (i := 6) (v := ?v6a) rfl (by kernel_rfl) (by kernel_rfl) (by kernel_rfl) (fun _ _ _ h => h) (Or.inl ⟨by rfl, ?hy6a⟩) (by assumption) ?rest6a
      case hy6a => (intro zz hSw; (try dsimp only at hSw); go_simp; (try with_reducible rfl))
      change wpAnyH _ _ _ _ _ _ _ (Act.put _ (some 34) _) _
      simp only [Act.put, List.setIfInBounds_toArray, List.set_cons_zero, List.set_cons_succ]
      refine wpAnyH_take (i := 7) (v := ?v7a) rfl (by kernel_rfl) (by kernel_rfl) (by kernel_rfl) (fun _ _ _ h => h) (Or.inl ⟨by rfl, ?hy7a⟩) (by assumption) ?rest7a
      case hy7a => (intro zz hSw; (try dsimp only at hSw); go_simp; (try with_reducible rfl))
      change wpAnyH _ _ _ _ _ _ _ (Act.put _ (some 35) _) _
      simp only [Act.put, List.setIfInBounds_toArray, List.set_cons_zero, List.set_cons_succ]
      refine wpAnyH_take (i := 8) (v := ?v8a) rfl (by kernel_rfl) (by kernel_rfl) (by kernel_rfl) (fun _ _ _ h => h) (Or.inl ⟨by rfl, ?hy8a⟩) (by assumption) ?rest8a
      case hy8a => (intro zz hSw; (try dsimp only at hSw); go_simp; (try with_reducible rfl))
      change wpAnyH _ _ _ _ _ _ _ (Act.put _ (some 36) _) _
      simp only [Act.put, List.setIfInBounds_toArray, List.set_cons_zero, List.set_cons_succ]
      refine wpAnyH_take (i := 9) (v := ?v9a) rfl (by kernel_rfl) (by kernel_rfl) (by kernel_rfl) (fun _ _ _ h => h) (Or.inl ⟨by rfl, ?hy9a⟩) (by assumption) ?rest9a
      case hy9a => (intro zz hSw; (try dsimp only at hSw); go_simp; (try with_reducible rfl))
      change wpAnyH _ _ _ _ _ _ _ (Act.put _ (some 37) _) _
      simp only [Act.put, List.setIfInBounds_toArray, List.set_cons_zero, List.set_cons_succ]
      refine wpAnyH_ready (rs := [10]) (by kernel_rfl) (by simp) (AllReadyH.cons rfl (fun K hK => ?_) AllReadyH.nil)
      go_simp
      refine (HC.out _ hHeld.2.2.2.2).mono ?_; rintro e w' ⟨rfl, bel⟩
      refine hK.out _ _ (⟨cob bel hHeld.2.2.2.2 hp0 hHeld.1, cob bel hHeld.2.2.2.2 hp1 hHeld.2.1, cob bel hHeld.2.2.2.2 hg' hHeld.2.2.1, cob bel hHeld.2.2.2.2 hh' hHeld.2.2.2.1, bel_tr hHeld.2.2.2.2 bel (Nat.le_refl _)⟩) (fun hHeld => ?_)
      clear hK K bel
      refine wpAnyH_take (i := 11) (v := ?v11a) rfl (by kernel_rfl) (by kernel_rfl) (by kernel_rfl) (fun _ _ _ h => h) (Or.inl ⟨by rfl, ?hy11a⟩) (by assumption) ?rest11a
      case hy11a => (intro zz hSw; (try dsimp only at hSw); go_simp; (try with_reducible rfl))
      change wpAnyH _ _ _ _ _ _ _ (Act.put _ (some 39) _) _
      simp only [Act.put, List.setIfInBounds_toArray, List.set_cons_zero, List.set_cons_succ]
      refine wpAnyH_done (by kernel_rfl) ?_ _
      have b8 := hHeld.2.2.2.2
      have RR := Lib.hid (And.intro (HX.out.next b8) (And.intro (HY.out.next b8) (bel_tr HB.out b8 (Nat.le_refl _)))); clear hHeld HS b8
      go_wp2_with fail
      go_roundw
      case rel => exact ⟨k + 1, by omega, by go_num, RR.out.1, RR.out.2.1, RR.out.2.2⟩
      case measure => simp [intV]; omega
    · obtain rfl : k = sn := by omega
      go_wp2_with fail
      go_ret
      exact ⟨rfl, HB.out⟩
theorem likeB_own {B C : Nat} {hv sv hv' sv' : Value} {h : List Cel} {ss : List (List Cel)} (w : World) (o : OwB B w hv sv h ss) (o' : OwB C w hv' sv' h ss) (hlow : Low h ss) :
    Calls Try.prog 30 #[.agg #[hv, sv], .agg #[hv', sv']] w fun e w' => e = .returned (.bool true) ∧ Below w.heap.size w w' := by
  obtain ⟨a, c, sa, sc, hs, rfl, rfl, h1, h2⟩ := o.view
  obtain ⟨a', c', sa', sc', hs', rfl, rfl, h1', h2'⟩ := o'.view
  exact likeBarn_same w a a' sa sa' c c' sc sc' _ _ h hs hs' ss rfl rfl h1 h1' h2 h2' hlow
theorem likeC_own {B C : Nat} {v v' : Value} {l : List Cel} (w : World) (o : OwC B w v l) (o' : OwC C w v' l) (hl : l.length ≤ 4194304) :
    Calls Try.prog 17 #[v, v'] w fun e w' => e = .returned (.bool true) ∧ Below w.heap.size w w' := by
  obtain ⟨a, c, rfl, h1, -⟩ := o.view
  obtain ⟨a', c', rfl, h1', -⟩ := o'.view
  exact like_same w a a' c c' l _ rfl h1 h1' hl
end Go.Proofs.Ytcloejmakjdgcaa.Cl
