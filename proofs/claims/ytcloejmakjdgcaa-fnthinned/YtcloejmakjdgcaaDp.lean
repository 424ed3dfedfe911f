/-
  The walk of FnThinned at a code that is not too long. (Made by gen_dp.py.)
-/
import Derived.Test.YtcloejmakjdgcaaDo
import Derived.Test.YtcloejmakjdgcaaDf
import Derived.Test.YtcloejmakjdgcaaQc
import Derived.Test.YtcloejmakjdgcaaCs
import Derived.Deep.DeepCutAuto
import Derived.Deep.CutBlock
namespace Go.Proofs.Ytcloejmakjdgcaa.Cl
open Go.RowKit Wd Rp Cu Kp
set_option linter.unusedVariables false
theorem Bc.set5 {w : World} {n T : Nat} {z0 z1 z2 z3 z4 : Value} (h : w.heap[n]? = some (.cells #[z0, z1, z2, z3, z4] T (0, 0))) (r b : ByteArray) (t v : Int) (g : Bool) :
    Bc n r b t v g (((((w.setCell ⟨n, 0, none⟩ (.string r)).setCell ⟨n, 1, none⟩ (.string b)).setCell ⟨n, 2, none⟩ (.int .i64 t)).setCell ⟨n, 3, none⟩ (.int .i64 v)).setCell ⟨n, 4, none⟩ (.bool g)) := by
  obtain ⟨y0, y1, y2, y3, y4, -⟩ := five_of h
  have hn := (Array.getElem?_eq_some_iff.1 h).1
  refine ⟨?_, ?_, ?_, ?_, ?_, by simpa using hn⟩ <;> simp [go_sem, y0, y1, y2, y3, y4]
theorem thinned_impl {l p : List Cel} {k f : Int} {q : Nat} (hp : thP l k f = p) (hq : p.length = q) (w : World) (x : Option Addr) (cx n : Nat) (hn : l.length = n) (hv : Vw w x cx l) (hl : n ≤ 4194304) :
    Calls Try.prog 16 #[.slice x n cx, .int .i64 k, .int .i64 f] w fun e w' => ∃ z cz, e = .returned (.slice z q cz) ∧ Vw w' z cz p ∧ Below w.heap.size w w' := by
  refine (implThinned_any w x cx l n k f hn hv hl).mono ?_
  rintro e w' ⟨v, rfl, o, bb⟩
  rw [hp] at o
  obtain ⟨z, cz, rfl, hv, -⟩ := o.view
  exact ⟨z, cz, by rw [hq], hv, bb⟩
theorem thinned_spec {l p : List Cel} {k f : Int} {q : Nat} (hp : thP l k f = p) (hq : p.length = q) (w : World) (x : Option Addr) (cx n : Nat) (hn : l.length = n) (hv : Vw w x cx l) (hm : ∀ c ∈ l, c.mod) (hl : n ≤ 4194304) :
    Calls Try.prog 18 #[.slice x n cx, .int .i64 k, .int .i64 f] w fun e w' => ∃ z cz, e = .returned (.slice z q cz) ∧ Vw w' z cz p ∧ Below w.heap.size w w' := by
  refine (specThinned_any w x cx l n k f hn hv hm hl).mono ?_
  rintro e w' ⟨v, rfl, o, bb⟩
  rw [hp] at o
  obtain ⟨z, cz, rfl, hv, -⟩ := o.view
  exact ⟨z, cz, by rw [hq], hv, bb⟩
theorem findI {l : List Cel} {K c : Cel} {fb : Bool} (h : findP l K = (c, fb)) (w : World) (a : Option Addr) (cap : Nat) (n : Nat) (hn : l.length = n) (hv : Vw w a cap l) (hl : n ≤ 4194304) :
    Calls Try.prog 21 #[.slice a n cap, .string K.r, .string K.b, .int .i64 K.t] w fun e w' => e = .returned (.tuple #[.agg #[.string c.r, .string c.b, .int .i64 c.t, .int .i64 c.v, .bool c.g], .bool fb]) ∧ Below w.heap.size w w' := by
  have := implFind_any w a cap l K n hn hv hl
  rw [h] at this; exact this
theorem findS {l : List Cel} {K c : Cel} {fb : Bool} (h : findP l K = (c, fb)) (w : World) (a : Option Addr) (cap : Nat) (n : Nat) (hn : l.length = n) (hv : Vw w a cap l) (hm : ∀ c ∈ l, c.mod) (hK : K.mod) (hl : n ≤ 4194304) :
    Calls Try.prog 20 #[.slice a n cap, .string K.r, .string K.b, .int .i64 K.t] w fun e w' => e = .returned (.tuple #[.agg #[.string c.r, .string c.b, .int .i64 c.t, .int .i64 c.v, .bool c.g], .bool fb]) ∧ Below w.heap.size w w' := by
  have := specFind_any w a cap l K n hn hv hm hK hl
  rw [h] at this; exact this
/-- What the two searches give, from the time on. -/
theorem thin_pair {l p : List Cel} {k f : Int} {K : Cel} (hp : thP l k f = p) (h : okL l = true) (h2 : 1 ≤ k ∧ k ≤ 9 ∧ 0 ≤ f ∧ f ≤ 1000000) (hK : keyB K.r.data.toList K.b.data.toList K.t = true) (hf : f ≤ K.t) :
    findP p K = findP l K ∨ ((findP p K).2 = false ∧ (findP l K).2 = true ∧ (findP l K).1.g = true) := by
  rw [thP_yes h h2] at hp
  have hpo : okL p = true := by
    rw [← hp]
    exact okL_of (fun c hc => okL_mem h c ((thin_subl _ _ _).mem hc)) (List.Pairwise.sublist (thin_subl _ _ _) (okL_pair h)) (Nat.le_trans (thin_subl _ _ _).length_le (okLM h))
  rw [findP_yes hpo hK, findP_yes h hK]
  rcases thin_find (l := l) (k := k.toNat) (f := f) (K := K) (okLS h) (by omega) hf with e | ⟨e1, d, e2, e3, -⟩
  · rw [hp] at e; left; unfold findR; rw [e]
  · rw [hp] at e1; right; unfold findR; rw [e1, e2]; exact ⟨rfl, rfl, e3⟩
theorem thin_self {l p : List Cel} {k f : Int} {c : Cel} (hp : thP l k f = p) (h : okL l = true) (h2 : 1 ≤ k ∧ k ≤ 9 ∧ 0 ≤ f ∧ f ≤ 1000000) (hc : c ∈ l) (hf : f < c.t) : findP p c = (c, true) := by
  rw [thP_yes h h2] at hp
  have hpo : okL p = true := by
    rw [← hp]
    exact okL_of (fun c hc => okL_mem h c ((thin_subl _ _ _).mem hc)) (List.Pairwise.sublist (thin_subl _ _ _) (okL_pair h)) (Nat.le_trans (thin_subl _ _ _).length_le (okLM h))
  have hl : findL l c = some c := by
    obtain ⟨i, hi⟩ := List.mem_iff_getElem?.1 hc
    exact find_yes hi (fun m d hm hd => less_hit (sorted h hm hd hi)) (hit_self c)
  rw [findP_yes hpo (ok_key (okL_mem h c hc))]
  rcases thin_find (l := l) (k := k.toNat) (f := f) (K := c) (okLS h) (by omega) (by omega) with e | ⟨e1, d, e2, e3, e4⟩
  · rw [hp] at e; unfold findR; rw [e, hl]
  · rw [hl] at e2; cases e2; omega
theorem thin_ok {l p : List Cel} {k f : Int} (hp : thP l k f = p) (h : okL l = true) (h2 : 1 ≤ k ∧ k ≤ 9 ∧ 0 ≤ f ∧ f ≤ 1000000) : okL p = true ∧ p.length ≤ l.length ∧ thP p k f = p := by
  rw [thP_yes h h2] at hp
  have hpo : okL p = true := by
    rw [← hp]
    exact okL_of (fun c hc => okL_mem h c ((thin_subl _ _ _).mem hc)) (List.Pairwise.sublist (thin_subl _ _ _) (okL_pair h)) (Nat.le_trans (thin_subl _ _ _).length_le (okLM h))
  refine ⟨hpo, by rw [← hp]; exact (thin_subl _ _ _).length_le, ?_⟩
  rw [thP_yes hpo h2, ← hp, thin_again _ _ (okLS h)]
theorem key_time {r b : List UInt8} {t t' : Int} (h : keyB r b t = true) (h0 : 0 ≤ t') (h1 : t' ≤ 1000000) : keyB r b t' = true := by
  unfold keyB at *
  simp only [Bool.and_eq_true] at *
  refine ⟨h.1, h.2.1, ?_⟩
  exact inB_yes ⟨h0, h1⟩
set_option maxHeartbeats 16000000 in
set_option maxRecDepth 100000 in
theorem thinned_small (w : World) (a0 : Option Addr) (len0 cap0 : Nat) (hb : IsBytes w a0 len0) (hl : len0 ≤ 4096) :
    Calls Try.prog 3 #[.slice a0 len0 cap0] w fun e w' => e = .returned (.bool true) ∧ Below w.heap.size w w' := by
  have HB := Lib.hid hb; clear hb
  go_enter Try.func3, Try.ntmps3
  go_wp2_with fail
  refine (big_no w a0 len0 cap0 hl).mono ?_; rintro e wx ⟨rfl, rfl⟩
  go_wp2_with fail
  refine (drawThinned_any w a0 len0 cap0 HB.out hl).mono ?_; rintro e w1 ⟨x, l, k, f, rfl, o1, hl1, hs1, k0, k1, f0, f1, b1⟩
  obtain ⟨a, ca, rfl, v1, -⟩ := o1.view
  have HLM := Lib.hid (show ∀ d ∈ l, d.mod from fun d hd => (hs1 d hd).mod)
  have HA := Lib.hid v1
  have B1 := Lib.hid b1
  clear o1 v1 b1 hs1
  generalize hn : l.length = n at hl1 ⊢
  obtain ⟨p, hp⟩ : ∃ p, thP l k f = p := ⟨_, rfl⟩
  have hp2 : p.length ≤ n := by rw [← hp, ← hn]; exact thP_len l k f
  have HP := Lib.hid hp; clear hp
  generalize hq : p.length = q at hp2
  have HQ := Lib.hid hq; clear hq
  have HN := Lib.hid hn; clear hn
  have j1 : (n : Int) ≤ 260 := by omega
  have j3 : (q : Int) ≤ (n : Int) := by omega
  go_wp2_with fail
  refine (thinned_impl HP.out HQ.out w1 a ca n HN.out HA.out (by omega)).mono ?_; rintro e w2 ⟨xa, xc, rfl, v2, b2⟩
  have HC := Lib.hid v2
  have HA2 := Lib.hid (HA.out.below b2)
  have B2 := Lib.hid (bel_tr B1.out b2 (Nat.le_refl _)); clear v2 b2 HA B1
  go_wp2_with fail
  refine (thinned_spec HP.out HQ.out w2 a ca n HN.out HA2.out HLM.out (by omega)).mono ?_; rintro e w3 ⟨d, cd, rfl, v3, b3⟩
  have HD := Lib.hid v3
  have HC3 := Lib.hid (HC.out.below b3)
  have HA3 := Lib.hid (HA2.out.below b3)
  have B3 := Lib.hid (bel_tr B2.out b3 (Nat.le_refl _)); clear v3 b3 HA2 B2 HC
  go_wp2_with fail
  refine (like_same w3 xa d xc cd p q HQ.out HC3.out HD.out (by omega)).mono ?_; rintro e w4 ⟨rfl, b4⟩
  have HC4 := Lib.hid (HC3.out.below b4)
  have HA4 := Lib.hid (HA3.out.below b4)
  have B4 := Lib.hid (bel_tr B3.out b4 (Nat.le_refl _)); clear b4 HA3 B3 HC3 HD
  cases h1 : okL l
  · have H1 := Lib.hid h1
    have hx : q = 0 := by rw [← HQ.out, ← HP.out, thP_no h1]; rfl
    clear h1
    go_wp2_with fail
    refine (specCells_is H1.out _ a ca n HN.out HA4.out HLM.out (by omega)).mono ?_; rintro e w5 ⟨rfl, b5⟩
    have B5 := Lib.hid (bel_tr B4.out b5 (Nat.le_refl _)); clear b5
    subst hx
    go_wp2_with fail
    go_ret
    exact ⟨rfl, B5.out⟩
  have H1 := Lib.hid h1
  by_cases h2 : ¬ (1 ≤ k ∧ k ≤ 9 ∧ 0 ≤ f ∧ f ≤ 1000000)
  · have hx : q = 0 := by rw [← HQ.out, ← HP.out, thP_bad h2]; rfl
    have hc : k < 1 ∨ (¬ k < 1 ∧ 9 < k) ∨ (¬ k < 1 ∧ ¬ 9 < k ∧ f < 0) := by omega
    clear h1 h2
    subst hx
    rcases hc with q1 | ⟨q1, q2⟩ | ⟨q1, q2, q3⟩
    all_goals
      go_wp2_with fail
      refine (specCells_is H1.out _ a ca n HN.out HA4.out HLM.out (by omega)).mono ?_; rintro e w5 ⟨rfl, b5⟩
      have B5 := Lib.hid (bel_tr B4.out b5 (Nat.le_refl _)); clear b5
      go_wp2_with fail
      go_ret
      exact ⟨rfl, B5.out⟩
  have h3 : 1 ≤ k ∧ k ≤ 9 ∧ 0 ≤ f ∧ f ≤ 1000000 := by omega
  have HOK := Lib.hid (thin_ok HP.out h1 h3)
  have HPAIR := Lib.hid (fun K hK hf => thin_pair (K := K) HP.out h1 h3 hK hf)
  have HSELF := Lib.hid (fun c (hc : c ∈ l) hf => thin_self (c := c) HP.out h1 h3 hc hf)
  have HKEY := Lib.hid (fun c (hc : c ∈ l) => ok_key (okL_mem h1 c hc))
  have q1 : ¬ k < 1 := by omega
  have q2 : ¬ 9 < k := by omega
  have q3 : ¬ f < 0 := by omega
  have q4 : ¬ 1000000 < f := by omega
  clear h1 h2 h3
  go_wp2_with fail
  refine (specCells_is H1.out _ a ca n HN.out HA4.out HLM.out (by omega)).mono ?_; rintro e w5 ⟨rfl, b5⟩
  have B5 := Lib.hid (bel_tr B4.out b5 (Nat.le_refl _))
  have HA5 := Lib.hid (HA4.out.below b5)
  have HC5 := Lib.hid (HC4.out.below b5); clear b5 HA4 HC4 B4
  go_wp2_with fail
  go_loopw [7, 8, 9, 10, 11, 12, 13, 14] (fun s7 _ _ _ _ _ _ _ wr => ∃ i : Nat, s7 = .int .i64 (i : Int) ∧ i ≤ n ∧ Below w5.heap.size w5 wr) (fun s7 _ _ _ _ _ _ _ _ => n - intV s7)
  case atStart => exact ⟨0, rfl, Nat.zero_le _, Below.refl _ _⟩
  case round =>
    obtain ⟨i, rfl, hi, hbx⟩ := hrel
    have BX := Lib.hid hbx; clear hbx
    by_cases hlt : i < n
    · obtain ⟨c, hcl⟩ : ∃ c, l[i]? = some c := ⟨l[i]'(by rw [HN.out]; exact hlt), List.getElem?_eq_getElem _⟩
      obtain ⟨g, o, e1, hg, h5⟩ := HA5.out.2.2.2 i c hcl
      cases e1
      have HCE := Lib.hid h5; clear h5
      have HMEM := Lib.hid (List.mem_of_getElem? hcl); clear hcl
      have HCM := Lib.hid (HLM.out c HMEM.out)
      have i1 : (i : Int) < (n : Int) := by omega
      have i2 : (0 : Int) ≤ (i : Int) := by omega
      go_wp2_with fail
      go_loopw [8, 9, 10, 11, 12] (fun s8 _ _ _ _ wr => ∃ t : Int, s8 = .int .i64 t ∧ f ≤ t ∧ t ≤ f + 24 ∧ Below w5.heap.size w5 wr) (fun s8 _ _ _ _ _ => (f + 24 - intOf s8).toNat)
      case atStart => exact ⟨f, rfl, Int.le_refl _, by omega, BX.out⟩
      case round =>
        clear BX
        obtain ⟨t, rfl, ht0, ht1, hbx⟩ := hrel
        have BX := Lib.hid hbx; clear hbx
        by_cases htt : t < f + 24
        · have e2 : t ≤ 1000000 := by omega
          have HKK := Lib.hid (key_time (HKEY.out c HMEM.out) (show 0 ≤ t by omega) e2)
          obtain ⟨fa, ba, hfa⟩ : ∃ fa ba, findP l ⟨c.r, c.b, t, 0, false⟩ = (fa, ba) := ⟨_, _, rfl⟩
          obtain ⟨fx, bx, hfx⟩ : ∃ fx bx, findP p ⟨c.r, c.b, t, 0, false⟩ = (fx, bx) := ⟨_, _, rfl⟩
          have HDD := Lib.hid (show (fx = fa ∧ bx = ba) ∨ (bx = false ∧ ba = true ∧ fa.g = true) from by
            have := HPAIR.out ⟨c.r, c.b, t, 0, false⟩ HKK.out ht0
            rw [hfa, hfx] at this
            rcases this with e | ⟨e1, e2, e3⟩
            · exact Or.inl ⟨(Prod.mk.inj e).1, (Prod.mk.inj e).2⟩
            · exact Or.inr ⟨e1, e2, e3⟩)
          have HF1 := Lib.hid (fun z (hz : Below wr.heap.size wr z) => findS hfa z (some ⟨g, o, none⟩) ca n HN.out (HA5.out.below (bel_tr BX.out hz (Nat.le_refl _))) HLM.out HCM.out (by omega))
          have HF2 := Lib.hid (fun z (hz : Below w5.heap.size w5 z) => findI hfx z xa xc q HQ.out (HC5.out.below hz) (by omega))
          clear hfa hfx
          have hg' : g < wr.heap.size := Nat.lt_of_lt_of_le hg BX.out.size
          obtain ⟨c0, c1, -, -, -⟩ : At5 wr g (o + i * 5) c := HCE.out.same (BX.out.block g hg)
          go_upto_region 15 with fail
          go_cut [9, 10] (fun sp sb wx => ∃ q, sp = .pointer (some ⟨q, 0, none⟩) ∧ sb = .bool ba ∧ Bc q fa.r fa.b fa.t fa.v fa.g wx ∧ Below wr.heap.size wr wx)
          case first =>
            have SOA := Lib.hid (show ∀ z, Below wr.heap.size wr z → (z.cell? ⟨g, o + i * 5, none⟩ = some (.string c.r) ∧ z.cell? ⟨g, o + i * 5 + 1, none⟩ = some (.string c.b) ∧ Below wr.heap.size wr z) from fun z hz => ⟨coc hz hg' c0, coc hz hg' c1,  hz⟩)
            clear c0 c1
            refine wp_region_held_drew (S := fun z => z.cell? ⟨g, o + i * 5, none⟩ = some (.string c.r) ∧ z.cell? ⟨g, o + i * 5 + 1, none⟩ = some (.string c.b) ∧ Below wr.heap.size wr z) (by kernel_rfl) (SOA.out _ (Below.refl _ _).drew) (fun hHeld => ?_)
            refine wpAnyH_take (i := 0) (v := ?v0A) rfl (by kernel_rfl) (by kernel_rfl) (by kernel_rfl) (fun _ _ _ h => h) (Or.inl ⟨by rfl, ?hy0A⟩) (by assumption) ?rest0A
            case hy0A => (intro zz hSw; (try dsimp only at hSw); go_simp; (try with_reducible rfl))
            change wpAnyH _ _ _ _ _ _ _ (Act.put _ (some 74) _) _
            simp only [Act.put, List.setIfInBounds_toArray, List.set_cons_zero, List.set_cons_succ]
            refine wpAnyH_take (i := 1) (v := ?v1A) rfl (by kernel_rfl) (by kernel_rfl) (by kernel_rfl) (fun _ _ _ h => h) (Or.inl ⟨by rfl, ?hy1A⟩) (by assumption) ?rest1A
            case hy1A => (intro zz hSw; (try dsimp only at hSw); go_simp; (try with_reducible rfl))
            change wpAnyH _ _ _ _ _ _ _ (Act.put _ (some 75) _) _
            simp only [Act.put, List.setIfInBounds_toArray, List.set_cons_zero, List.set_cons_succ]
            refine wpAnyH_take (i := 2) (v := ?v2A) rfl (by kernel_rfl) (by kernel_rfl) (by kernel_rfl) (fun _ _ _ h => h) (Or.inl ⟨by rfl, ?hy2A⟩) (by assumption) ?rest2A
            case hy2A => (intro zz hSw; (try dsimp only at hSw); go_simp; (try with_reducible rfl))
            change wpAnyH _ _ _ _ _ _ _ (Act.put _ (some 76) _) _
            simp only [Act.put, List.setIfInBounds_toArray, List.set_cons_zero, List.set_cons_succ]
            refine wpAnyH_take (i := 3) (v := ?v3A) rfl (by kernel_rfl) (by kernel_rfl) (by kernel_rfl) (fun _ _ _ h => h) (Or.inl ⟨by rfl, ?hy3A⟩) (by assumption) ?rest3A
            case hy3A => (intro zz hSw; (try dsimp only at hSw); go_simp; (try with_reducible rfl))
            change wpAnyH _ _ _ _ _ _ _ (Act.put _ (some 77) _) _
            simp only [Act.put, List.setIfInBounds_toArray, List.set_cons_zero, List.set_cons_succ]
            refine wpAnyH_take (i := 4) (v := ?v4A) rfl (by kernel_rfl) (by kernel_rfl) (by kernel_rfl) (fun _ _ _ h => h) (Or.inl ⟨by rfl, ?hy4A⟩) (by assumption) ?rest4A
            case hy4A => (intro zz hSw; (try dsimp only at hSw); go_simp; (try with_reducible rfl))
            change wpAnyH _ _ _ _ _ _ _ (Act.put _ (some 78) _) _
            simp only [Act.put, List.setIfInBounds_toArray, List.set_cons_zero, List.set_cons_succ]
            refine wpAnyH_take (i := 5) (v := ?v5A) rfl (by kernel_rfl) (by kernel_rfl) (by kernel_rfl) (fun _ _ _ h => h) (Or.inl ⟨by rfl, ?hy5A⟩) (by assumption) ?rest5A
            case hy5A => (intro zz hSw; (try dsimp only at hSw); go_simp; (try with_reducible rfl))
            change wpAnyH _ _ _ _ _ _ _ (Act.put _ (some 79) _) _
            simp only [Act.put, List.setIfInBounds_toArray, List.set_cons_zero, List.set_cons_succ]
            refine wpAnyH_take (i := 6) (v := ?v6A) rfl (by kernel_rfl) (by kernel_rfl) (by kernel_rfl) (fun _ _ _ h => h) (Or.inl ⟨by rfl, ?hy6A⟩) (by assumption) ?rest6A
            case hy6A => (intro zz hSw; (try dsimp only at hSw); go_simp; (try with_reducible rfl))
            change wpAnyH _ _ _ _ _ _ _ (Act.put _ (some 80) _) _
            simp only [Act.put, List.setIfInBounds_toArray, List.set_cons_zero, List.set_cons_succ]
            refine wpAnyH_take (i := 7) (v := ?v7A) rfl (by kernel_rfl) (by kernel_rfl) (by kernel_rfl) (fun _ _ _ h => h) (Or.inl ⟨by rfl, ?hy7A⟩) (by assumption) ?rest7A
            case hy7A => (intro zz hSw; (try dsimp only at hSw); go_simp; (try with_reducible rfl))
            change wpAnyH _ _ _ _ _ _ _ (Act.put _ (some 81) _) _
            simp only [Act.put, List.setIfInBounds_toArray, List.set_cons_zero, List.set_cons_succ]
            refine wpAnyH_take (i := 8) (v := ?v8A) rfl (by kernel_rfl) (by kernel_rfl) (by kernel_rfl) (fun _ _ _ h => h) (Or.inl ⟨by rfl, ?hy8A⟩) (by assumption) ?rest8A
            case hy8A => (intro zz hSw; (try dsimp only at hSw); go_simp; (try with_reducible rfl))
            change wpAnyH _ _ _ _ _ _ _ (Act.put _ (some 82) _) _
            simp only [Act.put, List.setIfInBounds_toArray, List.set_cons_zero, List.set_cons_succ]
            refine wpAnyH_take (i := 9) (v := ?v9A) rfl (by kernel_rfl) (by kernel_rfl) (by kernel_rfl) (fun _ _ _ h => h) (Or.inl ⟨by rfl, ?hy9A⟩) (by assumption) ?rest9A
            case hy9A => (intro zz hSw; (try dsimp only at hSw); go_simp; (try with_reducible rfl))
            change wpAnyH _ _ _ _ _ _ _ (Act.put _ (some 83) _) _
            simp only [Act.put, List.setIfInBounds_toArray, List.set_cons_zero, List.set_cons_succ]
            refine wpAnyH_take (i := 10) (v := ?v10A) rfl (by kernel_rfl) (by kernel_rfl) (by kernel_rfl) (fun _ _ _ h => h) (Or.inl ⟨by rfl, ?hy10A⟩) (by assumption) ?rest10A
            case hy10A => (intro zz hSw; (try dsimp only at hSw); go_simp; (try with_reducible rfl))
            change wpAnyH _ _ _ _ _ _ _ (Act.put _ (some 84) _) _
            simp only [Act.put, List.setIfInBounds_toArray, List.set_cons_zero, List.set_cons_succ]
            refine wpAnyH_take (i := 11) (v := ?v11A) rfl (by kernel_rfl) (by kernel_rfl) (by kernel_rfl) (fun _ _ _ h => h) (Or.inl ⟨by rfl, ?hy11A⟩) (by assumption) ?rest11A
            case hy11A => (intro zz hSw; (try dsimp only at hSw); go_simp; (try with_reducible rfl))
            change wpAnyH _ _ _ _ _ _ _ (Act.put _ (some 85) _) _
            simp only [Act.put, List.setIfInBounds_toArray, List.set_cons_zero, List.set_cons_succ]
            refine wpAnyH_take (i := 12) (v := ?v12A) rfl (by kernel_rfl) (by kernel_rfl) (by kernel_rfl) (fun _ _ _ h => h) (Or.inl ⟨by rfl, ?hy12A⟩) (by assumption) ?rest12A
            case hy12A => (intro zz hSw; (try dsimp only at hSw); go_simp; (try with_reducible rfl))
            change wpAnyH _ _ _ _ _ _ _ (Act.put _ (some 86) _) _
            simp only [Act.put, List.setIfInBounds_toArray, List.set_cons_zero, List.set_cons_succ]
            refine wpAnyH_take (i := 13) (v := ?v13A) rfl (by kernel_rfl) (by kernel_rfl) (by kernel_rfl) (fun _ _ _ h => h) (Or.inl ⟨by rfl, ?hy13A⟩) (by assumption) ?rest13A
            case hy13A => (intro zz hSw; (try dsimp only at hSw); go_simp; (try with_reducible rfl))
            change wpAnyH _ _ _ _ _ _ _ (Act.put _ (some 87) _) _
            simp only [Act.put, List.setIfInBounds_toArray, List.set_cons_zero, List.set_cons_succ]
            refine wpAnyH_ready (rs := [14, 18]) (by kernel_rfl) (by simp) (AllReadyH.cons rfl (fun K hK => ?_) (AllReadyH.cons rfl (fun K hK => ?_) (AllReadyH.nil)))
            · skip
              go_simp
              refine (HF1.out _ hHeld.2.2).mono ?_; rintro _ w7 ⟨rfl, bel⟩
              have BX7 := Lib.hid (bel_tr hHeld.2.2 bel (Nat.le_refl _))
              refine hK.out _ _ (SOA.out _ BX7.out) (fun hHeld => ?_)
              clear hK K bel
              refine wpAnyH_take (i := 15) (v := ?v15Ax) rfl (by kernel_rfl) (by kernel_rfl) (by kernel_rfl) (fun _ _ _ h => h) (Or.inl ⟨by rfl, ?hy15Ax⟩) (by assumption) ?rest15Ax
              case hy15Ax => (intro zz hSw; (try dsimp only at hSw); go_simp; (try with_reducible rfl))
              change wpAnyH _ _ _ _ _ _ _ (Act.put _ (some 73) _) _
              simp only [Act.put, List.setIfInBounds_toArray, List.set_cons_zero, List.set_cons_succ]
              refine wpAnyH_take (i := 16) (v := ?v16Ax) rfl (by kernel_rfl) (by kernel_rfl) (by kernel_rfl) (fun _ _ _ h => h) (Or.inl ⟨by rfl, ?hy16Ax⟩) (by assumption) ?rest16Ax
              case hy16Ax => (intro zz hSw; (try dsimp only at hSw); go_simp; (try with_reducible rfl))
              change wpAnyH _ _ _ _ _ _ _ (Act.put _ (some 89) _) _
              simp only [Act.put, List.setIfInBounds_toArray, List.set_cons_zero, List.set_cons_succ]
              refine wpAnyH_take (i := 17) (v := ?v17Ax) rfl (by kernel_rfl) (by kernel_rfl) (by kernel_rfl) (fun _ _ _ h => h) (Or.inl ⟨by rfl, ?hy17Ax⟩) (by assumption) ?rest17Ax
              case hy17Ax => (intro zz hSw; (try dsimp only at hSw); go_simp; (try with_reducible rfl))
              change wpAnyH _ _ _ _ _ _ _ (Act.put _ (some 90) _) _
              simp only [Act.put, List.setIfInBounds_toArray, List.set_cons_zero, List.set_cons_succ]
              refine wpAnyH_ready (rs := [18]) (by kernel_rfl) (by simp) (AllReadyH.cons rfl (fun K hK => ?_) (AllReadyH.nil))
              go_simp
              refine hK.out _ _ (SOA.out _ (BX7.out.alloc BX7.out.size _)) (fun hHeld => ?_)
              clear hK K
              refine wpAnyH_ready (rs := [19]) (by kernel_rfl) (by simp) (AllReadyH.cons rfl (fun K hK => ?_) (AllReadyH.nil))
              go_simp
              refine hK.out _ _ (SOA.out _ (BX7.out.alloc BX7.out.size _)) (fun hHeld => ?_)
              clear hK K
              refine wpAnyH_take (i := 20) (v := ?v20Ax) rfl (by kernel_rfl) (by kernel_rfl) (by kernel_rfl) (fun _ _ _ h => h) (Or.inl ⟨by rfl, ?hy20Ax⟩) (by assumption) ?rest20Ax
              case hy20Ax => (intro zz hSw; (try dsimp only at hSw); go_simp; (try with_reducible rfl))
              change wpAnyH _ _ _ _ _ _ _ (Act.put _ (some 10) _) _
              simp only [Act.put, List.setIfInBounds_toArray, List.set_cons_zero, List.set_cons_succ]
              refine wpAnyH_done (by kernel_rfl) ?_ _
              go_wp2_with fail
              go_meet
              exact ⟨w7.heap.size, rfl, rfl, Bc.made _ _ _ _ _ w7 _, BX7.out.alloc BX7.out.size _⟩
            · skip
              go_simp
              refine hK.out _ _ (SOA.out _ ((Below.refl _ _).alloc (Nat.le_refl _) _).drew) (fun hHeld => ?_)
              clear hK K
              refine wpAnyH_ready (rs := [14]) (by kernel_rfl) (by simp) (AllReadyH.cons rfl (fun K hK => ?_) (AllReadyH.nil))
              go_simp
              refine (HF1.out _ hHeld.2.2).mono ?_; rintro _ w7 ⟨rfl, bel⟩
              have BX7 := Lib.hid (bel_tr hHeld.2.2 bel (Nat.le_refl _))
              have E7 := Lib.hid ((bel.block wr.heap.size (by simp)).trans (heap_alloc_new wr _))
              refine hK.out _ _ (SOA.out _ BX7.out) (fun hHeld => ?_)
              clear hK K bel
              refine wpAnyH_take (i := 15) (v := ?v15Ay) rfl (by kernel_rfl) (by kernel_rfl) (by kernel_rfl) (fun _ _ _ h => h) (Or.inl ⟨by rfl, ?hy15Ay⟩) (by assumption) ?rest15Ay
              case hy15Ay => (intro zz hSw; (try dsimp only at hSw); go_simp; (try with_reducible rfl))
              change wpAnyH _ _ _ _ _ _ _ (Act.put _ (some 73) _) _
              simp only [Act.put, List.setIfInBounds_toArray, List.set_cons_zero, List.set_cons_succ]
              refine wpAnyH_take (i := 16) (v := ?v16Ay) rfl (by kernel_rfl) (by kernel_rfl) (by kernel_rfl) (fun _ _ _ h => h) (Or.inl ⟨by rfl, ?hy16Ay⟩) (by assumption) ?rest16Ay
              case hy16Ay => (intro zz hSw; (try dsimp only at hSw); go_simp; (try with_reducible rfl))
              change wpAnyH _ _ _ _ _ _ _ (Act.put _ (some 89) _) _
              simp only [Act.put, List.setIfInBounds_toArray, List.set_cons_zero, List.set_cons_succ]
              refine wpAnyH_take (i := 17) (v := ?v17Ay) rfl (by kernel_rfl) (by kernel_rfl) (by kernel_rfl) (fun _ _ _ h => h) (Or.inl ⟨by rfl, ?hy17Ay⟩) (by assumption) ?rest17Ay
              case hy17Ay => (intro zz hSw; (try dsimp only at hSw); go_simp; (try with_reducible rfl))
              change wpAnyH _ _ _ _ _ _ _ (Act.put _ (some 90) _) _
              simp only [Act.put, List.setIfInBounds_toArray, List.set_cons_zero, List.set_cons_succ]
              refine wpAnyH_ready (rs := [19]) (by kernel_rfl) (by simp) (AllReadyH.cons rfl (fun K hK => ?_) (AllReadyH.nil))
              obtain ⟨y0, y1, y2, y3, y4, f0, f1, f2, f3, f4⟩ := five_of E7.out
              have XB := Lib.hid (Bc.set5 E7.out fa.r fa.b fa.t fa.v fa.g)
              have BB := Lib.hid (bel_set5 BX7.out (Nat.le_refl _) (.string fa.r) (.string fa.b) (.int .i64 fa.t) (.int .i64 fa.v) (.bool fa.g))
              generalize hq9 : wr.heap.size = q9 at y0 y1 y2 y3 y4 f0 f1 f2 f3 f4 XB BB ⊢
              go_simp
              subst hq9
              refine hK.out _ _ (SOA.out _ BB.out) (fun hHeld => ?_)
              clear hK K y0 y1 y2 y3 y4 f0 f1 f2 f3 f4
              refine wpAnyH_take (i := 20) (v := ?v20Ay) rfl (by kernel_rfl) (by kernel_rfl) (by kernel_rfl) (fun _ _ _ h => h) (Or.inl ⟨by rfl, ?hy20Ay⟩) (by assumption) ?rest20Ay
              case hy20Ay => (intro zz hSw; (try dsimp only at hSw); go_simp; (try with_reducible rfl))
              change wpAnyH _ _ _ _ _ _ _ (Act.put _ (some 10) _) _
              simp only [Act.put, List.setIfInBounds_toArray, List.set_cons_zero, List.set_cons_succ]
              refine wpAnyH_done (by kernel_rfl) ?_ _
              go_wp2_with fail
              go_meet
              exact ⟨wr.heap.size, rfl, rfl, XB.out, BB.out⟩
          case rest =>
            obtain ⟨qa, rfl, rfl, xaa, baa⟩ := hcut
            obtain ⟨wd, hwd⟩ : ∃ x, x = wc := ⟨_, rfl⟩
            subst hwd
            have BD := Lib.hid (bel_tr BX.out baa (Nat.le_refl _))
            have XA := Lib.hid xaa; clear xaa baa HF1
            have HF2 := Lib.hid (fun z (hz : Below wd.heap.size wd z) => HF2.out z (bel_tr BD.out hz (Nat.le_refl _)))
            have hg' : g < wd.heap.size := Nat.lt_of_lt_of_le hg BD.out.size
            obtain ⟨c0, c1, -, -, -⟩ : At5 wd g (o + i * 5) c := HCE.out.same (BD.out.block g hg)
            go_upto_region 16 with fail
            go_cut [11, 12] (fun sp sb wx => ∃ q, sp = .pointer (some ⟨q, 0, none⟩) ∧ sb = .bool bx ∧ Bc q fx.r fx.b fx.t fx.v fx.g wx ∧ Below wd.heap.size wd wx)
            case first =>
              have SOB := Lib.hid (show ∀ z, Below wd.heap.size wd z → (z.cell? ⟨g, o + i * 5, none⟩ = some (.string c.r) ∧ z.cell? ⟨g, o + i * 5 + 1, none⟩ = some (.string c.b) ∧ Below wd.heap.size wd z) from fun z hz => ⟨coc hz hg' c0, coc hz hg' c1,  hz⟩)
              clear c0 c1
              refine wp_region_held_drew (S := fun z => z.cell? ⟨g, o + i * 5, none⟩ = some (.string c.r) ∧ z.cell? ⟨g, o + i * 5 + 1, none⟩ = some (.string c.b) ∧ Below wd.heap.size wd z) (by kernel_rfl) (SOB.out _ (Below.refl _ _).drew) (fun hHeld => ?_)
              refine wpAnyH_take (i := 0) (v := ?v0B) rfl (by kernel_rfl) (by kernel_rfl) (by kernel_rfl) (fun _ _ _ h => h) (Or.inl ⟨by rfl, ?hy0B⟩) (by assumption) ?rest0B
              case hy0B => (intro zz hSw; (try dsimp only at hSw); go_simp; (try with_reducible rfl))
              change wpAnyH _ _ _ _ _ _ _ (Act.put _ (some 92) _) _
              simp only [Act.put, List.setIfInBounds_toArray, List.set_cons_zero, List.set_cons_succ]
              refine wpAnyH_take (i := 1) (v := ?v1B) rfl (by kernel_rfl) (by kernel_rfl) (by kernel_rfl) (fun _ _ _ h => h) (Or.inl ⟨by rfl, ?hy1B⟩) (by assumption) ?rest1B
              case hy1B => (intro zz hSw; (try dsimp only at hSw); go_simp; (try with_reducible rfl))
              change wpAnyH _ _ _ _ _ _ _ (Act.put _ (some 93) _) _
              simp only [Act.put, List.setIfInBounds_toArray, List.set_cons_zero, List.set_cons_succ]
              refine wpAnyH_take (i := 2) (v := ?v2B) rfl (by kernel_rfl) (by kernel_rfl) (by kernel_rfl) (fun _ _ _ h => h) (Or.inl ⟨by rfl, ?hy2B⟩) (by assumption) ?rest2B
              case hy2B => (intro zz hSw; (try dsimp only at hSw); go_simp; (try with_reducible rfl))
              change wpAnyH _ _ _ _ _ _ _ (Act.put _ (some 94) _) _
              simp only [Act.put, List.setIfInBounds_toArray, List.set_cons_zero, List.set_cons_succ]
              refine wpAnyH_take (i := 3) (v := ?v3B) rfl (by kernel_rfl) (by kernel_rfl) (by kernel_rfl) (fun _ _ _ h => h) (Or.inl ⟨by rfl, ?hy3B⟩) (by assumption) ?rest3B
              case hy3B => (intro zz hSw; (try dsimp only at hSw); go_simp; (try with_reducible rfl))
              change wpAnyH _ _ _ _ _ _ _ (Act.put _ (some 95) _) _
              simp only [Act.put, List.setIfInBounds_toArray, List.set_cons_zero, List.set_cons_succ]
              refine wpAnyH_take (i := 4) (v := ?v4B) rfl (by kernel_rfl) (by kernel_rfl) (by kernel_rfl) (fun _ _ _ h => h) (Or.inl ⟨by rfl, ?hy4B⟩) (by assumption) ?rest4B
              case hy4B => (intro zz hSw; (try dsimp only at hSw); go_simp; (try with_reducible rfl))
              change wpAnyH _ _ _ _ _ _ _ (Act.put _ (some 96) _) _
              simp only [Act.put, List.setIfInBounds_toArray, List.set_cons_zero, List.set_cons_succ]
              refine wpAnyH_take (i := 5) (v := ?v5B) rfl (by kernel_rfl) (by kernel_rfl) (by kernel_rfl) (fun _ _ _ h => h) (Or.inl ⟨by rfl, ?hy5B⟩) (by assumption) ?rest5B
              case hy5B => (intro zz hSw; (try dsimp only at hSw); go_simp; (try with_reducible rfl))
              change wpAnyH _ _ _ _ _ _ _ (Act.put _ (some 97) _) _
              simp only [Act.put, List.setIfInBounds_toArray, List.set_cons_zero, List.set_cons_succ]
              refine wpAnyH_take (i := 6) (v := ?v6B) rfl (by kernel_rfl) (by kernel_rfl) (by kernel_rfl) (fun _ _ _ h => h) (Or.inl ⟨by rfl, ?hy6B⟩) (by assumption) ?rest6B
              case hy6B => (intro zz hSw; (try dsimp only at hSw); go_simp; (try with_reducible rfl))
              change wpAnyH _ _ _ _ _ _ _ (Act.put _ (some 98) _) _
              simp only [Act.put, List.setIfInBounds_toArray, List.set_cons_zero, List.set_cons_succ]
              refine wpAnyH_take (i := 7) (v := ?v7B) rfl (by kernel_rfl) (by kernel_rfl) (by kernel_rfl) (fun _ _ _ h => h) (Or.inl ⟨by rfl, ?hy7B⟩) (by assumption) ?rest7B
              case hy7B => (intro zz hSw; (try dsimp only at hSw); go_simp; (try with_reducible rfl))
              change wpAnyH _ _ _ _ _ _ _ (Act.put _ (some 99) _) _
              simp only [Act.put, List.setIfInBounds_toArray, List.set_cons_zero, List.set_cons_succ]
              refine wpAnyH_take (i := 8) (v := ?v8B) rfl (by kernel_rfl) (by kernel_rfl) (by kernel_rfl) (fun _ _ _ h => h) (Or.inl ⟨by rfl, ?hy8B⟩) (by assumption) ?rest8B
              case hy8B => (intro zz hSw; (try dsimp only at hSw); go_simp; (try with_reducible rfl))
              change wpAnyH _ _ _ _ _ _ _ (Act.put _ (some 100) _) _
              simp only [Act.put, List.setIfInBounds_toArray, List.set_cons_zero, List.set_cons_succ]
              refine wpAnyH_take (i := 9) (v := ?v9B) rfl (by kernel_rfl) (by kernel_rfl) (by kernel_rfl) (fun _ _ _ h => h) (Or.inl ⟨by rfl, ?hy9B⟩) (by assumption) ?rest9B
              case hy9B => (intro zz hSw; (try dsimp only at hSw); go_simp; (try with_reducible rfl))
              change wpAnyH _ _ _ _ _ _ _ (Act.put _ (some 101) _) _
              simp only [Act.put, List.setIfInBounds_toArray, List.set_cons_zero, List.set_cons_succ]
              refine wpAnyH_take (i := 10) (v := ?v10B) rfl (by kernel_rfl) (by kernel_rfl) (by kernel_rfl) (fun _ _ _ h => h) (Or.inl ⟨by rfl, ?hy10B⟩) (by assumption) ?rest10B
              case hy10B => (intro zz hSw; (try dsimp only at hSw); go_simp; (try with_reducible rfl))
              change wpAnyH _ _ _ _ _ _ _ (Act.put _ (some 102) _) _
              simp only [Act.put, List.setIfInBounds_toArray, List.set_cons_zero, List.set_cons_succ]
              refine wpAnyH_take (i := 11) (v := ?v11B) rfl (by kernel_rfl) (by kernel_rfl) (by kernel_rfl) (fun _ _ _ h => h) (Or.inl ⟨by rfl, ?hy11B⟩) (by assumption) ?rest11B
              case hy11B => (intro zz hSw; (try dsimp only at hSw); go_simp; (try with_reducible rfl))
              change wpAnyH _ _ _ _ _ _ _ (Act.put _ (some 103) _) _
              simp only [Act.put, List.setIfInBounds_toArray, List.set_cons_zero, List.set_cons_succ]
              refine wpAnyH_take (i := 12) (v := ?v12B) rfl (by kernel_rfl) (by kernel_rfl) (by kernel_rfl) (fun _ _ _ h => h) (Or.inl ⟨by rfl, ?hy12B⟩) (by assumption) ?rest12B
              case hy12B => (intro zz hSw; (try dsimp only at hSw); go_simp; (try with_reducible rfl))
              change wpAnyH _ _ _ _ _ _ _ (Act.put _ (some 104) _) _
              simp only [Act.put, List.setIfInBounds_toArray, List.set_cons_zero, List.set_cons_succ]
              refine wpAnyH_take (i := 13) (v := ?v13B) rfl (by kernel_rfl) (by kernel_rfl) (by kernel_rfl) (fun _ _ _ h => h) (Or.inl ⟨by rfl, ?hy13B⟩) (by assumption) ?rest13B
              case hy13B => (intro zz hSw; (try dsimp only at hSw); go_simp; (try with_reducible rfl))
              change wpAnyH _ _ _ _ _ _ _ (Act.put _ (some 105) _) _
              simp only [Act.put, List.setIfInBounds_toArray, List.set_cons_zero, List.set_cons_succ]
              refine wpAnyH_ready (rs := [14, 18]) (by kernel_rfl) (by simp) (AllReadyH.cons rfl (fun K hK => ?_) (AllReadyH.cons rfl (fun K hK => ?_) (AllReadyH.nil)))
              · skip
                go_simp
                refine (HF2.out _ hHeld.2.2).mono ?_; rintro _ w7 ⟨rfl, bel⟩
                have BX7 := Lib.hid (bel_tr hHeld.2.2 bel (Nat.le_refl _))
                refine hK.out _ _ (SOB.out _ BX7.out) (fun hHeld => ?_)
                clear hK K bel
                refine wpAnyH_take (i := 15) (v := ?v15Bx) rfl (by kernel_rfl) (by kernel_rfl) (by kernel_rfl) (fun _ _ _ h => h) (Or.inl ⟨by rfl, ?hy15Bx⟩) (by assumption) ?rest15Bx
                case hy15Bx => (intro zz hSw; (try dsimp only at hSw); go_simp; (try with_reducible rfl))
                change wpAnyH _ _ _ _ _ _ _ (Act.put _ (some 91) _) _
                simp only [Act.put, List.setIfInBounds_toArray, List.set_cons_zero, List.set_cons_succ]
                refine wpAnyH_take (i := 16) (v := ?v16Bx) rfl (by kernel_rfl) (by kernel_rfl) (by kernel_rfl) (fun _ _ _ h => h) (Or.inl ⟨by rfl, ?hy16Bx⟩) (by assumption) ?rest16Bx
                case hy16Bx => (intro zz hSw; (try dsimp only at hSw); go_simp; (try with_reducible rfl))
                change wpAnyH _ _ _ _ _ _ _ (Act.put _ (some 107) _) _
                simp only [Act.put, List.setIfInBounds_toArray, List.set_cons_zero, List.set_cons_succ]
                refine wpAnyH_take (i := 17) (v := ?v17Bx) rfl (by kernel_rfl) (by kernel_rfl) (by kernel_rfl) (fun _ _ _ h => h) (Or.inl ⟨by rfl, ?hy17Bx⟩) (by assumption) ?rest17Bx
                case hy17Bx => (intro zz hSw; (try dsimp only at hSw); go_simp; (try with_reducible rfl))
                change wpAnyH _ _ _ _ _ _ _ (Act.put _ (some 108) _) _
                simp only [Act.put, List.setIfInBounds_toArray, List.set_cons_zero, List.set_cons_succ]
                refine wpAnyH_ready (rs := [18]) (by kernel_rfl) (by simp) (AllReadyH.cons rfl (fun K hK => ?_) (AllReadyH.nil))
                go_simp
                refine hK.out _ _ (SOB.out _ (BX7.out.alloc BX7.out.size _)) (fun hHeld => ?_)
                clear hK K
                refine wpAnyH_ready (rs := [19]) (by kernel_rfl) (by simp) (AllReadyH.cons rfl (fun K hK => ?_) (AllReadyH.nil))
                go_simp
                refine hK.out _ _ (SOB.out _ (BX7.out.alloc BX7.out.size _)) (fun hHeld => ?_)
                clear hK K
                refine wpAnyH_take (i := 20) (v := ?v20Bx) rfl (by kernel_rfl) (by kernel_rfl) (by kernel_rfl) (fun _ _ _ h => h) (Or.inl ⟨by rfl, ?hy20Bx⟩) (by assumption) ?rest20Bx
                case hy20Bx => (intro zz hSw; (try dsimp only at hSw); go_simp; (try with_reducible rfl))
                change wpAnyH _ _ _ _ _ _ _ (Act.put _ (some 12) _) _
                simp only [Act.put, List.setIfInBounds_toArray, List.set_cons_zero, List.set_cons_succ]
                refine wpAnyH_done (by kernel_rfl) ?_ _
                go_wp2_with fail
                go_meet
                exact ⟨w7.heap.size, rfl, rfl, Bc.made _ _ _ _ _ w7 _, BX7.out.alloc BX7.out.size _⟩
              · skip
                go_simp
                refine hK.out _ _ (SOB.out _ ((Below.refl _ _).alloc (Nat.le_refl _) _).drew) (fun hHeld => ?_)
                clear hK K
                refine wpAnyH_ready (rs := [14]) (by kernel_rfl) (by simp) (AllReadyH.cons rfl (fun K hK => ?_) (AllReadyH.nil))
                go_simp
                refine (HF2.out _ hHeld.2.2).mono ?_; rintro _ w7 ⟨rfl, bel⟩
                have BX7 := Lib.hid (bel_tr hHeld.2.2 bel (Nat.le_refl _))
                have E7 := Lib.hid ((bel.block wd.heap.size (by simp)).trans (heap_alloc_new wd _))
                refine hK.out _ _ (SOB.out _ BX7.out) (fun hHeld => ?_)
                clear hK K bel
                refine wpAnyH_take (i := 15) (v := ?v15By) rfl (by kernel_rfl) (by kernel_rfl) (by kernel_rfl) (fun _ _ _ h => h) (Or.inl ⟨by rfl, ?hy15By⟩) (by assumption) ?rest15By
                case hy15By => (intro zz hSw; (try dsimp only at hSw); go_simp; (try with_reducible rfl))
                change wpAnyH _ _ _ _ _ _ _ (Act.put _ (some 91) _) _
                simp only [Act.put, List.setIfInBounds_toArray, List.set_cons_zero, List.set_cons_succ]
                refine wpAnyH_take (i := 16) (v := ?v16By) rfl (by kernel_rfl) (by kernel_rfl) (by kernel_rfl) (fun _ _ _ h => h) (Or.inl ⟨by rfl, ?hy16By⟩) (by assumption) ?rest16By
                case hy16By => (intro zz hSw; (try dsimp only at hSw); go_simp; (try with_reducible rfl))
                change wpAnyH _ _ _ _ _ _ _ (Act.put _ (some 107) _) _
                simp only [Act.put, List.setIfInBounds_toArray, List.set_cons_zero, List.set_cons_succ]
                refine wpAnyH_take (i := 17) (v := ?v17By) rfl (by kernel_rfl) (by kernel_rfl) (by kernel_rfl) (fun _ _ _ h => h) (Or.inl ⟨by rfl, ?hy17By⟩) (by assumption) ?rest17By
                case hy17By => (intro zz hSw; (try dsimp only at hSw); go_simp; (try with_reducible rfl))
                change wpAnyH _ _ _ _ _ _ _ (Act.put _ (some 108) _) _
                simp only [Act.put, List.setIfInBounds_toArray, List.set_cons_zero, List.set_cons_succ]
                refine wpAnyH_ready (rs := [19]) (by kernel_rfl) (by simp) (AllReadyH.cons rfl (fun K hK => ?_) (AllReadyH.nil))
                obtain ⟨y0, y1, y2, y3, y4, f0, f1, f2, f3, f4⟩ := five_of E7.out
                have XB := Lib.hid (Bc.set5 E7.out fx.r fx.b fx.t fx.v fx.g)
                have BB := Lib.hid (bel_set5 BX7.out (Nat.le_refl _) (.string fx.r) (.string fx.b) (.int .i64 fx.t) (.int .i64 fx.v) (.bool fx.g))
                generalize hq9 : wd.heap.size = q9 at y0 y1 y2 y3 y4 f0 f1 f2 f3 f4 XB BB ⊢
                go_simp
                subst hq9
                refine hK.out _ _ (SOB.out _ BB.out) (fun hHeld => ?_)
                clear hK K y0 y1 y2 y3 y4 f0 f1 f2 f3 f4
                refine wpAnyH_take (i := 20) (v := ?v20By) rfl (by kernel_rfl) (by kernel_rfl) (by kernel_rfl) (fun _ _ _ h => h) (Or.inl ⟨by rfl, ?hy20By⟩) (by assumption) ?rest20By
                case hy20By => (intro zz hSw; (try dsimp only at hSw); go_simp; (try with_reducible rfl))
                change wpAnyH _ _ _ _ _ _ _ (Act.put _ (some 12) _) _
                simp only [Act.put, List.setIfInBounds_toArray, List.set_cons_zero, List.set_cons_succ]
                refine wpAnyH_done (by kernel_rfl) ?_ _
                go_wp2_with fail
                go_meet
                exact ⟨wd.heap.size, rfl, rfl, XB.out, BB.out⟩
            case rest =>
              obtain ⟨qx, rfl, rfl, xxx, bbb⟩ := hcut
              obtain ⟨we, hwe⟩ : ∃ x, x = wc := ⟨_, rfl⟩
              subst hwe
              have BE := Lib.hid (bel_tr BD.out bbb (Nat.le_refl _))
              obtain ⟨x0, x1, x2, x3, x4, -⟩ := XA.out.next bbb
              obtain ⟨y0, y1, y2, y3, y4, -⟩ := xxx
              clear bbb HF2
              rcases HDD.out with ⟨rfl, rfl⟩ | ⟨rfl, rfl, hga⟩
              · cases bx
                · go_wp2_with fail
                  go_roundw
                  case rel => exact ⟨t + 1, rfl, by omega, by omega, BE.out⟩
                  case measure => simp [intOf]; omega
                · cases hgg : fx.g
                  · rw [hgg] at x4 y4
                    have hce := cell_self fx.r fx.b fx.t fx.v false
                    clear hgg
                    go_wp2_with fail
                    go_roundw
                    case rel => exact ⟨t + 1, rfl, by omega, by omega, BE.out⟩
                    case measure => simp [intOf]; omega
                  · rw [hgg] at x4 y4
                    clear hgg
                    go_wp2_with fail
                    go_roundw
                    case rel => exact ⟨t + 1, rfl, by omega, by omega, BE.out⟩
                    case measure => simp [intOf]; omega
              · rw [hga] at x4
                clear hga
                go_wp2_with fail
                go_roundw
                case rel => exact ⟨t + 1, rfl, by omega, by omega, BE.out⟩
                case measure => simp [intOf]; omega
        · have hg' : g < wr.heap.size := Nat.lt_of_lt_of_le hg BX.out.size
          obtain ⟨c0, c1, c2, c3, c4⟩ : At5 wr g (o + i * 5) c := HCE.out.same (BX.out.block g hg)
          clear c3 c4
          by_cases hft : f < c.t
          · by_cases hi9 : i < 9
            · have i3 : (i : Int) < 9 := by omega
              have HF3 := Lib.hid (fun z (hz : Below wr.heap.size wr z) => findI (HSELF.out c HMEM.out hft) z xa xc q HQ.out (HC5.out.below (bel_tr BX.out hz (Nat.le_refl _))) (by omega))
              go_upto_region 20 with fail
              go_cut [13, 14] (fun sp sb wx => ∃ q, sp = .pointer (some ⟨q, 0, none⟩) ∧ sb = .bool true ∧ Bc q c.r c.b c.t c.v c.g wx ∧ Below wr.heap.size wr wx)
              case first =>
                have SOC := Lib.hid (show ∀ z, Below wr.heap.size wr z → (z.cell? ⟨g, o + i * 5, none⟩ = some (.string c.r) ∧ z.cell? ⟨g, o + i * 5 + 1, none⟩ = some (.string c.b) ∧ z.cell? ⟨g, o + i * 5 + 2, none⟩ = some (.int .i64 c.t) ∧ Below wr.heap.size wr z) from fun z hz => ⟨coc hz hg' c0, coc hz hg' c1, coc hz hg' c2,  hz⟩)
                clear c0 c1 c2
                refine wp_region_held_drew (S := fun z => z.cell? ⟨g, o + i * 5, none⟩ = some (.string c.r) ∧ z.cell? ⟨g, o + i * 5 + 1, none⟩ = some (.string c.b) ∧ z.cell? ⟨g, o + i * 5 + 2, none⟩ = some (.int .i64 c.t) ∧ Below wr.heap.size wr z) (by kernel_rfl) (SOC.out _ (Below.refl _ _).drew) (fun hHeld => ?_)
                refine wpAnyH_take (i := 0) (v := ?v0C) rfl (by kernel_rfl) (by kernel_rfl) (by kernel_rfl) (fun _ _ _ h => h) (Or.inl ⟨by rfl, ?hy0C⟩) (by assumption) ?rest0C
                case hy0C => (intro zz hSw; (try dsimp only at hSw); go_simp; (try with_reducible rfl))
                change wpAnyH _ _ _ _ _ _ _ (Act.put _ (some 148) _) _
                simp only [Act.put, List.setIfInBounds_toArray, List.set_cons_zero, List.set_cons_succ]
                refine wpAnyH_take (i := 1) (v := ?v1C) rfl (by kernel_rfl) (by kernel_rfl) (by kernel_rfl) (fun _ _ _ h => h) (Or.inl ⟨by rfl, ?hy1C⟩) (by assumption) ?rest1C
                case hy1C => (intro zz hSw; (try dsimp only at hSw); go_simp; (try with_reducible rfl))
                change wpAnyH _ _ _ _ _ _ _ (Act.put _ (some 149) _) _
                simp only [Act.put, List.setIfInBounds_toArray, List.set_cons_zero, List.set_cons_succ]
                refine wpAnyH_take (i := 2) (v := ?v2C) rfl (by kernel_rfl) (by kernel_rfl) (by kernel_rfl) (fun _ _ _ h => h) (Or.inl ⟨by rfl, ?hy2C⟩) (by assumption) ?rest2C
                case hy2C => (intro zz hSw; (try dsimp only at hSw); go_simp; (try with_reducible rfl))
                change wpAnyH _ _ _ _ _ _ _ (Act.put _ (some 150) _) _
                simp only [Act.put, List.setIfInBounds_toArray, List.set_cons_zero, List.set_cons_succ]
                refine wpAnyH_take (i := 3) (v := ?v3C) rfl (by kernel_rfl) (by kernel_rfl) (by kernel_rfl) (fun _ _ _ h => h) (Or.inl ⟨by rfl, ?hy3C⟩) (by assumption) ?rest3C
                case hy3C => (intro zz hSw; (try dsimp only at hSw); go_simp; (try with_reducible rfl))
                change wpAnyH _ _ _ _ _ _ _ (Act.put _ (some 151) _) _
                simp only [Act.put, List.setIfInBounds_toArray, List.set_cons_zero, List.set_cons_succ]
                refine wpAnyH_take (i := 4) (v := ?v4C) rfl (by kernel_rfl) (by kernel_rfl) (by kernel_rfl) (fun _ _ _ h => h) (Or.inl ⟨by rfl, ?hy4C⟩) (by assumption) ?rest4C
                case hy4C => (intro zz hSw; (try dsimp only at hSw); go_simp; (try with_reducible rfl))
                change wpAnyH _ _ _ _ _ _ _ (Act.put _ (some 152) _) _
                simp only [Act.put, List.setIfInBounds_toArray, List.set_cons_zero, List.set_cons_succ]
                refine wpAnyH_take (i := 5) (v := ?v5C) rfl (by kernel_rfl) (by kernel_rfl) (by kernel_rfl) (fun _ _ _ h => h) (Or.inl ⟨by rfl, ?hy5C⟩) (by assumption) ?rest5C
                case hy5C => (intro zz hSw; (try dsimp only at hSw); go_simp; (try with_reducible rfl))
                change wpAnyH _ _ _ _ _ _ _ (Act.put _ (some 153) _) _
                simp only [Act.put, List.setIfInBounds_toArray, List.set_cons_zero, List.set_cons_succ]
                refine wpAnyH_take (i := 6) (v := ?v6C) rfl (by kernel_rfl) (by kernel_rfl) (by kernel_rfl) (fun _ _ _ h => h) (Or.inl ⟨by rfl, ?hy6C⟩) (by assumption) ?rest6C
                case hy6C => (intro zz hSw; (try dsimp only at hSw); go_simp; (try with_reducible rfl))
                change wpAnyH _ _ _ _ _ _ _ (Act.put _ (some 154) _) _
                simp only [Act.put, List.setIfInBounds_toArray, List.set_cons_zero, List.set_cons_succ]
                refine wpAnyH_take (i := 7) (v := ?v7C) rfl (by kernel_rfl) (by kernel_rfl) (by kernel_rfl) (fun _ _ _ h => h) (Or.inl ⟨by rfl, ?hy7C⟩) (by assumption) ?rest7C
                case hy7C => (intro zz hSw; (try dsimp only at hSw); go_simp; (try with_reducible rfl))
                change wpAnyH _ _ _ _ _ _ _ (Act.put _ (some 155) _) _
                simp only [Act.put, List.setIfInBounds_toArray, List.set_cons_zero, List.set_cons_succ]
                refine wpAnyH_take (i := 8) (v := ?v8C) rfl (by kernel_rfl) (by kernel_rfl) (by kernel_rfl) (fun _ _ _ h => h) (Or.inl ⟨by rfl, ?hy8C⟩) (by assumption) ?rest8C
                case hy8C => (intro zz hSw; (try dsimp only at hSw); go_simp; (try with_reducible rfl))
                change wpAnyH _ _ _ _ _ _ _ (Act.put _ (some 156) _) _
                simp only [Act.put, List.setIfInBounds_toArray, List.set_cons_zero, List.set_cons_succ]
                refine wpAnyH_take (i := 9) (v := ?v9C) rfl (by kernel_rfl) (by kernel_rfl) (by kernel_rfl) (fun _ _ _ h => h) (Or.inl ⟨by rfl, ?hy9C⟩) (by assumption) ?rest9C
                case hy9C => (intro zz hSw; (try dsimp only at hSw); go_simp; (try with_reducible rfl))
                change wpAnyH _ _ _ _ _ _ _ (Act.put _ (some 157) _) _
                simp only [Act.put, List.setIfInBounds_toArray, List.set_cons_zero, List.set_cons_succ]
                refine wpAnyH_take (i := 10) (v := ?v10C) rfl (by kernel_rfl) (by kernel_rfl) (by kernel_rfl) (fun _ _ _ h => h) (Or.inl ⟨by rfl, ?hy10C⟩) (by assumption) ?rest10C
                case hy10C => (intro zz hSw; (try dsimp only at hSw); go_simp; (try with_reducible rfl))
                change wpAnyH _ _ _ _ _ _ _ (Act.put _ (some 158) _) _
                simp only [Act.put, List.setIfInBounds_toArray, List.set_cons_zero, List.set_cons_succ]
                refine wpAnyH_take (i := 11) (v := ?v11C) rfl (by kernel_rfl) (by kernel_rfl) (by kernel_rfl) (fun _ _ _ h => h) (Or.inl ⟨by rfl, ?hy11C⟩) (by assumption) ?rest11C
                case hy11C => (intro zz hSw; (try dsimp only at hSw); go_simp; (try with_reducible rfl))
                change wpAnyH _ _ _ _ _ _ _ (Act.put _ (some 159) _) _
                simp only [Act.put, List.setIfInBounds_toArray, List.set_cons_zero, List.set_cons_succ]
                refine wpAnyH_take (i := 12) (v := ?v12C) rfl (by kernel_rfl) (by kernel_rfl) (by kernel_rfl) (fun _ _ _ h => h) (Or.inl ⟨by rfl, ?hy12C⟩) (by assumption) ?rest12C
                case hy12C => (intro zz hSw; (try dsimp only at hSw); go_simp; (try with_reducible rfl))
                change wpAnyH _ _ _ _ _ _ _ (Act.put _ (some 160) _) _
                simp only [Act.put, List.setIfInBounds_toArray, List.set_cons_zero, List.set_cons_succ]
                refine wpAnyH_take (i := 13) (v := ?v13C) rfl (by kernel_rfl) (by kernel_rfl) (by kernel_rfl) (fun _ _ _ h => h) (Or.inl ⟨by rfl, ?hy13C⟩) (by assumption) ?rest13C
                case hy13C => (intro zz hSw; (try dsimp only at hSw); go_simp; (try with_reducible rfl))
                change wpAnyH _ _ _ _ _ _ _ (Act.put _ (some 161) _) _
                simp only [Act.put, List.setIfInBounds_toArray, List.set_cons_zero, List.set_cons_succ]
                refine wpAnyH_take (i := 14) (v := ?v14C) rfl (by kernel_rfl) (by kernel_rfl) (by kernel_rfl) (fun _ _ _ h => h) (Or.inl ⟨by rfl, ?hy14C⟩) (by assumption) ?rest14C
                case hy14C => (intro zz hSw; (try dsimp only at hSw); go_simp; (try with_reducible rfl))
                change wpAnyH _ _ _ _ _ _ _ (Act.put _ (some 162) _) _
                simp only [Act.put, List.setIfInBounds_toArray, List.set_cons_zero, List.set_cons_succ]
                refine wpAnyH_take (i := 15) (v := ?v15C) rfl (by kernel_rfl) (by kernel_rfl) (by kernel_rfl) (fun _ _ _ h => h) (Or.inl ⟨by rfl, ?hy15C⟩) (by assumption) ?rest15C
                case hy15C => (intro zz hSw; (try dsimp only at hSw); go_simp; (try with_reducible rfl))
                change wpAnyH _ _ _ _ _ _ _ (Act.put _ (some 163) _) _
                simp only [Act.put, List.setIfInBounds_toArray, List.set_cons_zero, List.set_cons_succ]
                refine wpAnyH_take (i := 16) (v := ?v16C) rfl (by kernel_rfl) (by kernel_rfl) (by kernel_rfl) (fun _ _ _ h => h) (Or.inl ⟨by rfl, ?hy16C⟩) (by assumption) ?rest16C
                case hy16C => (intro zz hSw; (try dsimp only at hSw); go_simp; (try with_reducible rfl))
                change wpAnyH _ _ _ _ _ _ _ (Act.put _ (some 164) _) _
                simp only [Act.put, List.setIfInBounds_toArray, List.set_cons_zero, List.set_cons_succ]
                refine wpAnyH_take (i := 17) (v := ?v17C) rfl (by kernel_rfl) (by kernel_rfl) (by kernel_rfl) (fun _ _ _ h => h) (Or.inl ⟨by rfl, ?hy17C⟩) (by assumption) ?rest17C
                case hy17C => (intro zz hSw; (try dsimp only at hSw); go_simp; (try with_reducible rfl))
                change wpAnyH _ _ _ _ _ _ _ (Act.put _ (some 165) _) _
                simp only [Act.put, List.setIfInBounds_toArray, List.set_cons_zero, List.set_cons_succ]
                refine wpAnyH_take (i := 18) (v := ?v18C) rfl (by kernel_rfl) (by kernel_rfl) (by kernel_rfl) (fun _ _ _ h => h) (Or.inl ⟨by rfl, ?hy18C⟩) (by assumption) ?rest18C
                case hy18C => (intro zz hSw; (try dsimp only at hSw); go_simp; (try with_reducible rfl))
                change wpAnyH _ _ _ _ _ _ _ (Act.put _ (some 166) _) _
                simp only [Act.put, List.setIfInBounds_toArray, List.set_cons_zero, List.set_cons_succ]
                refine wpAnyH_ready (rs := [19, 23]) (by kernel_rfl) (by simp) (AllReadyH.cons rfl (fun K hK => ?_) (AllReadyH.cons rfl (fun K hK => ?_) (AllReadyH.nil)))
                · skip
                  go_simp
                  refine (HF3.out _ hHeld.2.2.2).mono ?_; rintro _ w7 ⟨rfl, bel⟩
                  have BX7 := Lib.hid (bel_tr hHeld.2.2.2 bel (Nat.le_refl _))
                  refine hK.out _ _ (SOC.out _ BX7.out) (fun hHeld => ?_)
                  clear hK K bel
                  refine wpAnyH_take (i := 20) (v := ?v20Cx) rfl (by kernel_rfl) (by kernel_rfl) (by kernel_rfl) (fun _ _ _ h => h) (Or.inl ⟨by rfl, ?hy20Cx⟩) (by assumption) ?rest20Cx
                  case hy20Cx => (intro zz hSw; (try dsimp only at hSw); go_simp; (try with_reducible rfl))
                  change wpAnyH _ _ _ _ _ _ _ (Act.put _ (some 147) _) _
                  simp only [Act.put, List.setIfInBounds_toArray, List.set_cons_zero, List.set_cons_succ]
                  refine wpAnyH_take (i := 21) (v := ?v21Cx) rfl (by kernel_rfl) (by kernel_rfl) (by kernel_rfl) (fun _ _ _ h => h) (Or.inl ⟨by rfl, ?hy21Cx⟩) (by assumption) ?rest21Cx
                  case hy21Cx => (intro zz hSw; (try dsimp only at hSw); go_simp; (try with_reducible rfl))
                  change wpAnyH _ _ _ _ _ _ _ (Act.put _ (some 168) _) _
                  simp only [Act.put, List.setIfInBounds_toArray, List.set_cons_zero, List.set_cons_succ]
                  refine wpAnyH_take (i := 22) (v := ?v22Cx) rfl (by kernel_rfl) (by kernel_rfl) (by kernel_rfl) (fun _ _ _ h => h) (Or.inl ⟨by rfl, ?hy22Cx⟩) (by assumption) ?rest22Cx
                  case hy22Cx => (intro zz hSw; (try dsimp only at hSw); go_simp; (try with_reducible rfl))
                  change wpAnyH _ _ _ _ _ _ _ (Act.put _ (some 169) _) _
                  simp only [Act.put, List.setIfInBounds_toArray, List.set_cons_zero, List.set_cons_succ]
                  refine wpAnyH_ready (rs := [23]) (by kernel_rfl) (by simp) (AllReadyH.cons rfl (fun K hK => ?_) (AllReadyH.nil))
                  go_simp
                  refine hK.out _ _ (SOC.out _ (BX7.out.alloc BX7.out.size _)) (fun hHeld => ?_)
                  clear hK K
                  refine wpAnyH_ready (rs := [24]) (by kernel_rfl) (by simp) (AllReadyH.cons rfl (fun K hK => ?_) (AllReadyH.nil))
                  go_simp
                  refine hK.out _ _ (SOC.out _ (BX7.out.alloc BX7.out.size _)) (fun hHeld => ?_)
                  clear hK K
                  refine wpAnyH_take (i := 25) (v := ?v25Cx) rfl (by kernel_rfl) (by kernel_rfl) (by kernel_rfl) (fun _ _ _ h => h) (Or.inl ⟨by rfl, ?hy25Cx⟩) (by assumption) ?rest25Cx
                  case hy25Cx => (intro zz hSw; (try dsimp only at hSw); go_simp; (try with_reducible rfl))
                  change wpAnyH _ _ _ _ _ _ _ (Act.put _ (some 14) _) _
                  simp only [Act.put, List.setIfInBounds_toArray, List.set_cons_zero, List.set_cons_succ]
                  refine wpAnyH_done (by kernel_rfl) ?_ _
                  go_wp2_with fail
                  go_meet
                  exact ⟨w7.heap.size, rfl, rfl, Bc.made _ _ _ _ _ w7 _, BX7.out.alloc BX7.out.size _⟩
                · skip
                  go_simp
                  refine hK.out _ _ (SOC.out _ ((Below.refl _ _).alloc (Nat.le_refl _) _).drew) (fun hHeld => ?_)
                  clear hK K
                  refine wpAnyH_ready (rs := [19]) (by kernel_rfl) (by simp) (AllReadyH.cons rfl (fun K hK => ?_) (AllReadyH.nil))
                  go_simp
                  refine (HF3.out _ hHeld.2.2.2).mono ?_; rintro _ w7 ⟨rfl, bel⟩
                  have BX7 := Lib.hid (bel_tr hHeld.2.2.2 bel (Nat.le_refl _))
                  have E7 := Lib.hid ((bel.block wr.heap.size (by simp)).trans (heap_alloc_new wr _))
                  refine hK.out _ _ (SOC.out _ BX7.out) (fun hHeld => ?_)
                  clear hK K bel
                  refine wpAnyH_take (i := 20) (v := ?v20Cy) rfl (by kernel_rfl) (by kernel_rfl) (by kernel_rfl) (fun _ _ _ h => h) (Or.inl ⟨by rfl, ?hy20Cy⟩) (by assumption) ?rest20Cy
                  case hy20Cy => (intro zz hSw; (try dsimp only at hSw); go_simp; (try with_reducible rfl))
                  change wpAnyH _ _ _ _ _ _ _ (Act.put _ (some 147) _) _
                  simp only [Act.put, List.setIfInBounds_toArray, List.set_cons_zero, List.set_cons_succ]
                  refine wpAnyH_take (i := 21) (v := ?v21Cy) rfl (by kernel_rfl) (by kernel_rfl) (by kernel_rfl) (fun _ _ _ h => h) (Or.inl ⟨by rfl, ?hy21Cy⟩) (by assumption) ?rest21Cy
                  case hy21Cy => (intro zz hSw; (try dsimp only at hSw); go_simp; (try with_reducible rfl))
                  change wpAnyH _ _ _ _ _ _ _ (Act.put _ (some 168) _) _
                  simp only [Act.put, List.setIfInBounds_toArray, List.set_cons_zero, List.set_cons_succ]
                  refine wpAnyH_take (i := 22) (v := ?v22Cy) rfl (by kernel_rfl) (by kernel_rfl) (by kernel_rfl) (fun _ _ _ h => h) (Or.inl ⟨by rfl, ?hy22Cy⟩) (by assumption) ?rest22Cy
                  case hy22Cy => (intro zz hSw; (try dsimp only at hSw); go_simp; (try with_reducible rfl))
                  change wpAnyH _ _ _ _ _ _ _ (Act.put _ (some 169) _) _
                  simp only [Act.put, List.setIfInBounds_toArray, List.set_cons_zero, List.set_cons_succ]
                  refine wpAnyH_ready (rs := [24]) (by kernel_rfl) (by simp) (AllReadyH.cons rfl (fun K hK => ?_) (AllReadyH.nil))
                  obtain ⟨y0, y1, y2, y3, y4, f0, f1, f2, f3, f4⟩ := five_of E7.out
                  have XB := Lib.hid (Bc.set5 E7.out c.r c.b c.t c.v c.g)
                  have BB := Lib.hid (bel_set5 BX7.out (Nat.le_refl _) (.string c.r) (.string c.b) (.int .i64 c.t) (.int .i64 c.v) (.bool c.g))
                  generalize hq9 : wr.heap.size = q9 at y0 y1 y2 y3 y4 f0 f1 f2 f3 f4 XB BB ⊢
                  go_simp
                  subst hq9
                  refine hK.out _ _ (SOC.out _ BB.out) (fun hHeld => ?_)
                  clear hK K y0 y1 y2 y3 y4 f0 f1 f2 f3 f4
                  refine wpAnyH_take (i := 25) (v := ?v25Cy) rfl (by kernel_rfl) (by kernel_rfl) (by kernel_rfl) (fun _ _ _ h => h) (Or.inl ⟨by rfl, ?hy25Cy⟩) (by assumption) ?rest25Cy
                  case hy25Cy => (intro zz hSw; (try dsimp only at hSw); go_simp; (try with_reducible rfl))
                  change wpAnyH _ _ _ _ _ _ _ (Act.put _ (some 14) _) _
                  simp only [Act.put, List.setIfInBounds_toArray, List.set_cons_zero, List.set_cons_succ]
                  refine wpAnyH_done (by kernel_rfl) ?_ _
                  go_wp2_with fail
                  go_meet
                  exact ⟨wr.heap.size, rfl, rfl, XB.out, BB.out⟩
              case rest =>
                obtain ⟨qz, rfl, rfl, xzz, bzz⟩ := hcut
                obtain ⟨wz, hwz⟩ : ∃ x, x = wc := ⟨_, rfl⟩
                subst hwz
                have BZ := Lib.hid (bel_tr BX.out bzz (Nat.le_refl _)); clear bzz HF3
                obtain ⟨z0, z1, z2, z3, z4, -⟩ := xzz
                obtain ⟨c0, c1, c2, c3, c4⟩ : At5 wz g (o + i * 5) c := HCE.out.same (BZ.out.block g hg)
                have hce := cell_self c.r c.b c.t c.v c.g
                go_wp2_with fail
                go_quiet (fail)
                go_wp2_with fail
                go_roundw
                case rel => exact ⟨i + 1, by go_num, by omega, bel_drewN BZ.out _⟩
                case measure => simp [intV]; omega
            · have i3 : ¬ (i : Int) < 9 := by omega
              go_wp2_with fail
              go_roundw
              case rel => exact ⟨i + 1, by go_num, by omega, BX.out⟩
              case measure => simp [intV]; omega
          · go_wp2_with fail
            go_roundw
            case rel => exact ⟨i + 1, by go_num, by omega, BX.out⟩
            case measure => simp [intV]; omega
    · have i1 : ¬ (i : Int) < (n : Int) := by omega
      have HC6 := Lib.hid (HC5.out.below BX.out)
      have B6 := Lib.hid (bel_tr B5.out BX.out (Nat.le_refl _))
      go_wp2_with fail
      refine (implCells_is HOK.out.1 _ xa xc q HQ.out HC6.out (by omega)).mono ?_; rintro e w7 ⟨rfl, b7⟩
      have HC7 := Lib.hid (HC6.out.below b7)
      have B7 := Lib.hid (bel_tr B6.out b7 (Nat.le_refl _)); clear b7
      go_wp2_with fail
      refine (thinned_impl HOK.out.2.2 HQ.out w7 xa xc q HQ.out HC7.out (by omega)).mono ?_; rintro e w8 ⟨z, cz, rfl, v8, b8⟩
      have HZ := Lib.hid v8
      have HC8 := Lib.hid (HC7.out.below b8)
      have B8 := Lib.hid (bel_tr B7.out b8 (Nat.le_refl _)); clear v8 b8
      go_wp2_with fail
      refine (like_same w8 z xa cz xc p q HQ.out HZ.out HC8.out (by omega)).mono ?_; rintro e w9 ⟨rfl, b9⟩
      have B9 := Lib.hid (bel_tr B8.out b9 (Nat.le_refl _)); clear b9
      go_wp2_with fail
      go_ret
      exact ⟨rfl, B9.out⟩
end Go.Proofs.Ytcloejmakjdgcaa.Cl
