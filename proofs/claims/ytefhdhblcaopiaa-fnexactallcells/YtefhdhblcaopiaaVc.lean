/-
  The contracts of impl.AllCells, spec.l6All, spec.AllCells: 'mgA', 'allP'.
-/
import Derived.Test.YtefhdhblcaopiaaVb
import Derived.Test.YtefhdhblcaopiaaPj
namespace Go.Proofs.Ytefhdhblcaopiaa.Cl
open Go.RowKit Wd Rp Kp Ra
set_option linter.unusedVariables false
def AlPost (l : List Cel) (w : World) (e : Ending) (w' : World) : Prop := ∃ v, e = .returned v ∧ OwC w.heap.size w' v l ∧ Below w.heap.size w w'
/-- The headers of the tables h :: ss. -/
theorem heads_all {w : World} {a sa : Option Addr} {c sc n : Nat} {h : List Cel} {hs : List Hd} {ss : List (List Cel)} (hn : h.length = n) (hv : Vw w a c h) (hvs : VwS w sa sc hs ss) : VwH w (⟨a, n, c⟩ :: hs) (h :: ss) :=
  ⟨by simp [hvs.1.1], fun j x l h1 h2 => by
    cases j with
    | zero =>
      obtain rfl : (⟨a, n, c⟩ : Hd) = x := by simpa using h1
      obtain rfl : h = l := by simpa using h2
      exact ⟨hn.symm, hv⟩
    | succ j => exact hvs.1.2 j x l (by simpa using h1) (by simpa using h2)⟩
/-- A row of the headers, as mergedShelves wants it. -/
theorem args_of {B : Nat} {w : World} {v : Value} {hs : List Hd} {ts : List (List Cel)} (hr : RowS B w v (hs.map Hd.val)) (hh : VwH w hs ts) (hok : ∀ l ∈ ts, okL l = true) (hne : hs ≠ []) : ∃ g cp, v = .slice (some ⟨g, 0, none⟩) ts.length cp ∧ Args w g 0 (pilesOf 0 hs ts) := by
  obtain ⟨a, cap, e, -, -, -, hat⟩ := hr.form
  obtain ⟨x, r, hx⟩ := List.exists_cons_of_ne_nil hne
  obtain ⟨g, e2, -, hg, -, -⟩ := hat 0 x.val (by rw [hx]; rfl)
  refine ⟨g, cap, by rw [e, e2, List.length_map, hh.1], hg, fun i p hp => ?_⟩
  obtain ⟨y, l, e3, e4, rfl⟩ := piles_at 0 hs ts hh.1 i p hp
  obtain ⟨g3, e5, -, -, hc, -⟩ := hat i y.val (by rw [List.getElem?_map, e3]; rfl)
  rw [e2] at e5
  cases e5
  obtain ⟨e6, hv⟩ := hh.2 i y l e3 e4
  refine ⟨?_, by show 0 + i = i; omega, okL_mem (hok l (List.mem_of_getElem? e4)), okL_srt (hok l (List.mem_of_getElem? e4)), hv⟩
  rw [Nat.zero_add, hc]
  show some (Value.slice y.a y.n y.c) = some (.slice y.a l.length y.c)
  rw [e6]
set_option maxRecDepth 100000 in
set_option maxHeartbeats 4000000 in
theorem implAll_any (w : World) (a sa : Option Addr) (c sc n sn : Nat) (h : List Cel) (hs : List Hd) (ss : List (List Cel)) (hn : h.length = n) (hsn : ss.length = sn) (hv : Vw w a c h) (hvs : VwS w sa sc hs ss) (hlow : Low h ss) :
    Calls Try.prog 20 #[.agg #[.slice a n c, .slice sa sn sc]] w (AlPost (allP h ss) w) := by
  have HV := Lib.hid hv; clear hv
  have HVS := Lib.hid hvs; clear hvs
  have HLOW := Lib.hid hlow; clear hlow
  have HN := Lib.hid (And.intro hn hsn); clear hn hsn
  have H0 := Lib.hid (bel1 w (.cells #[.slice a n c, .slice sa sn sc] 27))
  have F0 := Lib.hid (Bb.made (.slice a n c) (.slice sa sn sc) w 27)
  cases hok : okB h ss
  · have HP := Lib.hid (allP_no hok)
    have HB := Lib.hid (barnI_is hok _ a sa c sc n sn hs HN.out.1 HN.out.2 (HV.out.below H0.out) (HVS.out.below H0.out) HLOW.out); clear hok
    go_enter Try.func20, Try.ntmps20
    go_wp2_with fail
    refine HB.out.mono ?_; rintro e w1 ⟨rfl, b1⟩
    have B1 := Lib.hid (bel_tr H0.out b1 (Nat.le_refl _)); clear b1
    go_wp2_with fail
    go_ret
    exact ⟨_, rfl, by rw [HP.out]; exact OwC.nothing _ _, B1.out⟩
  · have HOK := Lib.hid hok
    have hsn5 : sn ≤ 5 := by rw [← HN.out.2]; exact (okB_iff.1 hok).2.1
    obtain ⟨ht1, ht2⟩ := okB_tot hok
    have HT := Lib.hid (And.intro ht1 ht2); clear ht1 ht2
    have HB := Lib.hid (barnI_is hok _ a sa c sc n sn hs HN.out.1 HN.out.2 (HV.out.below H0.out) (HVS.out.below H0.out) HLOW.out); clear hok
    go_enter Try.func20, Try.ntmps20
    go_wp2_with fail
    refine HB.out.mono ?_; rintro e w1 ⟨rfl, b1⟩
    have B1 := Lib.hid (bel_tr H0.out b1 (Nat.le_refl _))
    obtain ⟨x0, x1, -, -, -⟩ := F0.out.next b1; clear b1
    go_wp2_with fail
    refine (tablesOf_any (fun _ => False) w.heap.size a sa n c sn sc hs (HVS.out.1.1.trans HN.out.2) (by omega) w1 (HVS.out.2.2.2.2.below B1.out) B1.out.size (fun _ _ _ _ h => h) (fun _ h => h.elim)).mono ?_
    rintro e w2 ⟨gf, lb, rfl, hen, hha, b2⟩
    have B2 := Lib.hid (bel_tr B1.out b2 (Nat.le_refl _)); clear b2 x0 x1
    have HC := Lib.hid (collect_any gf lb hen (⟨a, n, c⟩ :: hs) (by simp [HVS.out.1.1, HN.out.2]; omega) w2 w2 (Below.refl _ _) (fun _ => False) hha); clear hen hha
    go_wp2_with fail
    refine HC.out.mono ?_; rintro e w3 ⟨v, rfl, r3, b3⟩
    have B3 := Lib.hid (bel_tr B2.out b3 (Nat.le_refl _))
    have HH := Lib.hid ((heads_all (w := w) HN.out.1 HV.out HVS.out).below B3.out)
    obtain ⟨g, cp, rfl, ha⟩ := args_of r3 HH.out (fun l hl => by
      rcases List.mem_cons.1 hl with rfl | hl
      · exact (okB_iff.1 HOK.out).1
      · exact ((okB_iff.1 HOK.out).2.2 l hl).2) (by simp)
    have HA := Lib.hid ha; clear ha r3 b3 HC
    have HLN := Lib.hid (show (h :: ss).length = sn + 1 by simp [HN.out.2])
    rw [HLN.out]
    have HMS := Lib.hid (mergedShelves_any w3 g 0 cp (pilesOf 0 (⟨a, n, c⟩ :: hs) (h :: ss)) (sn + 1) (by rw [piles_len _ _ _ HH.out.1]; exact HLN.out) (by omega) (by rw [piles_tot _ _ _ HH.out.1, tott_cons]; have := HT.out.1; have := HT.out.2; omega) HA.out)
    generalize hsn1 : sn + 1 = sn1 at *
    clear hsn1
    go_wp2_with fail
    refine HMS.out.mono ?_; rintro e w4 ⟨v, m, rfl, o4, s4, m4, b4, l4⟩
    have hm : m = mgA h ss := srt_ext s4 (mgA_srt ss h (okB_srt HOK.out).1 (okB_srt HOK.out).2) (fun c => (m4 c).trans (mgA_fst (x := ⟨a, n, _⟩) HVS.out.1.1 (okB_srt HOK.out).1 (okB_srt HOK.out).2 c))
    subst hm
    have B4 := Lib.hid (bel_tr B3.out b4 (Nat.le_refl _))
    have O4 := Lib.hid (OwC.mono o4 B3.out.size)
    obtain ⟨va, vc, rfl, -, -⟩ := o4.view
    clear o4 s4 m4 b4 l4 HMS
    by_cases hbg : 200 < (mgA h ss).length
    · have HP := Lib.hid (allP_big HOK.out hbg)
      have z1 : (200 : Int) < ((mgA h ss).length : Int) := by omega
      generalize (mgA h ss).length = ml at *
      go_wp2_with fail
      go_ret
      exact ⟨_, rfl, by rw [HP.out]; exact OwC.nothing _ _, B4.out⟩
    · have HP := Lib.hid (allP_yes HOK.out hbg)
      have z1 : ¬ (200 : Int) < ((mgA h ss).length : Int) := by omega
      generalize (mgA h ss).length = ml at *
      go_wp2_with fail
      go_ret
      exact ⟨_, rfl, by rw [HP.out]; exact O4.out, B4.out⟩
theorem mgT_succ {h : List Cel} {ss : List (List Cel)} {k : Nat} {t : List Cel} (ht : ss[k]? = some t) : mgA h (ss.take (k + 1)) = mergeL (mgA h (ss.take k)) t := by
  unfold mgA; rw [take_at ht, List.foldl_append]; rfl
set_option maxRecDepth 100000 in
set_option maxHeartbeats 4000000 in
theorem l6All_any (w : World) (a sa : Option Addr) (c sc n sn : Nat) (h : List Cel) (hs : List Hd) (ss : List (List Cel)) (hn : h.length = n) (hsn : ss.length = sn) (hv : Vw w a c h) (hvs : VwS w sa sc hs ss) (hl : n ≤ 200) (htt : tott ss ≤ 1000) (hln : ∀ l ∈ ss, l.length ≤ 200) (hs2 : sn ≤ 1000) :
    Calls Try.prog 69 #[.agg #[.slice a n c, .slice sa sn sc]] w (AlPost (mgA h ss) w) := by
  have HV := Lib.hid hv; clear hv
  have HVS := Lib.hid hvs; clear hvs
  have HSN := Lib.hid hsn; clear hsn
  have HLN := Lib.hid hln; clear hln
  have H0 := Lib.hid (bel1 w (.cells #[.slice a n c, .slice sa sn sc] 27))
  have F0 := Lib.hid (Bb.made (.slice a n c) (.slice sa sn sc) w 27)
  have HC := Lib.hid (l4Copy_any _ a c h n hn (HV.out.below H0.out) (by omega))
  have HLE := Lib.hid (show ∀ k, (mgA h (ss.take k)).length ≤ 1200 from fun k => by
    have h1 := mgA_len (ss.take k) h
    have h2 := tott_take ss k
    omega)
  clear hn
  go_enter Try.func69, Try.ntmps69
  go_wp2_with fail
  refine HC.out.mono ?_; rintro e w1 ⟨v, rfl, o1, b1⟩
  have ST := Lib.hid (show ∃ v0, v = v0 ∧ OwC w.heap.size w1 v (mgA h (ss.take 0)) ∧ Bb w.heap.size (.slice a n c) (.slice sa sn sc) w1 ∧ Below w.heap.size w w1 from ⟨v, rfl, by rw [List.take_zero]; exact o1.mono H0.out.size, F0.out.next b1, bel_tr H0.out b1 (Nat.le_refl _)⟩)
  clear o1 b1 HC F0 H0
  go_wp2_with fail
  go_loopw [3, 4] (fun q i wr => ∃ k : Nat, k ≤ sn ∧ i = .int .i64 k ∧ OwC w.heap.size wr q (mgA h (ss.take k)) ∧ Bb w.heap.size (.slice a n c) (.slice sa sn sc) wr ∧ Below w.heap.size w wr) (fun _ i _ => sn - intV i)
  case atStart =>
    obtain ⟨v0, -, h1, h2, h3⟩ := ST.out
    exact ⟨0, Nat.zero_le _, rfl, h1, h2, h3⟩
  case round =>
    clear ST
    obtain ⟨k, hk, rfl, ho, hbb, hbel⟩ := hrel
    have HB := Lib.hid hbel; clear hbel
    have HBB := Lib.hid hbb
    have HO := Lib.hid ho
    obtain ⟨va, vc, rfl, hvw, -⟩ := ho.view
    obtain ⟨x0, x1, -, -, -⟩ := hbb
    clear ho
    by_cases hlt : k < sn
    · obtain ⟨t, ht⟩ : ∃ t, ss[k]? = some t := ⟨ss[k]'(by rw [HSN.out]; exact hlt), List.getElem?_eq_getElem _⟩
      obtain ⟨x, g, o, -, rfl, hg, hc, hvl⟩ := HVS.out.at ht
      have hcx : wr.cell? ⟨g, o + k, none⟩ = some (.slice x.a t.length x.c) := (HB.out.cell (p := ⟨g, o + k, none⟩) hg).trans hc
      have htl : t.length ≤ 200 := HLN.out t (List.mem_of_getElem? ht)
      have hml : (mgA h (ss.take k)).length ≤ 1200 := HLE.out k
      have HM := Lib.hid (l5Merge_any wr va x.a vc x.c (mgA h (ss.take k)) t _ _ rfl rfl hvw (hvl.below HB.out) (by omega) (by omega))
      have HSX := Lib.hid (mgT_succ (h := h) ht)
      clear ht hvl hc hg hvw
      generalize (mgA h (ss.take k)).length = ml at *
      generalize t.length = tl at *
      go_wp2_with fail
      refine HM.out.mono ?_; rintro e w4 ⟨v, rfl, o4, b4⟩
      have RR := Lib.hid (show OwC w.heap.size w4 v (mgA h (ss.take (k + 1))) ∧ Bb w.heap.size (.slice a n c) (.slice (some ⟨g, o, none⟩) sn sc) w4 ∧ Below w.heap.size w w4 from ⟨by rw [HSX.out]; exact o4.mono HB.out.size, HBB.out.next b4, bel_tr HB.out b4 (Nat.le_refl _)⟩)
      clear o4 b4 x0 x1 hcx HM
      go_wp2_with fail
      go_roundw
      case rel => exact ⟨k + 1, by omega, by go_num, RR.out.1, RR.out.2.1, RR.out.2.2⟩
      case measure => simp [intV]; omega
    · obtain rfl : k = sn := by omega
      have HE := Lib.hid (show mgA h (ss.take k) = mgA h ss by rw [List.take_of_length_le (Nat.le_of_eq HSN.out)])
      clear hvw
      generalize (mgA h (ss.take k)).length = ml at *
      go_wp2_with fail
      go_ret
      exact ⟨_, rfl, by rw [← HE.out]; exact HO.out, HB.out⟩
set_option maxRecDepth 100000 in
set_option maxHeartbeats 4000000 in
theorem specAll_any (w : World) (a sa : Option Addr) (c sc n sn : Nat) (h : List Cel) (hs : List Hd) (ss : List (List Cel)) (hn : h.length = n) (hsn : ss.length = sn) (hv : Vw w a c h) (hvs : VwS w sa sc hs ss) (hlow : Low h ss) (hmod : Mod h ss) :
    Calls Try.prog 26 #[.agg #[.slice a n c, .slice sa sn sc]] w (AlPost (allP h ss) w) := by
  have HV := Lib.hid hv; clear hv
  have HVS := Lib.hid hvs; clear hvs
  have HLM := Lib.hid (And.intro hlow hmod); clear hlow hmod
  have HN := Lib.hid (And.intro hn hsn); clear hn hsn
  have H0 := Lib.hid (bel1 w (.cells #[.slice a n c, .slice sa sn sc] 27))
  have F0 := Lib.hid (Bb.made (.slice a n c) (.slice sa sn sc) w 27)
  cases hok : okB h ss
  · have HP := Lib.hid (allP_no hok)
    have HB := Lib.hid (barnS_is hok _ a sa c sc n sn hs HN.out.1 HN.out.2 (HV.out.below H0.out) (HVS.out.below H0.out) HLM.out.1 HLM.out.2); clear hok
    go_enter Try.func26, Try.ntmps26
    go_wp2_with fail
    refine HB.out.mono ?_; rintro e w1 ⟨rfl, b1⟩
    have B1 := Lib.hid (bel_tr H0.out b1 (Nat.le_refl _)); clear b1
    go_wp2_with fail
    go_ret
    exact ⟨_, rfl, by rw [HP.out]; exact OwC.start B1.out.size, B1.out.alloc B1.out.size _⟩
  · have HOK := Lib.hid hok
    have hsn5 : sn ≤ 5 := by rw [← HN.out.2]; exact (okB_iff.1 hok).2.1
    obtain ⟨ht1, ht2⟩ := okB_tot hok
    have HB := Lib.hid (barnS_is hok _ a sa c sc n sn hs HN.out.1 HN.out.2 (HV.out.below H0.out) (HVS.out.below H0.out) HLM.out.1 HLM.out.2); clear hok
    go_enter Try.func26, Try.ntmps26
    go_wp2_with fail
    refine HB.out.mono ?_; rintro e w1 ⟨rfl, b1⟩
    have B1 := Lib.hid (bel_tr H0.out b1 (Nat.le_refl _))
    obtain ⟨x0, x1, -, -, -⟩ := F0.out.next b1; clear b1
    have HL := Lib.hid (l6All_any w1 a sa c sc n sn h hs ss HN.out.1 HN.out.2 (HV.out.below B1.out) (HVS.out.below B1.out) (by rw [← HN.out.1]; exact ht1) ht2 (fun l hl => (okL_iff.1 ((okB_iff.1 HOK.out).2.2 l hl).2).2) (by omega))
    go_wp2_with fail
    refine HL.out.mono ?_; rintro e w2 ⟨v, rfl, o2, b2⟩
    have B2 := Lib.hid (bel_tr B1.out b2 (Nat.le_refl _))
    have O2 := Lib.hid (OwC.mono o2 B1.out.size)
    obtain ⟨va, vc, rfl, -, -⟩ := o2.view
    clear o2 b2 x0 x1 HL
    by_cases hbg : 200 < (mgA h ss).length
    · have HP := Lib.hid (allP_big HOK.out hbg)
      have z1 : (200 : Int) < ((mgA h ss).length : Int) := by omega
      generalize (mgA h ss).length = ml at *
      go_wp2_with fail
      go_ret
      exact ⟨_, rfl, by rw [HP.out]; exact OwC.start B2.out.size, B2.out.alloc B2.out.size _⟩
    · have HP := Lib.hid (allP_yes HOK.out hbg)
      have z1 : ¬ (200 : Int) < ((mgA h ss).length : Int) := by omega
      generalize (mgA h ss).length = ml at *
      go_wp2_with fail
      go_ret
      exact ⟨_, rfl, by rw [HP.out]; exact O2.out, B2.out⟩
theorem implAllO {B : Nat} {hv sv : Value} {h : List Cel} {ss : List (List Cel)} (w : World) (o : OwB B w hv sv h ss) (hlow : Low h ss) : Calls Try.prog 20 #[.agg #[hv, sv]] w (AlPost (allP h ss) w) := by
  obtain ⟨a, c, sa, sc, hs, rfl, rfl, h1, h2⟩ := o.view
  exact implAll_any w a sa c sc _ _ h hs ss rfl rfl h1 h2 hlow
theorem specAllO {B : Nat} {hv sv : Value} {h : List Cel} {ss : List (List Cel)} (w : World) (o : OwB B w hv sv h ss) (hlow : Low h ss) (hmod : Mod h ss) : Calls Try.prog 26 #[.agg #[hv, sv]] w (AlPost (allP h ss) w) := by
  obtain ⟨a, c, sa, sc, hs, rfl, rfl, h1, h2⟩ := o.view
  exact specAll_any w a sa c sc _ _ h hs ss rfl rfl h1 h2 hlow hmod
end Go.Proofs.Ytefhdhblcaopiaa.Cl
