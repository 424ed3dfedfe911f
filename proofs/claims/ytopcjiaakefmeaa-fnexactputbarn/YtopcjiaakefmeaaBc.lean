/-
  The contract of spec.BarnOk: 'okB'.
  The contract of impl.BarnOk: 'okB'.
  spec.BarnOk and impl.BarnOk at stores of the call's own.
-/
import Derived.Test.YtopcjiaakefmeaaBa
import Derived.Test.YtopcjiaakefmeaaCn
import Derived.Test.YtopcjiaakefmeaaBd
namespace Go.Proofs.Ytopcjiaakefmeaa.Cl
open Go.RowKit Wd Rp Kp Ra
set_option linter.unusedVariables false
set_option maxRecDepth 100000 in
set_option maxHeartbeats 400000 in
theorem specBarn_any (w : World) (a sa : Option Addr) (c sc n sn : Nat) (h : List Cel) (hs : List Hd) (ss : List (List Cel)) (hn : h.length = n) (hsn : ss.length = sn) (hv : Vw w a c h) (hvs : VwS w sa sc hs ss) (hlow : Low h ss) (hmod : Mod h ss) :
    Calls Try.prog 32 #[.agg #[.slice a n c, .slice sa sn sc]] w fun e w' => e = .returned (.bool (okB h ss)) ∧ Below w.heap.size w w' := by
  have HV := Lib.hid hv; clear hv
  have HVS := Lib.hid hvs; clear hvs
  have HLOW := Lib.hid hlow; clear hlow
  have HMOD := Lib.hid hmod; clear hmod
  have HN := Lib.hid hn; clear hn
  have HSN := Lib.hid hsn; clear hsn
  have hn1 : n ≤ 1048576 := by rw [← HN.out]; exact HLOW.out.1
  have hsn1 : sn ≤ 1048576 := by rw [← HSN.out]; exact HLOW.out.2.1
  have H0 := Lib.hid (bel1 w (.cells #[.slice a n c, .slice sa sn sc] 38))
  have F0 := Lib.hid (Bb.made (.slice a n c) (.slice sa sn sc) w 38)
  go_enter Try.func32, Try.ntmps32
  go_wp2_with fail
  go_loopw [3] (fun i wr => ∃ k : Nat, k ≤ sn ∧ i = .int .i64 k ∧ (∀ (j : Nat) (l : List Cel), j < k → ss[j]? = some l → okT l = true) ∧ Below w.heap.size w wr ∧ Bb w.heap.size (.slice a n c) (.slice sa sn sc) wr) (fun i _ => sn - intV i)
  case atStart => exact ⟨0, Nat.zero_le _, rfl, (fun j l hj => by omega), H0.out, F0.out⟩
  case round =>
    clear H0 F0
    obtain ⟨k, hk, rfl, hall, hbel, hfr⟩ := hrel
    have HALL := Lib.hid hall; clear hall
    have HB := Lib.hid hbel; clear hbel
    have HF := Lib.hid hfr
    obtain ⟨x0, x1, -, -, -⟩ := hfr
    by_cases hlt : k < sn
    · obtain ⟨l, hl⟩ : ∃ l, ss[k]? = some l := ⟨ss[k]'(by rw [HSN.out]; exact hlt), List.getElem?_eq_getElem _⟩
      obtain ⟨x, g, o, -, rfl, hg, hc, hvl⟩ := HVS.out.at hl
      have hcx : wr.cell? ⟨g, o + k, none⟩ = some (.slice x.a l.length x.c) := (HB.out.cell (p := ⟨g, o + k, none⟩) hg).trans hc
      have HVL := Lib.hid (hvl.below HB.out); clear hvl hc hg
      have hl2 : l.length ≤ 1048576 := HLOW.out.2.2 l (List.mem_of_getElem? hl)
      have HM := Lib.hid (HMOD.out.2 l (List.mem_of_getElem? hl))
      have HL := Lib.hid hl; clear hl
      generalize hln : l.length = ln at *
      have HLN := Lib.hid hln; clear hln
      have k1 : (k : Int) < (sn : Int) := by omega
      cases hok : okL l
      · have HE := Lib.hid (okB_bad (h := h) (List.mem_of_getElem? HL.out) (show okT l = false by unfold okT; rw [hok]; simp))
        have HOK := Lib.hid hok; clear hok
        go_wp2_with fail
        refine (specCells_is HOK.out _ x.a x.c _ HLN.out HVL.out HM.out (by omega)).mono ?_; rintro e w1 ⟨rfl, b1⟩
        have B1 := Lib.hid (bel_tr HB.out b1 (Nat.le_refl _))
        obtain ⟨x2, x3, -, -, -⟩ := HF.out.next b1; clear b1
        go_wp2_with fail
        go_ret
        exact ⟨by rw [HE.out]; rfl, B1.out⟩
      · have HOK := Lib.hid hok
        by_cases hz : ln = 0
        · have HE := Lib.hid (okB_bad (h := h) (List.mem_of_getElem? HL.out) (show okT l = false by rw [List.length_eq_zero_iff.1 (HLN.out.trans hz)]; rfl))
          subst hz
          clear hok
          go_wp2_with fail
          refine (specCells_is HOK.out _ x.a x.c _ HLN.out HVL.out HM.out (by omega)).mono ?_; rintro e w1 ⟨rfl, b1⟩
          have B1 := Lib.hid (bel_tr HB.out b1 (Nat.le_refl _))
          obtain ⟨x2, x3, -, -, -⟩ := HF.out.next b1
          have hcx1 : w1.cell? ⟨g, o + k, none⟩ = some (.slice x.a 0 x.c) := by
            exact (World.cell?_of_block (w := wr) (b1.block g (lt_of_cell hcx))).trans hcx
          clear b1
          go_wp2_with fail
          go_ret
          exact ⟨by rw [HE.out]; rfl, B1.out⟩
        · have HE := Lib.hid (show okT l = true by unfold okT; rw [hok]; cases l with | nil => exact absurd HLN.out.symm hz | cons _ _ => rfl)
          have hz1 : ¬ ((ln : Int) = 0) := by omega
          have hz2 : ((ln : Int) == 0) = false := by simpa using hz
          clear hok
          go_wp2_with fail
          refine (specCells_is HOK.out _ x.a x.c _ HLN.out HVL.out HM.out (by omega)).mono ?_; rintro e w1 ⟨rfl, b1⟩
          have B1 := Lib.hid (bel_tr HB.out b1 (Nat.le_refl _))
          have F1 := Lib.hid (HF.out.next b1)
          obtain ⟨x2, x3, -, -, -⟩ := id F1.out
          have hcx1 : w1.cell? ⟨g, o + k, none⟩ = some (.slice x.a ln x.c) := (World.cell?_of_block (w := wr) (b1.block g (lt_of_cell hcx))).trans hcx
          clear b1
          go_wp2_with fail
          go_roundw
          case rel =>
            refine ⟨k + 1, by omega, by go_num, fun j t hj ht => ?_, B1.out, F1.out⟩
            by_cases ej : j = k
            · subst ej; rw [HL.out] at ht; cases ht; exact HE.out
            · exact HALL.out j t (by omega) ht
          case measure => simp [intV]; omega
    · have hkk : k = sn := by omega
      have HE := Lib.hid (specBarn_end (h := h) (ss := ss) (fun j l hl => HALL.out j l (by have := (List.getElem?_eq_some_iff.1 hl).1; rw [HSN.out] at this; omega) hl))
      rw [HSN.out] at HE
      subst hkk
      have HVH := Lib.hid (HV.out.below HB.out)
      cases hok : okL h
      · rw [hok] at HE
        have HOK := Lib.hid hok; clear hok
        go_wp2_with fail
        refine (specCells_is HOK.out _ a c n HN.out HVH.out HMOD.out.1 (by omega)).mono ?_; rintro e w1 ⟨rfl, b1⟩
        have B1 := Lib.hid (bel_tr HB.out b1 (Nat.le_refl _)); clear b1
        go_wp2_with fail
        go_ret
        exact ⟨by rw [HE.out]; rfl, B1.out⟩
      · rw [hok] at HE
        have HOK := Lib.hid hok; clear hok
        by_cases h5 : k ≤ 5
        all_goals
          go_wp2_with fail
          refine (specCells_is HOK.out _ a c n HN.out HVH.out HMOD.out.1 (by omega)).mono ?_; rintro e w1 ⟨rfl, b1⟩
          have B1 := Lib.hid (bel_tr HB.out b1 (Nat.le_refl _))
          obtain ⟨x2, x3, -, -, -⟩ := HF.out.next b1; clear b1
          go_wp2_with fail
          go_ret
          exact ⟨by rw [HE.out]; first | (simp [h5]; done) | (simp [h5]; omega), B1.out⟩
theorem barnS_is {h : List Cel} {ss : List (List Cel)} {x : Bool} (e : okB h ss = x) (w : World) (a sa : Option Addr) (c sc n sn : Nat) (hs : List Hd) (hn : h.length = n) (hsn : ss.length = sn) (hv : Vw w a c h) (hvs : VwS w sa sc hs ss) (hlow : Low h ss) (hmod : Mod h ss) :
    Calls Try.prog 32 #[.agg #[.slice a n c, .slice sa sn sc]] w fun e w' => e = .returned (.bool x) ∧ Below w.heap.size w w' := by
  rw [← e]; exact specBarn_any w a sa c sc n sn h hs ss hn hsn hv hvs hlow hmod
end Go.Proofs.Ytopcjiaakefmeaa.Cl
namespace Go.Proofs.Ytopcjiaakefmeaa.Cl
open Go.RowKit Wd Rp Kp Ra Go.Shelf
attribute [local go_sem] Oper.semAt_some
set_option linter.unusedVariables false
def BarnPost (h : List Cel) (ss : List (List Cel)) (w : World) (e : Ending) (w' : World) : Prop := e = .returned (.bool (okB h ss)) ∧ Below w.heap.size w w'
/-- The two blocks of BarnOk's own: the store, the result. -/
def BarnFr (q : Nat) (u v : Value) (w : World) : Prop := w.cell? ⟨q, 0, none⟩ = some u ∧ w.cell? ⟨q, 1, none⟩ = some v ∧ w.cell? ⟨q + 1, 0, none⟩ = some (.bool false) ∧ w.frozen? ⟨q + 1, 0, none⟩ = false ∧ q + 1 < w.heap.size
theorem BarnFr.made (u v : Value) (w : World) : BarnFr w.heap.size u v ((w.alloc (.cells #[u, v] 38)).alloc (.cells #[.bool false] 4)) := by
  have e1 : ((w.alloc (.cells #[u, v] 38)).alloc (.cells #[.bool false] 4)).heap[w.heap.size]? = some (.cells #[u, v] 38) := (Below.heap_alloc _ _ _ (by simp)).trans (World.alloc_heap_new w _)
  have e2 : ((w.alloc (.cells #[u, v] 38)).alloc (.cells #[.bool false] 4)).heap[w.heap.size + 1]? = some (.cells #[.bool false] 4) := by
    have := World.alloc_heap_new (w.alloc (.cells #[u, v] 38)) (.cells #[.bool false] 4)
    rwa [World.size_alloc] at this
  refine ⟨?_, ?_, ?_, ?_, by simp⟩
  · simp only [World.cell?, e1]; rfl
  · simp only [World.cell?, e1]; rfl
  · simp only [World.cell?, e2]; rfl
  · simp only [World.frozen?, e2]; rfl
theorem BarnFr.below {q B : Nat} {u v : Value} {w w' : World} (h : BarnFr q u v w) (hb : Below B w w') (hq : q + 1 < B) : BarnFr q u v w' := by
  obtain ⟨h0, h1, h2, h3, h4⟩ := h
  have e : w'.heap[q]? = w.heap[q]? := hb.block q (by omega)
  have e' : w'.heap[q + 1]? = w.heap[q + 1]? := hb.block (q + 1) hq
  exact ⟨(World.cell?_of_block (w := w) e).trans h0, (World.cell?_of_block (w := w) e).trans h1, (World.cell?_of_block (w := w) e').trans h2, (World.frozen?_of_block (w := w) e').trans h3, Nat.lt_of_lt_of_le h4 hb.size⟩
theorem BarnFr.next {q : Nat} {u v : Value} {w w' : World} (h : BarnFr q u v w) (hb : Below w.heap.size w w') : BarnFr q u v w' := h.below hb h.2.2.2.2
theorem BarnFr.put {q : Nat} {u v : Value} {w : World} (h : BarnFr q u v w) : BarnFr q u v (w.setCell ⟨q + 1, 0, none⟩ (.bool false)) := by
  obtain ⟨h0, h1, h2, h3, h4⟩ := h
  have e : (w.setCell ⟨q + 1, 0, none⟩ (.bool false)).heap[q]? = w.heap[q]? := Below.heap_setCell _ _ _ _ (by show q ≠ q + 1; omega)
  exact ⟨(World.cell?_of_block (w := w) e).trans h0, (World.cell?_of_block (w := w) e).trans h1, World.cell?_setCell_same' _ _ _ (by rw [h2]; rfl), by rw [World.frozen?_setCell]; exact h3, by rw [World.size_setCell]; exact h4⟩
set_option maxRecDepth 100000 in
set_option maxHeartbeats 4000000 in
theorem implBarn_any (w : World) (a sa : Option Addr) (c sc n sn : Nat) (h : List Cel) (hs : List Hd) (ss : List (List Cel)) (hn : h.length = n) (hsn : ss.length = sn) (hv : Vw w a c h) (hvs : VwS w sa sc hs ss) (hlow : Low h ss) :
    Calls Try.prog 31 #[.agg #[.slice a n c, .slice sa sn sc]] w (BarnPost h ss w) := by
  have HV := Lib.hid hv; clear hv
  have HVS := Lib.hid hvs; clear hvs
  have HLOW := Lib.hid hlow; clear hlow
  have HN := Lib.hid hn; clear hn
  have HSN := Lib.hid hsn; clear hsn
  have hn1 : n ≤ 1048576 := by rw [← HN.out]; exact HLOW.out.1
  have hsn1 : sn ≤ 1048576 := by rw [← HSN.out]; exact HLOW.out.2.1
  by_cases h5 : 5 < sn
  · have HP := Lib.hid (okB_many (h := h) (ss := ss) (by rw [HSN.out]; exact h5))
    refine (callsIn_wide (n := 9)).1 (callsIn_of_wp_marks Try.func31 rfl trivial ?_ rfl)
    simp only [Try.ntmps31, List.size_toArray, List.length_cons, List.length_nil, Nat.reduceAdd, Nat.reduceSub, Array.replicate_succ, Array.replicate_zero, List.push_toArray, List.append_toArray, List.nil_append, List.cons_append]
    gi_wp2_with fail
    refine ⟨trivial, ?_⟩
    gi_wp2_with fail
    refine ⟨.bool false, by simp [results, Try.f31, go_sem], by rw [HP.out], ?_⟩
    exact bel2 w _ _
  · have H0 := Lib.hid (bel2 w (.cells #[.slice a n c, .slice sa sn sc] 38) (.cells #[.bool false] 4))
    have H1 := Lib.hid (show (((w.alloc (.cells #[.slice a n c, .slice sa sn sc] 38)).alloc (.cells #[.bool false] 4)).heap.size = w.heap.size + 2) by simp)
    have hq : ¬ (5 : Int) < (sn : Int) := by omega
    cases hk : okL h
    · have HP := Lib.hid (okB_hand (h := h) (ss := ss) hk)
      have HK := Lib.hid hk; clear hk
      refine (callsIn_wide (n := 9)).1 (callsIn_of_wp_marks Try.func31 rfl trivial ?_ rfl)
      simp only [Try.ntmps31, List.size_toArray, List.length_cons, List.length_nil, Nat.reduceAdd, Nat.reduceSub, Array.replicate_succ, Array.replicate_zero, List.push_toArray, List.append_toArray, List.nil_append, List.cons_append]
      gi_wp2_with fail
      refine ⟨trivial, (callsIn_wide.2 (implCells_is HK.out _ a c n HN.out (HV.out.below H0.out) (by omega))).mono ?_⟩; rintro e w1 ⟨rfl, b1⟩
      have f1 := (BarnFr.made (.slice a n c) (.slice sa sn sc) w).next b1
      have B1 := Lib.hid (bel_tr H0.out b1 (Nat.le_refl _)); clear b1
      obtain ⟨x0, x1, x2, x3, -⟩ := f1
      gi_wp2_with fail
      refine ⟨.bool false, by simp [results, Try.f31, go_sem, x2], by rw [HP.out], ?_⟩
      exact (B1.out.setCell (by show w.heap.size ≤ w.heap.size + 1; omega) _)
    · have HK := Lib.hid hk; clear hk
      refine (callsIn_wide (n := 9)).1 (callsIn_of_wp_marks Try.func31 rfl trivial ?_ rfl)
      simp only [Try.ntmps31, List.size_toArray, List.length_cons, List.length_nil, Nat.reduceAdd, Nat.reduceSub, Array.replicate_succ, Array.replicate_zero, List.push_toArray, List.append_toArray, List.nil_append, List.cons_append]
      gi_wp2_with fail
      refine ⟨trivial, (callsIn_wide.2 (implCells_is HK.out _ a c n HN.out (HV.out.below H0.out) (by omega))).mono ?_⟩; rintro e w1 ⟨rfl, b1⟩
      have f1 := (BarnFr.made (.slice a n c) (.slice sa sn sc) w).next b1
      have B1 := Lib.hid (bel_tr H0.out b1 (Nat.le_refl _)); clear b1
      have F1 := Lib.hid f1
      obtain ⟨x0, x1, x2, x3, x4⟩ := f1
      gi_wp2_with fail
      refine ⟨trivial, (callsIn_wide.2 (shelvesOf_any (fun _ => False) w.heap.size (.slice a n c) ⟨_, _, _, rfl⟩ sa sn sc hs (HVS.out.1.1.trans HSN.out) (by omega) w1 (HVS.out.2.2.2.2.below B1.out) B1.out.size (fun _ _ _ _ h => h))).mono ?_⟩
      rintro e w2 ⟨gf, lb, rfl, hen, hha, b2⟩
      have F2 := Lib.hid (F1.out.next b2)
      have B2 := Lib.hid (bel_tr B1.out b2 (Nat.le_refl _)); clear b2 x0 x1 x2 x3
      have x5 := F2.out.2.2.2.2
      gi_wp2_with fail
      refine loop_hands1 16 3 rfl hen hha (Below.refl _ _) (fun _ h => h.elim)
        (fun s W => s.2 = none ∧ w2.heap.size ≤ W.heap.size ∧ BarnFr w.heap.size (.slice a n c) (.slice sa sn sc) W ∧ (∀ (j : Nat) (l : List Cel), j < s.1.length → ss[j]? = some l → okT l = true) ∧ Below w.heap.size w W)
        (fun k pre W => k = .ret ∧ w2.heap.size ≤ W.heap.size ∧ BarnFr w.heap.size (.slice a n c) (.slice sa sn sc) W ∧ (∃ l ∈ ss, okT l = false) ∧ Below w.heap.size w W) ?_ ?_ ?_ ?_ ?_ ?_ ?_
      · exact own_of (fun _ _ h => h.2.1) fun s W W' ⟨h0, h1, h2, h3, h4⟩ hb => ⟨h0, Nat.le_trans h1 hb.size, h2.below hb x5, h3, h4.trans (hb.mono B2.out.size)⟩
      · exact fun k => own_of (fun _ _ h => h.2.1) fun s W W' ⟨h0, h1, h2, h3, h4⟩ hb => ⟨h0, Nat.le_trans h1 hb.size, h2.below hb x5, h3, h4.trans (hb.mono B2.out.size)⟩
      · exact ⟨rfl, Nat.le_refl _, F2.out, fun j l hj => by simp at hj, B2.out⟩
      · intro l m x W K hK
        simp only [List.setIfInBounds_toArray, List.set_cons_zero, List.set_cons_succ] at hK ⊢
        gi_wp2
        exact hK
      · rintro l m pre x gg W hpre hsz ⟨hg0, hs1, hfr, hall, hbel⟩
        replace hg0 : gg = none := hg0
        subst hg0
        replace hall : ∀ (j : Nat) (l : List Cel), j < pre.length → ss[j]? = some l → okT l = true := hall
        simp only [List.setIfInBounds_toArray, List.set_cons_zero, List.set_cons_succ]
        obtain ⟨y, hy, rfl⟩ := pre_at hpre
        obtain ⟨t, ht⟩ : ∃ t, ss[pre.length]? = some t := ⟨ss[pre.length]'(by rw [← HVS.out.1.1]; exact (List.getElem?_eq_some_iff.1 hy).1), List.getElem?_eq_getElem _⟩
        obtain ⟨hyn, hyv⟩ := HVS.out.1.2 _ _ _ hy ht
        have HT := Lib.hid ht
        have hyl : y.n ≤ 1048576 := by rw [hyn]; exact HLOW.out.2.2 t (List.mem_of_getElem? ht)
        have HYV := Lib.hid (hyv.below hbel); clear hyv
        have HYN := Lib.hid hyn; clear hyn ht hy
        have HALL := Lib.hid hall; clear hall
        have HBL := Lib.hid hbel; clear hbel
        have HFR := Lib.hid hfr
        obtain ⟨x0, x1, x2, x3, x4⟩ := hfr
        by_cases hz : y.n = 0
        · have HE := Lib.hid (show okT t = false by rw [List.length_eq_zero_iff.1 (HYN.out.symm.trans hz)]; rfl)
          rw [hz]
          clear hz
          gi_wp2_with fail
          refine ⟨trivial, ?_⟩
          gi_wp2_with fail
          exact ⟨(KeepsOthers.setCell _ _ _).from _, rfl, by rw [World.size_setCell]; exact hs1, HFR.out.put, ⟨t, List.mem_of_getElem? HT.out, HE.out⟩, HBL.out.setCell (by show w.heap.size ≤ w.heap.size + 1; omega) _⟩
        · have hz1 : ¬ (y.n : Int) = 0 := by omega
          have hz2 : ((y.n : Int) == 0) = false := by simpa using hz
          cases hkt : okL t
          · have HE := Lib.hid (show okT t = false by unfold okT; rw [hkt]; simp)
            have HKT := Lib.hid hkt; clear hkt
            gi_wp2_with fail
            refine ⟨trivial, fun h => (by cases h), (CallsIn.inRound l (callsIn_wide.2 (implCells_is HKT.out _ y.a y.c y.n HYN.out.symm HYV.out (by omega)))).mono ?_⟩; rintro e w3 ⟨rfl, b3⟩
            have F3 := Lib.hid (HFR.out.next b3)
            have B3 := Lib.hid b3; clear b3 x0 x1 x2 x3
            obtain ⟨x0, x1, x2, x3, x6⟩ := id F3.out
            gi_wp2_with fail
            exact ⟨(Below.keeps B3.out).trans ((KeepsOthers.setCell _ _ _).from _), rfl, by rw [World.size_setCell]; exact Nat.le_trans hs1 B3.out.size, F3.out.put, ⟨t, List.mem_of_getElem? HT.out, HE.out⟩, (bel_tr HBL.out B3.out (Nat.le_refl _)).setCell (by show w.heap.size ≤ w.heap.size + 1; omega) _⟩
          · have HE := Lib.hid (show okT t = true by unfold okT; rw [hkt]; cases t with | nil => exact absurd (HYN.out.trans rfl) hz | cons _ _ => rfl)
            have HKT := Lib.hid hkt; clear hkt
            gi_wp2_with fail
            refine ⟨trivial, fun h => (by cases h), (CallsIn.inRound l (callsIn_wide.2 (implCells_is HKT.out _ y.a y.c y.n HYN.out.symm HYV.out (by omega)))).mono ?_⟩; rintro e w3 ⟨rfl, b3⟩
            have F3 := Lib.hid (HFR.out.next b3)
            have B3 := Lib.hid b3; clear b3 x0 x1 x2 x3
            gi_wp2_with fail
            refine ⟨Below.keeps B3.out, Kept.of_below B3.out, none, Or.inl rfl, rfl, Nat.le_trans hs1 B3.out.size, F3.out, fun j l' hj hl' => ?_, bel_tr HBL.out B3.out (Nat.le_refl _)⟩
            replace hj : j < (pre ++ [Value.slice y.a y.n y.c]).length := hj
            rw [List.length_append] at hj
            by_cases ej : j = pre.length
            · subst ej; rw [HT.out] at hl'; cases hl'; exact HE.out
            · exact HALL.out j l' (by simp at hj; omega) hl'
      · rintro D gg W hD ⟨-, hs1, hfr, hall, hbel⟩ hK
        replace hall : ∀ (j : Nat) (l : List Cel), j < (hs.map Hd.val).length → ss[j]? = some l → okT l = true := hall
        have HFR := Lib.hid hfr
        have HE := Lib.hid (okB_all HK.out (by rw [HSN.out]; omega) (fun j l hl => hall j l (by rw [List.length_map, HVS.out.1.1]; exact (List.getElem?_eq_some_iff.1 hl).1) hl)); clear hall
        obtain ⟨x0, x1, x2, x3, x4⟩ := hfr
        have HB := Lib.hid hbel; clear hbel
        gi_wp2_with fail
        refine ⟨by simp, .inl ⟨_, _, rfl, run_takeDeferred ((KeepsOthers.setCell _ _ _).same D _ hK rfl), ?_⟩⟩
        have x7 : ((W.setCell ⟨w.heap.size + 1, 0, none⟩ (.bool true)).putObj D (.deferred none)).cell? ⟨w.heap.size + 1, 0, none⟩ = some (.bool true) :=
          (World.cell?_of_block (World.putObj_heap_other (show w.heap.size + 1 ≠ D by omega))).trans (World.cell?_setCell_same' _ _ _ (by rw [x2]; rfl))
        refine ⟨.bool true, by simp [results, Try.f31, go_sem, x7], by rw [HE.out], ?_⟩
        exact (HB.out.setCell (by show w.heap.size ≤ w.heap.size + 1; omega) _).trans (put_below (by omega) (by rw [World.size_setCell]; exact HB.out.size))
      · rintro D k pre W hD hpre ⟨rfl, hs1, hfr, ⟨t, ht, hbad⟩, hbel⟩ hK
        have HE := Lib.hid (okB_bad (h := h) ht hbad)
        obtain ⟨x0, x1, x2, x3, x4⟩ := hfr
        gi_wp2_with fail
        refine ⟨by simp, .inl ⟨_, _, rfl, run_takeDeferred hK, ?_⟩⟩
        have x7 : (W.putObj D (.deferred none)).cell? ⟨w.heap.size + 1, 0, none⟩ = some (.bool false) := (World.cell?_of_block (World.putObj_heap_other (show w.heap.size + 1 ≠ D by omega))).trans x2
        refine ⟨.bool false, by simp [results, Try.f31, go_sem, x7], by rw [HE.out], ?_⟩
        exact hbel.trans (put_below (by omega) hbel.size)
end Go.Proofs.Ytopcjiaakefmeaa.Cl
namespace Go.Proofs.Ytopcjiaakefmeaa.Cl
open Go.RowKit Wd Rp Kp Ra
set_option linter.unusedVariables false
theorem specBarnO {B : Nat} {hv sv : Value} {h : List Cel} {ss : List (List Cel)} (w : World) (o : OwB B w hv sv h ss) (hlow : Low h ss) (hmod : Mod h ss) :
    Calls Try.prog 32 #[.agg #[hv, sv]] w fun e w' => e = .returned (.bool (okB h ss)) ∧ Below w.heap.size w w' := by
  obtain ⟨a, c, sa, sc, hs, rfl, rfl, h1, h2⟩ := o.view
  exact specBarn_any w a sa c sc _ _ h hs ss rfl rfl h1 h2 hlow hmod
theorem implBarnO {B : Nat} {hv sv : Value} {h : List Cel} {ss : List (List Cel)} (w : World) (o : OwB B w hv sv h ss) (hlow : Low h ss) :
    Calls Try.prog 31 #[.agg #[hv, sv]] w fun e w' => e = .returned (.bool (okB h ss)) ∧ Below w.heap.size w w' := by
  obtain ⟨a, c, sa, sc, hs, rfl, rfl, h1, h2⟩ := o.view
  exact implBarn_any w a sa c sc _ _ h hs ss rfl rfl h1 h2 hlow
theorem barnI_is {h : List Cel} {ss : List (List Cel)} {x : Bool} (e : okB h ss = x) (w : World) (a sa : Option Addr) (c sc n sn : Nat) (hs : List Hd) (hn : h.length = n) (hsn : ss.length = sn) (hv : Vw w a c h) (hvs : VwS w sa sc hs ss) (hlow : Low h ss) :
    Calls Try.prog 31 #[.agg #[.slice a n c, .slice sa sn sc]] w fun e w' => e = .returned (.bool x) ∧ Below w.heap.size w w' := by
  rw [← e]; exact implBarn_any w a sa c sc n sn h hs ss hn hsn hv hvs hlow
end Go.Proofs.Ytopcjiaakefmeaa.Cl
