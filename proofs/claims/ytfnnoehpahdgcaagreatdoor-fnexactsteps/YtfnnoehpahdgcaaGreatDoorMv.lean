/-
  The specification's run of a recipe: contract of spec.l10Means. (Made by gen_mv.py.)
-/
import Derived.Test.YtfnnoehpahdgcaaGreatDoorMu
namespace Go.Proofs.YtfnnoehpahdgcaaGreatDoor.Cl
open Go.RowKit Wd Rp Kp
set_option linter.unusedVariables false
/-- What a recipe comes to, the original bins where it did not come to its end. -/
def Sl.end_ (t : Sl) (gs : List Int) (bs : List Bi) (f : Int) : St0 := if (t.run gs ⟨0, bs, f⟩).c = 0 then t.run gs ⟨0, bs, f⟩ else ⟨(t.run gs ⟨0, bs, f⟩).c, bs, 0⟩
/-- A call that gives this end, its bins the call's own. -/
def EndP (B : Nat) (r : St0) (w : World) (e : Ending) (w' : World) : Prop := ∃ v, e = .returned (.agg #[.int .i64 r.c, v, .int .i64 r.f]) ∧ OwI B w' v r.b ∧ Below B w w'
theorem Rn.start {w0 w1 : World} {v : Value} {bs : List Bi} {f : Int} (T : Nat) (ho : OwI w0.heap.size w1 v bs) (hb : Below w0.heap.size w0 w1) (hl : bs.length ≤ 12) (hf : 0 ≤ f ∧ f ≤ 400) : Rn w0 w1.heap.size ⟨0, bs, f⟩ (w1.alloc (.cells #[.int .i64 0, v, .int .i64 f] T)) := by
  obtain ⟨⟨h0, h1, h2⟩, hf3, hl3⟩ := Tri.made (.int .i64 0) v (.int .i64 f) w1 T
  exact ⟨hb.size, hl3, hf3, h0, h2, ⟨v, h1, ho.next (bel1 _ _), fun e => by have := OwI.low ho _ e; omega⟩, hb.trans ((bel1 w1 _).mono hb.size), hl, hf⟩
set_option maxHeartbeats 8000000 in
set_option maxRecDepth 100000 in
theorem l10Means_any (w : World) (a : Option Addr) (cap : Nat) (l : List Tk) (n : Nat) (hn : l.length = n) (hl : n ≤ 4194304) (hm : ∀ s ∈ l, s.length ≤ 4194304) (hv : V1 w a cap (txL l)) (ba : Option Addr) (bc bn : Nat) (bs : List Bi) (hbn : bs.length = bn) (hb : VwI w ba bc bs) (hb12 : bn ≤ 12) (ga : Option Addr) (gc : Nat) (gs : List Int) (hg : V1 w ga gc (inL gs)) (hg3 : gs.length = 3) (f : Int) (hf : 0 ≤ f ∧ f ≤ 400) (t : Sl) (hw : t.wf 5) (ht : l = t.fl) :
    Calls Tryz.prog 53 #[.slice a n cap, .slice ba bn bc, .slice ga (3 : Nat) gc, .int .i64 f] w (EndP w.heap.size (t.end_ gs bs f) w) := by
  have HV := Lib.hid hv; clear hv
  have HVB := Lib.hid hb; clear hb
  have HG := Lib.hid hg; clear hg
  generalize hend : t.end_ gs bs f = fe
  have HEND := Lib.hid hend; clear hend
  go_enter Tryz.func53, Tryz.ntmps53
  go_wp2_with (first
    | (refine (l7Copy_any _ ba bc bs bn hbn (HVB.out.below (bel1 _ _)) (by omega)).mono ?_; rintro e w1 ⟨v1, rfl, o1, b1⟩; obtain ⟨va1, vc1, rfl, -⟩ := o1.view; rw [hbn] at o1 ⊢))
  have HT := Lib.hid (Tri.made (.int .i64 0) (.slice none 0 0) (.int .i64 0) w 30)
  generalize hw0 : w.alloc (.cells #[.int .i64 0, .slice none 0 0, .int .i64 0] 30) = w0 at *
  have HW0 := Lib.hid (show Below w.heap.size w w0 by rw [← hw0]; exact bel1 _ _)
  have HR1 := Lib.hid (Rn.start 99 o1 b1 (by omega) hf)
  have HZ := Lib.hid (show t.end_ gs bs f = (if (if (⟨0, bs, f⟩ : St0).c = 0 then t.run gs ⟨0, bs, f⟩ else ⟨0, bs, f⟩).c = 0 then (if (⟨0, bs, f⟩ : St0).c = 0 then t.run gs ⟨0, bs, f⟩ else ⟨0, bs, f⟩) else ⟨(if (⟨0, bs, f⟩ : St0).c = 0 then t.run gs ⟨0, bs, f⟩ else ⟨0, bs, f⟩).c, bs, 0⟩) by rw [if_pos rfl]; rfl)
  generalize hfin : (if (⟨0, bs, f⟩ : St0).c = 0 then t.run gs ⟨0, bs, f⟩ else ⟨0, bs, f⟩) = fin at HZ
  have HFIN := Lib.hid hfin
  have C := Lib.hid (show Rcx w0 a n cap l ga gc gs from ⟨hn, hl, hm, HV.out.below (by rw [← hw0]; exact bel1 _ _), HG.out.below (by rw [← hw0]; exact bel1 _ _), hg3⟩)
  have IH := Lib.hid (Sl.runC w0 w1.heap.size a cap l n ga gc gs C.out t hw)
  have D0 := Lib.hid (show l.drop 0 = t.fl from ht)
  clear o1 b1 hfin hw ht hm hg3
  go_loopg [10] (t.count + 1) (fun j q wr => ∃ (t' : Sl) (z : Nat) (s1 : St0), q = .int .i64 (z : Int) ∧ l.drop z = t'.fl ∧ t'.each (DeedR w0 w1.heap.size a n cap l ga gc gs) ∧ Rn w0 w1.heap.size s1 wr ∧ t'.count + 1 ≤ j ∧ z ≤ n ∧ (if s1.c = 0 then t'.run gs s1 else s1) = fin)
  case atStart => exact ⟨t, 0, ⟨0, bs, f⟩, by go_num, D0.out, IH.out, HR1.out, Nat.le_refl _, Nat.zero_le _, HFIN.out⟩
  case round =>
    clear HFIN IH D0 HR1
    obtain ⟨t', z, s1, rfl, hd2, ih2, hR2, hj, hzn, hfin⟩ := hrel
    have HFIN := Lib.hid hfin
    have HR2 := Lib.hid hR2
    have c2 := hR2.c
    clear hfin hR2
    by_cases hc : s1.c = 0
    · cases t' with
      | nil =>
        have hz : n ≤ z := by have := List.drop_eq_nil_iff.1 (show l.drop z = [] from hd2); omega
        obtain rfl : z = n := by omega
        have t5 : decide ((z : Int) < (z : Int)) = false := by simp
        have HX := Lib.hid (show s1 = fin by have := HFIN.out; rw [if_pos hc] at this; exact this)
        clear hd2 ih2
        rw [hc] at c2
        have HF : fe = s1 := by
          have e1 := HEND.out; have e2 := HZ.out
          rw [← HX.out, if_pos hc] at e2
          exact e1.symm.trans e2
        obtain ⟨v, cv, hO, -⟩ := HR2.out.b
        obtain ⟨va, vc, rfl, -⟩ := hO.view
        have HO := Lib.hid hO; clear hO
        have cf := HR2.out.f
        have hqp : w1.heap.size ≠ w.heap.size := by have := HR2.out.hB; have := HT.out.2.2; omega
        have HQ := Lib.hid (HT.out.below HR2.out.bw HT.out.2.2)
        have HQD := Lib.hid (HQ.out.below (B := wr.heap.size) (Below.refl _ _).drew HQ.out.2.2)
        obtain ⟨⟨q0, q1, q2⟩, ⟨r0, r1, r2⟩, r3⟩ := HQ.out
        have HW := Lib.hid (HW0.out.trans (HR2.out.bw.mono HW0.out.size))
        have HP := Lib.hid (HQD.out.put3 (x' := .int .i64 0) (y' := .slice va s1.b.length vc) (z' := .int .i64 s1.f))
        go_wp2_with fail
        refine wp_region_held_drew (S := fun z => z.cell? ⟨w1.heap.size, 1, none⟩ = some (.slice va s1.b.length vc) ∧ z.cell? ⟨w1.heap.size, 2, none⟩ = some (.int .i64 s1.f)) (by kernel_rfl) ⟨cv, cf⟩ (fun hHeld => ?_)
        refine wpAnyH_take (i := 0) (v := ?v0g) rfl (by kernel_rfl) (by kernel_rfl) (by kernel_rfl) (fun _ _ _ h => h) (Or.inl ⟨by rfl, ?hy0g⟩) (by assumption) ?rest0g
        case hy0g => (intro zz hSw; (try dsimp only at hSw); go_simp; (try with_reducible rfl))
        change wpAnyH _ _ _ _ _ _ _ (Act.put _ (some 44) _) _
        simp only [Act.put, List.setIfInBounds_toArray, List.set_cons_zero, List.set_cons_succ]
        refine wpAnyH_take (i := 1) (v := ?v1g) rfl (by kernel_rfl) (by kernel_rfl) (by kernel_rfl) (fun _ _ _ h => h) (Or.inl ⟨by rfl, ?hy1g⟩) (by assumption) ?rest1g
        case hy1g => (intro zz hSw; (try dsimp only at hSw); go_simp; (try with_reducible rfl))
        change wpAnyH _ _ _ _ _ _ _ (Act.put _ (some 45) _) _
        simp only [Act.put, List.setIfInBounds_toArray, List.set_cons_zero, List.set_cons_succ]
        refine wpAnyH_take (i := 2) (v := ?v2g) rfl (by kernel_rfl) (by kernel_rfl) (by kernel_rfl) (fun _ _ _ h => h) (Or.inl ⟨by rfl, ?hy2g⟩) (by assumption) ?rest2g
        case hy2g => (intro zz hSw; (try dsimp only at hSw); go_simp; (try with_reducible rfl))
        change wpAnyH _ _ _ _ _ _ _ (Act.put _ (some 46) _) _
        simp only [Act.put, List.setIfInBounds_toArray, List.set_cons_zero, List.set_cons_succ]
        refine wpAnyH_take (i := 3) (v := ?v3g) rfl (by kernel_rfl) (by kernel_rfl) (by kernel_rfl) (fun _ _ _ h => h) (Or.inl ⟨by rfl, ?hy3g⟩) (by assumption) ?rest3g
        case hy3g => (intro zz hSw; (try dsimp only at hSw); go_simp; (try with_reducible rfl))
        change wpAnyH _ _ _ _ _ _ _ (Act.put _ (some 47) _) _
        simp only [Act.put, List.setIfInBounds_toArray, List.set_cons_zero, List.set_cons_succ]
        refine wpAnyH_take (i := 4) (v := ?v4g) rfl (by kernel_rfl) (by kernel_rfl) (by kernel_rfl) (fun _ _ _ h => h) (Or.inl ⟨by rfl, ?hy4g⟩) (by assumption) ?rest4g
        case hy4g => (intro zz hSw; (try dsimp only at hSw); go_simp; (try with_reducible rfl))
        change wpAnyH _ _ _ _ _ _ _ (Act.put _ (some 48) _) _
        simp only [Act.put, List.setIfInBounds_toArray, List.set_cons_zero, List.set_cons_succ]
        refine wpAnyH_take (i := 5) (v := ?v5g) rfl (by kernel_rfl) (by kernel_rfl) (by kernel_rfl) (fun _ _ _ h => h) (Or.inl ⟨by rfl, ?hy5g⟩) (by assumption) ?rest5g
        case hy5g => (intro zz hSw; (try dsimp only at hSw); go_simp; (try with_reducible rfl))
        change wpAnyH _ _ _ _ _ _ _ (Act.put _ (some 49) _) _
        simp only [Act.put, List.setIfInBounds_toArray, List.set_cons_zero, List.set_cons_succ]
        refine wpAnyH_take (i := 6) (v := ?v6g) rfl (by kernel_rfl) (by kernel_rfl) (by kernel_rfl) (fun _ _ _ h => h) (Or.inl ⟨by rfl, ?hy6g⟩) (by assumption) ?rest6g
        case hy6g => (intro zz hSw; (try dsimp only at hSw); go_simp; (try with_reducible rfl))
        change wpAnyH _ _ _ _ _ _ _ (Act.put _ (some 50) _) _
        simp only [Act.put, List.setIfInBounds_toArray, List.set_cons_zero, List.set_cons_succ]
        refine wpAnyH_take (i := 7) (v := ?v7g) rfl (by kernel_rfl) (by kernel_rfl) (by kernel_rfl) (fun _ _ _ h => h) (Or.inl ⟨by rfl, ?hy7g⟩) (by assumption) ?rest7g
        case hy7g => (intro zz hSw; (try dsimp only at hSw); go_simp; (try with_reducible rfl))
        change wpAnyH _ _ _ _ _ _ _ (Act.put _ (some 51) _) _
        simp only [Act.put, List.setIfInBounds_toArray, List.set_cons_zero, List.set_cons_succ]
        refine wpAnyH_take (i := 8) (v := ?v8g) rfl (by kernel_rfl) (by kernel_rfl) (by kernel_rfl) (fun _ _ _ h => h) (Or.inl ⟨by rfl, ?hy8g⟩) (by assumption) ?rest8g
        case hy8g => (intro zz hSw; (try dsimp only at hSw); go_simp; (try with_reducible rfl))
        change wpAnyH _ _ _ _ _ _ _ (Act.put _ (some 52) _) _
        simp only [Act.put, List.setIfInBounds_toArray, List.set_cons_zero, List.set_cons_succ]
        refine wpAnyH_ready (rs := [9]) (by kernel_rfl) (by simp) (AllReadyH.cons rfl (fun K hK => ?_) (AllReadyH.nil))
        go_simp
        refine hK.out _ (put3 wr.drew w.heap.size (.int .i64 0) (.slice va s1.b.length vc) (.int .i64 s1.f)) ⟨put3_cell hqp cv, put3_cell hqp cf⟩ (fun hHeld => ?_)
        clear hK K
        refine wpAnyH_done (by kernel_rfl) ?_ _
        clear hHeld
        obtain ⟨⟨q0', q1', q2'⟩, -, -⟩ := HP.out
        go_wp2_with fail
        refine bodyPost_ret (v := .agg #[.int .i64 0, .slice va s1.b.length vc, .int .i64 s1.f]) (by simp [results, Tryz.results53, go_sem, q0', q1', q2']) rfl ?_
        rw [HF]
        refine ⟨.slice va s1.b.length vc, by rw [hc], (OwI.put3 (HO.out.next (Below.refl _ _).drew) HT.out.2.2).mono HW0.out.size, put3_below (HW.out.drew) (Nat.le_refl _)⟩
      | cons s t' =>
        obtain ⟨j, rfl⟩ : ∃ j', gk = j' + 1 := ⟨gk - 1, by omega⟩
        have hd3 : l.drop z = s.fl ++ t'.fl := by rw [hd2, Sl.fl]
        rw [Sl.each] at ih2
        have HD := Lib.hid (ih2.1 z _ s1 wr hd3 hc HR2.out)
        have HI2 := Lib.hid ih2.2
        have HD4 := Lib.hid (drop_more hd3)
        have hjj : t'.count + 1 ≤ j := by rw [Sl.count] at hj; omega
        have hsp := s.pos
        have hlz : z + s.fl.length ≤ n ∧ z < n := by have := congrArg List.length hd3; rw [List.length_drop, List.length_append] at this; omega
        have HX := Lib.hid (show (if (s.run gs s1).c = 0 then t'.run gs (s.run gs s1) else s.run gs s1) = fin by have := HFIN.out; rw [if_pos hc, Sl.run] at this; exact this)
        have t5 : (z : Int) < (n : Int) := by omega
        have t6 : decide (z < n) = true := by simpa using hlz.2
        have hl2 := hlz.1
        clear hd2 hd3 ih2 HFIN hj hsp hlz
        generalize s.run gs s1 = s2 at *
        generalize z + s.fl.length = z2 at *
        rw [hc] at c2
        go_wp2_with fail
        refine HD.out.mono ?_; rintro e w2 ⟨rfl, hR3⟩
        have HR3 := Lib.hid hR3; clear hR3
        go_wp2_with fail
        go_roundg j
        case measure => omega
        case rel => exact ⟨t', z2, s2, rfl, HD4.out, HI2.out, HR3.out, hjj, hl2, HX.out⟩
    · have HX := Lib.hid (show s1 = fin by have := HFIN.out; rw [if_neg hc] at this; exact this)
      have t0 : (s1.c == 0) = false := beq_eq_false_iff_ne.2 hc
      have t1 : (s1.c != 0) = true := by simpa using hc
      clear hd2 ih2
      have HF : fe = ⟨s1.c, bs, 0⟩ := by
        have e1 := HEND.out; have e2 := HZ.out
        rw [← HX.out, if_neg hc] at e2
        exact e1.symm.trans e2
      have hqp : w1.heap.size ≠ w.heap.size := by have := HR2.out.hB; have := HT.out.2.2; omega
      have HQ := Lib.hid (HT.out.below HR2.out.bw HT.out.2.2)
      have HW := Lib.hid (HW0.out.trans (HR2.out.bw.mono HW0.out.size))
      have HCP := Lib.hid (l7Copy_any wr.drew ba bc bs bn hbn (HVB.out.below HW.out.drew) (by omega))
      go_wp2_with fail
      refine wp_region_held_drew (S := fun z => z.cell? ⟨w1.heap.size, 0, none⟩ = some (.int .i64 s1.c)) (by kernel_rfl) c2 (fun hHeld => ?_)
      refine wpAnyH_take (i := 0) (v := ?v0h) rfl (by kernel_rfl) (by kernel_rfl) (by kernel_rfl) (fun _ _ _ h => h) (Or.inl ⟨by rfl, ?hy0h⟩) (by assumption) ?rest0h
      case hy0h => (intro zz hSw; (try dsimp only at hSw); go_simp; (try with_reducible rfl))
      change wpAnyH _ _ _ _ _ _ _ (Act.put _ (some 37) _) _
      simp only [Act.put, List.setIfInBounds_toArray, List.set_cons_zero, List.set_cons_succ]
      refine wpAnyH_take (i := 1) (v := ?v1h) rfl (by kernel_rfl) (by kernel_rfl) (by kernel_rfl) (fun _ _ _ h => h) (Or.inl ⟨by rfl, ?hy1h⟩) (by assumption) ?rest1h
      case hy1h => (intro zz hSw; (try dsimp only at hSw); go_simp; (try with_reducible rfl))
      change wpAnyH _ _ _ _ _ _ _ (Act.put _ (some 38) _) _
      simp only [Act.put, List.setIfInBounds_toArray, List.set_cons_zero, List.set_cons_succ]
      refine wpAnyH_take (i := 2) (v := ?v2h) rfl (by kernel_rfl) (by kernel_rfl) (by kernel_rfl) (fun _ _ _ h => h) (Or.inl ⟨by rfl, ?hy2h⟩) (by assumption) ?rest2h
      case hy2h => (intro zz hSw; (try dsimp only at hSw); go_simp; (try with_reducible rfl))
      change wpAnyH _ _ _ _ _ _ _ (Act.put _ (some 39) _) _
      simp only [Act.put, List.setIfInBounds_toArray, List.set_cons_zero, List.set_cons_succ]
      refine wpAnyH_take (i := 3) (v := ?v3h) rfl (by kernel_rfl) (by kernel_rfl) (by kernel_rfl) (fun _ _ _ h => h) (Or.inl ⟨by rfl, ?hy3h⟩) (by assumption) ?rest3h
      case hy3h => (intro zz hSw; (try dsimp only at hSw); go_simp; (try with_reducible rfl))
      change wpAnyH _ _ _ _ _ _ _ (Act.put _ (some 40) _) _
      simp only [Act.put, List.setIfInBounds_toArray, List.set_cons_zero, List.set_cons_succ]
      refine wpAnyH_take (i := 4) (v := ?v4h) rfl (by kernel_rfl) (by kernel_rfl) (by kernel_rfl) (fun _ _ _ h => h) (Or.inl ⟨by rfl, ?hy4h⟩) (by assumption) ?rest4h
      case hy4h => (intro zz hSw; (try dsimp only at hSw); go_simp; (try with_reducible rfl))
      change wpAnyH _ _ _ _ _ _ _ (Act.put _ (some 41) _) _
      simp only [Act.put, List.setIfInBounds_toArray, List.set_cons_zero, List.set_cons_succ]
      refine wpAnyH_ready (rs := [5]) (by kernel_rfl) (by simp) (AllReadyH.cons rfl (fun K hK => ?_) (AllReadyH.nil))
      go_simp
      refine HCP.out.mono ?_; rintro e w3 ⟨v3, rfl, o3, b3⟩
      obtain ⟨va3, vc3, rfl, -⟩ := o3.view
      rw [hbn] at o3 ⊢
      have O3 := Lib.hid o3
      have HW3 := Lib.hid (bel_tr HW.out.drew b3 (Nat.le_refl _))
      have C3 := Lib.hid ((b3.cell (p := ⟨w1.heap.size, 0, none⟩) HR2.out.hp).trans c2)
      have HQ3 := Lib.hid ((HQ.out.below (B := wr.heap.size) (Below.refl _ _).drew HQ.out.2.2).below b3 HQ.out.2.2)
      have HP := Lib.hid (HQ3.out.put3 (x' := .int .i64 s1.c) (y' := .slice va3 bn vc3) (z' := .int .i64 0))
      refine hK.out _ _ C3.out (fun hHeld => ?_)
      clear hK K o3 b3
      obtain ⟨⟨q0, q1, q2⟩, ⟨r0, r1, r2⟩, r3⟩ := HQ3.out
      refine wpAnyH_take (i := 6) (v := ?v6h) rfl (by kernel_rfl) (by kernel_rfl) (by kernel_rfl) (fun _ _ _ h => h) (Or.inl ⟨by rfl, ?hy6h⟩) (by assumption) ?rest6h
      case hy6h => (intro zz hSw; (try dsimp only at hSw); go_simp; (try with_reducible rfl))
      change wpAnyH _ _ _ _ _ _ _ (Act.put _ (some 43) _) _
      simp only [Act.put, List.setIfInBounds_toArray, List.set_cons_zero, List.set_cons_succ]
      refine wpAnyH_ready (rs := [7]) (by kernel_rfl) (by simp) (AllReadyH.cons rfl (fun K hK => ?_) (AllReadyH.nil))
      go_simp
      refine hK.out _ (put3 w3 w.heap.size (.int .i64 s1.c) (.slice va3 bn vc3) (.int .i64 0)) (put3_cell hqp C3.out) (fun hHeld => ?_)
      clear hK K
      refine wpAnyH_done (by kernel_rfl) ?_ _
      clear hHeld
      obtain ⟨⟨q0', q1', q2'⟩, -, -⟩ := HP.out
      go_wp2_with fail
      refine bodyPost_ret (v := .agg #[.int .i64 s1.c, .slice va3 bn vc3, .int .i64 0]) (by simp [results, Tryz.results53, go_sem, q0', q1', q2']) rfl ?_
      rw [HF]
      refine ⟨.slice va3 bn vc3, rfl, (OwI.put3 O3.out (Nat.lt_of_lt_of_le HT.out.2.2 HR2.out.bw.size)).mono HW.out.size, put3_below HW3.out (Nat.le_refl _)⟩
end Go.Proofs.YtfnnoehpahdgcaaGreatDoor.Cl
