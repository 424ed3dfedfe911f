/-
  The walk of FnSums at a code that is not too long: an expression ends at one place, has one kind, one depth, and what follows it changes none of them. (Made by gen_yr.py.)
-/
import Derived.Test.YtdgkinepoalfcaaDoorYq
import Derived.Test.YtdgkinepoalfcaaDoorYe
import Derived.Test.YtdgkinepoalfcaaDoorYk
import Derived.Test.YtdgkinepoalfcaaDoorRl
namespace Go.Proofs.YtdgkinepoalfcaaDoor.Cl
open Go.RowKit Wd Rp Cu Kp
set_option linter.unusedVariables false
theorem enA_zero (l : List Tk) : enA l 0 = en l 1 := by unfold enA; rw [if_neg (by decide)]; rfl
theorem ed_cut {t : List Tk} {m n : Nat} (h : en t 1 = some m) (hn : n < m) : edV (t.take n) 0 = -1 := edV_no (by rw [enA_zero]; exact en_cut n h hn)
theorem ed_all {t r : List Tk} {m : Nat} (h : en t 1 = some m) : edV (t ++ r) 0 = (m : Int) := by
  rw [edV_at (by rw [enA_zero]; exact en_app r h)]; omega
theorem fo_all {R : Type} (f : Tk → R) (g : Nat → R → R → R) (z : R) {t r : List Tk} {m : Nat} (h : en t 1 = some m) (hm : t.length = m) : foV f g z (t ++ r) 0 = (stk f g t).headD z := by
  unfold foV
  rw [enA_zero, en_app r h]
  show (stk f g (((t ++ r).drop 0).take m)).headD z = _
  rw [List.drop_zero, ← hm, List.take_left]
theorem fo_at {R : Type} (f : Tk → R) (g : Nat → R → R → R) (z : R) {l : List Tk} {k m : Nat} (h : enA l (k : Int) = some m) : foV f g z l (k : Int) = (stk f g ((l.drop k).take m)).headD z := by unfold foV; rw [h]; rfl
theorem dp_bd : ∀ u : Su, u.fl.length ≤ 4194304 → 1 ≤ u.fo dpF dpG ∧ u.fo dpF dpG ≤ u.fl.length
  | .one s, _ => ⟨(by show (1 : Int) ≤ 1; decide), (by show (1 : Int) ≤ ([s].length : Nat); simp)⟩
  | .two s a b, h => by
    have hl : (Su.two s a b).fl.length = 1 + a.fl.length + b.fl.length := by simp [Su.fl]; omega
    rw [hl] at h
    obtain ⟨a1, a2⟩ := dp_bd a (by omega)
    obtain ⟨b1, b2⟩ := dp_bd b (by omega)
    have e : Su.fo dpF dpG (.two s a b) = wrap64 (1 + mxI (a.fo dpF dpG) (b.fo dpF dpG)) := rfl
    have hm : 1 ≤ mxI (a.fo dpF dpG) (b.fo dpF dpG) ∧ mxI (a.fo dpF dpG) (b.fo dpF dpG) ≤ a.fl.length + b.fl.length := by unfold mxI; split <;> omega
    rw [e, hl]
    generalize mxI (a.fo dpF dpG) (b.fo dpF dpG) = x at hm
    have : wrap64 (1 + x) = 1 + x := by unfold wrap64; omega
    rw [this]; omega
theorem dpV_pos {l : List Tk} {i : Int} {m : Nat} (h : enA l i = some m) (hm : m ≤ 4194304) : 1 ≤ dpV l i := by
  obtain ⟨u, h1, h2, h3, h4, h5⟩ := foV_tree dpF dpG 0 h
  unfold dpV
  rw [h5]
  exact (dp_bd u (by omega)).1
theorem sm_bd {l : List Tk} (h : SmT l) : ∀ s ∈ l, s.length ≤ 4194304 := fun s hs => by have := h s hs; omega
def tailL : List Tk := [[43], [119, 104, 97, 116], [93]]
set_option maxHeartbeats 16000000 in
set_option maxRecDepth 100000 in
theorem sums_small (w : World) (a0 : Option Addr) (len0 cap0 : Nat) (hb : IsBytes w a0 len0) (hl : len0 ≤ 4096) (hL : Lib3 w) :
    Calls Tryd.prog 3 #[.slice a0 len0 cap0] w fun e w' => e = .returned (.bool true) ∧ Below w.heap.size w w' := by
  have HB := Lib.hid hb; clear hb
  have HL := Lib.hid hL; clear hL
  go_enter Tryd.func3, Tryd.ntmps3
  go_wp2_with fail
  refine (big_no _ _ _ _ hl).mono ?_; rintro e w0 ⟨rfl, rfl⟩
  go_wp2_with fail
  refine (drawSumEnd_any _ a0 len0 cap0 HB.out hl).mono ?_; rintro e w1 ⟨v, l, i, rfl, o1, n1, s1, i0, i1, b1⟩
  have HO := Lib.hid (o1.form.choose_spec.choose_spec.2)
  obtain ⟨la, lc, rfl, hv1⟩ := o1.form
  have HM := Lib.hid (sm_bd s1)
  have HS := Lib.hid s1
  have B1 := Lib.hid b1
  have HI := Lib.hid (show I64 i from ⟨by omega, by omega⟩)
  have HV := Lib.hid hv1; clear o1 s1 b1 hv1 HB HO
  generalize hn : l.length = n at *
  have HN := Lib.hid hn; clear hn
  have C1 := Lib.hid (implEnd_any w1 la lc l n i HI.out HN.out HV.out (by omega) HM.out (lib3_below HL.out B1.out))
  have C2 := Lib.hid (fun w2 (h : Below w1.heap.size w1 w2) => implKind_any w2 la lc l n i HI.out HN.out (HV.out.below h) (by omega) HM.out (lib3_below HL.out (B1.out.trans (h.mono B1.out.size))))
  have C3 := Lib.hid (fun w2 (h : Below w1.heap.size w1 w2) => implDepth_any w2 la lc l n i HI.out HN.out (HV.out.below h) (by omega) HM.out (lib3_below HL.out (B1.out.trans (h.mono B1.out.size))))
  have C4 := Lib.hid (fun w2 (h : Below w1.heap.size w1 w2) => specEnd_any w2 la lc l n i HI.out HN.out (HV.out.below h) (by omega) HM.out)
  have C5 := Lib.hid (fun w2 (h : Below w1.heap.size w1 w2) => specKind_any w2 la lc l n i HI.out HN.out (HV.out.below h) (by omega) HM.out)
  have C6 := Lib.hid (fun w2 (h : Below w1.heap.size w1 w2) => specDepth_any w2 la lc l n i HI.out HN.out (HV.out.below h) (by omega) HM.out)
  obtain ⟨ed, hed⟩ : ∃ ed, edV l i = ed := ⟨_, rfl⟩
  obtain ⟨kd, hkd⟩ : ∃ kd, kdV l i = kd := ⟨_, rfl⟩
  obtain ⟨dp, hdp⟩ : ∃ dp, dpV l i = dp := ⟨_, rfl⟩
  rw [hed] at C1 C4
  rw [hkd] at C2 C5
  rw [hdp] at C3 C6
  have HED := Lib.hid hed
  have HKD := Lib.hid hkd
  have HDP := Lib.hid hdp
  clear hed hkd hdp
  have q1 : (ed != ed) = false := by simp
  have q2 : (kd != kd) = false := by simp
  have q3 : (dp != dp) = false := by simp
  go_wp2_with fail
  refine C1.out.mono ?_; rintro e w2 ⟨rfl, b2⟩
  have D2 := Lib.hid b2; clear b2
  have E2 := Lib.hid (C2.out w2 D2.out)
  go_wp2_with fail
  refine E2.out.mono ?_; rintro e w3 ⟨rfl, b3⟩
  have D3 := Lib.hid (bel_tr D2.out b3 (Nat.le_refl _)); clear b3
  have E3 := Lib.hid (C3.out w3 D3.out)
  go_wp2_with fail
  refine E3.out.mono ?_; rintro e w4 ⟨rfl, b4⟩
  have D4 := Lib.hid (bel_tr D3.out b4 (Nat.le_refl _)); clear b4
  have E4 := Lib.hid (C4.out w4 D4.out)
  go_wp2_with fail
  refine E4.out.mono ?_; rintro e w5 ⟨rfl, b5⟩
  have D5 := Lib.hid (bel_tr D4.out b5 (Nat.le_refl _)); clear b5
  have E5 := Lib.hid (C5.out w5 D5.out)
  go_wp2_with fail
  refine E5.out.mono ?_; rintro e w6 ⟨rfl, b6⟩
  have D6 := Lib.hid (bel_tr D5.out b6 (Nat.le_refl _)); clear b6
  have E6 := Lib.hid (C6.out w6 D6.out)
  go_wp2_with fail
  refine E6.out.mono ?_; rintro e w7 ⟨rfl, b7⟩
  have D7 := Lib.hid (bel_tr D6.out b7 (Nat.le_refl _)); clear b7 E2 E3 E4 E5 E6 C1 C2 C3 C4 C5 C6 D2 D3 D4 D5 D6
  have DW := Lib.hid (B1.out.trans (D7.out.mono B1.out.size))
  have V7 := Lib.hid (HV.out.below D7.out); clear HV
  cases he : enA l i with
  | none =>
    obtain rfl : ed = -1 := by rw [← HED.out]; exact edV_none he
    obtain rfl : kd = 0 := by rw [← HKD.out]; exact foV_none _ _ _ he
    obtain rfl : dp = 0 := by rw [← HDP.out]; exact foV_none _ _ _ he
    clear he HED HKD HDP
    go_wp2_with fail
    go_ret
    exact ⟨rfl, DW.out⟩
  | some m =>
    obtain ⟨k, rfl, hkm, hlen, hent, hm1⟩ := enA_piece he
    have hmn : k + m ≤ n := by have := HN.out; omega
    obtain rfl : ed = (k : Int) + (m : Int) := by rw [← HED.out]; exact edV_some he
    have HK1 := Lib.hid (show (stk kdF kdG ((l.drop k).take m)).headD 0 = kd by rw [← HKD.out]; exact (fo_at kdF kdG 0 he).symm)
    have HD1 := Lib.hid (show (stk dpF dpG ((l.drop k).take m)).headD 0 = dp by rw [← HDP.out]; exact (fo_at dpF dpG 0 he).symm)
    have hdp1 : 1 ≤ dp := by rw [← HDP.out]; exact dpV_pos he (by omega)
    obtain ⟨ob, oc, hrun, hvv⟩ := cut1 24 (by kernel_rfl) (fun w => by exact Tryd.sizeOf9 w) la n lc k (k + m) (by omega) hmn (by have := V7.out.1; rw [txL_len] at this; have := HN.out; omega)
    rw [show k + m - k = m by omega] at hrun hvv
    have hr : ∀ w, (Instr.slice 24 (.slice la n lc) (some (.int .i64 (k : Int))) (some (.int .i64 ((k : Int) + (m : Int)))) none).run Tryd.prog w = .ok (.slice ob m oc) w := hrun
    have VO := Lib.hid (show V1 w7 ob oc (txL ((l.drop k).take m)) from by
      have := hvv w7 (txL l) V7.out (by rw [txL_len]; exact HN.out)
      unfold txL at this ⊢
      rwa [← List.map_drop, ← List.map_take] at this)
    have HT := Lib.hid hlen
    have HE := Lib.hid hent
    have HST := Lib.hid (show SmT ((l.drop k).take m) from (HS.out.drop k).take m)
    have hm40 : m ≤ 40 := by omega
    clear hrun hvv he hlen hent HED HKD HDP HS HM
    generalize (l.drop k).take m = t at *
    have p0 : ¬ (k : Int) + (m : Int) < 0 := by omega
    have LA := Lib.hid (show OT w7.heap.size (w7.alloc (.cells #[] 9)) (.slice (some ⟨w7.heap.size, 0, none⟩) 0 0) [] from O1.start (Nat.le_refl _))
    have VA := Lib.hid (VO.out.below (bel1 w7 (.cells #[] 9)))
    have BA := Lib.hid (bel1 w7 (.cells #[] 9))
    go_wp2_with (first
      | (at_builtin; refine append_tx rfl (.tmp 58) (.tmp 59) rfl (base := w7.heap.size) (l := []) (m := t) rfl rfl HT.out LA.out VA.out (by have := HT.out; simp; omega) (by simp) ?_; intro v8 w8 o8 g8; have O8 := Lib.hid (And.intro o8 (BA.out.grown g8 (by simp) (fun k hk => OT.lt LA.out k hk))); clear o8 g8; have O9 := Lib.hid (O8.out.1.next (bel1 w8 (.cells (tailL.map tv).toArray 9))); have V9 := Lib.hid (litT (B := 0) w8 tailL (by decide)); have B9 := Lib.hid (bel_tr O8.out.2 (bel1 w8 (.cells (tailL.map tv).toArray 9)) (Nat.le_refl _)))
      | (at_builtin; refine append_tx rfl (.tmp 60) (.tmp 61) rfl (base := w7.heap.size) (l := [] ++ t) (m := tailL) rfl rfl rfl O9.out V9.out (by have := HT.out; simp [tailL]; omega) B9.out.size ?_; intro v10 w10 o10 g10; have O10 := Lib.hid (And.intro o10 (B9.out.grown g10 B9.out.size (fun k hk => OT.lt O9.out k hk))); clear o10 g10))
    rw [List.nil_append] at O10
    have hmm : ((m : Int) == (m : Int)) = true := by simp
    have hkk : (kd == kd) = true := by simp
    have hdd : (dp == dp) = true := by simp
    obtain ⟨ma, mc, e10, hv10⟩ := O10.out.1.form
    subst e10
    have hml : (t ++ tailL).length = m + 3 := by rw [List.length_append, HT.out]; rfl
    rw [hml]
    have D10 := Lib.hid O10.out.2
    have DW10 := Lib.hid (DW.out.trans (D10.out.mono DW.out.size))
    have VO10 := Lib.hid (VO.out.below D10.out)
    have VM10 := Lib.hid hv10
    have HML := Lib.hid hml
    have hoc : m ≤ oc := by have := VO.out.1; rw [txL_len] at this; have := HT.out; omega
    have L10 := Lib.hid (lib3_below HL.out DW10.out)
    have SMM := Lib.hid (sm_bd (HST.out.app (show SmT tailL from fun s hs => by simp [tailL] at hs; rcases hs with rfl | rfl | rfl <;> decide)))
    have SMT := Lib.hid (sm_bd HST.out)
    clear hv10 hml O10 O9 V9 B9 O8 LA VA BA HST V7
    go_loopw [10] (fun i wr => ∃ j : Nat, j ≤ m ∧ i = .int .i64 j ∧ Below w10.heap.size w10 wr) (fun i _ => m - intV i)
    case atStart => exact ⟨0, Nat.zero_le _, rfl, Below.refl _ _⟩
    case round =>
      obtain ⟨j, hj, rfl, hbel⟩ := hrel
      have HBL := Lib.hid hbel; clear hbel
      by_cases hlt : j < m
      · have hcj : ∀ w, (Instr.slice 24 (.slice ob m oc) none (some (.int .i64 (j : Int))) none).run Tryd.prog w = .ok (.slice ob j oc) w := fun w => cut1_to 24 (by kernel_rfl) (fun w => by exact Tryd.sizeOf9 w) ob m oc j (by omega) hoc w
        have HJ := Lib.hid (implEnd_any wr ob oc (t.take j) j 0 ⟨by decide, by decide⟩ (by rw [List.length_take, HT.out]; omega) (by
            have := (VO10.out.below HBL.out).take j
            unfold txL at this ⊢
            rwa [← List.map_take] at this) (by omega) (fun s hs => SMT.out s (List.mem_of_mem_take hs)) (lib3_below L10.out HBL.out))
        rw [ed_cut HE.out hlt] at HJ
        go_wp2_with fail
        refine HJ.out.mono ?_; rintro e x1 ⟨rfl, c1⟩
        have G1 := Lib.hid (bel_tr HBL.out c1 (Nat.le_refl _)); clear c1
        go_wp2_with fail
        go_roundw
        case rel => exact ⟨j + 1, by omega, by go_num, G1.out⟩
        case measure => simp [intV]; omega
      · obtain rfl : j = m := by omega
        have r1 : (k : Int) < (k : Int) + (j : Int) := by omega
        have r1d : decide ((k : Int) < (k : Int) + (j : Int)) = true := by simpa using r1
        have r2 : (k : Int) + (j : Int) ≤ (n : Int) := by omega
        have r2d : decide ((k : Int) + (j : Int) ≤ (n : Int)) = true := by simpa using r2
        have r3d : decide ((1 : Int) ≤ dp) = true := by simpa using hdp1
        have C1 := Lib.hid (implEnd_any wr ma mc (t ++ tailL) (j + 3) 0 ⟨by decide, by decide⟩ HML.out (VM10.out.below HBL.out) (by omega) SMM.out (lib3_below L10.out HBL.out))
        rw [ed_all HE.out] at C1
        have C2 := Lib.hid (fun w2 (h : Below w10.heap.size w10 w2) => implKind_any w2 ma mc (t ++ tailL) (j + 3) 0 ⟨by decide, by decide⟩ HML.out (VM10.out.below h) (by omega) SMM.out (lib3_below L10.out h))
        rw [show kdV (t ++ tailL) 0 = kd from (fo_all kdF kdG 0 HE.out HT.out).trans HK1.out] at C2
        have C3 := Lib.hid (fun w2 (h : Below w10.heap.size w10 w2) => implDepth_any w2 ob oc t j 0 ⟨by decide, by decide⟩ HT.out (VO10.out.below h) (by omega) SMT.out (lib3_below L10.out h))
        rw [show dpV t 0 = dp from by
          have := fo_all dpF dpG 0 (r := []) HE.out HT.out
          rw [List.append_nil] at this
          exact this.trans HD1.out] at C3
        go_wp2_with fail
        refine C1.out.mono ?_; rintro e x1 ⟨rfl, c1⟩
        have G1 := Lib.hid (bel_tr HBL.out c1 (Nat.le_refl _)); clear c1
        have E2 := Lib.hid (C2.out x1 G1.out)
        go_wp2_with fail
        refine E2.out.mono ?_; rintro e x2 ⟨rfl, c2⟩
        have G2 := Lib.hid (bel_tr G1.out c2 (Nat.le_refl _)); clear c2
        have E3 := Lib.hid (C3.out x2 G2.out)
        go_wp2_with fail
        refine E3.out.mono ?_; rintro e x3 ⟨rfl, c3⟩
        have G3 := Lib.hid (bel_tr G2.out c3 (Nat.le_refl _)); clear c3
        go_wp2_with fail
        go_ret
        exact ⟨rfl, DW10.out.trans (G3.out.mono DW10.out.size)⟩
end Go.Proofs.YtdgkinepoalfcaaDoor.Cl
