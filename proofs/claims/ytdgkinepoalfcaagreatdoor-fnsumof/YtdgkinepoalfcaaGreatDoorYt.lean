/-
  The walk of FnSumOf at a code that is not too long: the value of an expression is that of its operator on the values of its operands. (Made by gen_yt.py.)
-/
import Derived.Test.YtdgkinepoalfcaaGreatDoorYu
import Derived.Test.YtdgkinepoalfcaaGreatDoorYn
import Derived.Test.YtdgkinepoalfcaaGreatDoorYs
import Derived.Test.YtdgkinepoalfcaaGreatDoorWo
namespace Go.Proofs.YtdgkinepoalfcaaGreatDoor.Cl
open Go.RowKit Wd Rp Cu Kp
set_option linter.unusedVariables false
theorem thB_3 (x y z : Int) : thB [x, y, z] = (isW x && (isW y && isW z)) := by
  unfold thB
  simp
theorem ops_at {c : Tk} {j : Nat} (h : opsL[j]? = some c) (hn : ∀ (i : Nat) (y : Tk), i < j → opsL[i]? = some y → y ≠ c) : opN c = j + 1 := by unfold opN; rw [at?_at h hn]
theorem ops_no {c : Tk} (hn : ∀ (i : Nat) (y : Tk), i < 7 → opsL[i]? = some y → y ≠ c) : isO c = false := by
  unfold isO opN
  rw [at?_none fun i y hy => hn i y (by have := (List.getElem?_eq_some_iff.1 hy).1; simp [opsL] at this; omega) hy]; rfl
theorem gs3 {gs : List Int} (h : gs.length = 3) : ∃ x y z, gs = [x, y, z] := by
  match gs, h with
  | [x, y, z], _ => exact ⟨x, y, z, rfl⟩
set_option maxHeartbeats 32000000 in
set_option maxRecDepth 100000 in
theorem sumOf_small (w : World) (a0 : Option Addr) (len0 cap0 : Nat) (hb : IsBytes w a0 len0) (hl : len0 ≤ 4096) (hL : Lib3 w) :
    Calls Tryz.prog 3 #[.slice a0 len0 cap0] w fun e w' => e = .returned (.bool true) ∧ Below w.heap.size w w' := by
  have HB := Lib.hid hb; clear hb
  have HL := Lib.hid hL; clear hL
  go_enter Tryz.func3, Tryz.ntmps3
  go_wp2_with fail
  refine (big_no _ _ _ _ hl).mono ?_; rintro e w0 ⟨rfl, rfl⟩
  go_wp2_with fail
  refine (drawSumOf_any _ a0 len0 cap0 HB.out hl).mono ?_; rintro e w1 ⟨v, l, i, bv, bs, ga, gn, gc, gs, rfl, o1, n1, s1, i0, i1, ob, nb, sb, hgn, hgv, hg4, hgi, b1⟩
  obtain ⟨la, lc, rfl, hv1⟩ := o1.form
  obtain ⟨ba, bc, rfl, hbv1⟩ := ob.view
  have HM := Lib.hid (show ∀ s ∈ l, s.length ≤ 4194304 from fun s hs => by have := s1 s hs; omega)
  have HBM := Lib.hid (show ∀ c ∈ bs, c.n.size ≤ 9223372036854775806 from fun c hc => by have := sb c hc; omega)
  have B1 := Lib.hid b1
  have HI := Lib.hid (show I64 i from ⟨by omega, by omega⟩)
  have HV := Lib.hid hv1
  have HBV := Lib.hid hbv1
  have HGV := Lib.hid hgv
  have HGN := Lib.hid hgn
  clear o1 s1 ob sb b1 hv1 hbv1 hgv hgi HB hgn
  generalize hn : l.length = n at *
  have HN := Lib.hid hn; clear hn
  generalize hbn : bs.length = bn at *
  have HBN := Lib.hid hbn; clear hbn
  have C1 := Lib.hid (fun (j : Int) (hj : I64 j) w2 (h : Below w1.heap.size w1 w2) => implSum_any w2 la lc l n j hj HN.out (HV.out.below h) (by omega) HM.out (lib3_below HL.out (B1.out.trans (h.mono B1.out.size))) ba bc bn bs HBN.out (HBV.out.below h) (by omega) ga gc gn gs HGN.out (HGV.out.below h) (by omega))
  have C2 := Lib.hid (fun w2 (h : Below w1.heap.size w1 w2) => specSum_any w2 la lc l n i HI.out HN.out (HV.out.below h) (by omega) HM.out ba bc bn bs HBN.out (HBV.out.below h) (by omega) HBM.out ga gc gn gs HGN.out (HGV.out.below h) (by omega))
  have C3 := Lib.hid (fun w2 (h : Below w1.heap.size w1 w2) => specKind_any w2 la lc l n i HI.out HN.out (HV.out.below h) (by omega) HM.out)
  have C4 := Lib.hid (fun w2 (h : Below w1.heap.size w1 w2) => specBins2_any w2 ba bc bs bn HBN.out (HBV.out.below h) HBM.out (by omega))
  obtain ⟨r, hr⟩ : ∃ r, vlV l i bs gs = r := ⟨_, rfl⟩
  obtain ⟨kd, hkd⟩ : ∃ kd, kdV l i = kd := ⟨_, rfl⟩
  have D1 := Lib.hid (C1.out i HI.out w1 (Below.refl _ _))
  rw [hr] at C2 D1
  rw [hkd] at C3
  have HR := Lib.hid hr
  have HKD := Lib.hid hkd
  clear hr hkd
  obtain ⟨rv, rb⟩ := r
  simp only at C2 D1
  have q1 : (rb != rb) = false := by simp
  have q2 : (rv != rv) = false := by simp
  go_wp2_with fail
  refine D1.out.mono ?_; rintro e w2 ⟨rfl, b2⟩
  have D2 := Lib.hid b2; clear b2 D1
  have E2 := Lib.hid (C2.out w2 D2.out)
  go_wp2_with fail
  refine E2.out.mono ?_; rintro e w3 ⟨rfl, b3⟩
  have D3 := Lib.hid (bel_tr D2.out b3 (Nat.le_refl _)); clear b3 E2 C2 D2
  have E3 := Lib.hid (C3.out w3 D3.out)
  go_wp2_with fail
  refine E3.out.mono ?_; rintro e w4 ⟨rfl, b4⟩
  have D4 := Lib.hid (bel_tr D3.out b4 (Nat.le_refl _)); clear b4 E3 C3 D3
  have DW := Lib.hid (B1.out.trans (D4.out.mono B1.out.size))
  by_cases hk : kd = 0
  · subst hk
    have hrr := vlV_0 (bs := bs) (gs := gs) HKD.out
    rw [HR.out] at hrr
    cases hrr
    go_wp2_with fail
    go_ret
    exact ⟨rfl, DW.out⟩
  have hk2 : (kd == 0) = false := by rw [beq_eq_false_iff_ne]; exact hk
  have HK0 := Lib.hid (show kdV l i ≠ 0 by rw [HKD.out]; exact hk)
  have E4 := Lib.hid (C4.out w4 D4.out); clear C4
  cases hok : okI bs
  · have hrr := vlV_1 (l := l) (i := i) (gs := gs) hok
    rw [HR.out] at hrr
    cases hrr
    rw [hok] at E4
    go_wp2_with fail
    refine E4.out.mono ?_; rintro e w5 ⟨rfl, b5⟩
    have D5 := Lib.hid (bel_tr DW.out b5 (Nat.le_refl _))
    go_wp2_with fail
    go_ret
    exact ⟨rfl, D5.out⟩
  rw [hok] at E4
  by_cases hg3 : gn = 3
  rotate_left
  · have hrr := vlV_2 (l := l) (i := i) (bs := bs) (gs := gs) (by
      cases h : thB gs with
      | false => rfl
      | true => exact absurd ((HGN.out).symm.trans (thB_len h)) hg3)
    rw [HR.out] at hrr
    cases hrr
    have q3 : ((gn : Int) != 3) = true := by simp; omega
    go_wp2_with fail
    refine E4.out.mono ?_; rintro e w5 ⟨rfl, b5⟩
    have D5 := Lib.hid (bel_tr DW.out b5 (Nat.le_refl _))
    go_wp2_with fail
    go_ret
    exact ⟨rfl, D5.out⟩
  subst hg3
  obtain ⟨x0, x1, x2, rfl⟩ := gs3 HGN.out
  obtain ⟨gg, go, rfl, hgg, g0⟩ := HGV.out.iv (k := 0) (n := x0) rfl
  obtain ⟨gg1, go1, eg1, -, g1⟩ := HGV.out.iv (k := 1) (n := x1) rfl
  cases eg1
  obtain ⟨gg2, go2, eg2, -, g2⟩ := HGV.out.iv (k := 2) (n := x2) rfl
  cases eg2
  rw [Nat.add_zero] at g0
  have HTB := Lib.hid (thB_3 x0 x1 x2)
  have HW := Lib.hid (fun (x : Int) w => specWordOk_any x w)
  go_wp2_with fail
  refine E4.out.mono ?_; rintro e w5 ⟨rfl, b5⟩
  have D5 := Lib.hid (bel_tr D4.out b5 (Nat.le_refl _)); clear b5 E4
  have DW5 := Lib.hid (B1.out.trans (D5.out.mono B1.out.size))
  have c0 : w5.cell? ⟨gg, go, none⟩ = some (.int .i64 x0) := (D5.out.cell (p := ⟨gg, go, none⟩) hgg).trans g0
  have c1 : w5.cell? ⟨gg, go + 1, none⟩ = some (.int .i64 x1) := (D5.out.cell (p := ⟨gg, go + 1, none⟩) hgg).trans g1
  have c2 : w5.cell? ⟨gg, go + 2, none⟩ = some (.int .i64 x2) := (D5.out.cell (p := ⟨gg, go + 2, none⟩) hgg).trans g2
  clear g0 g1 g2
  cases h0 : isW x0
  · skip
    have hrr := vlV_2 (l := l) (i := i) (bs := bs) (gs := [x0, x1, x2]) (by rw [HTB.out, h0]; simp)
    rw [HR.out] at hrr
    cases hrr
    go_wp2_with fail
    refine (HW.out x0 _).mono ?_; rintro e w6 ⟨rfl, rfl⟩
    rw [h0]
    go_wp2_with fail
    go_ret
    exact ⟨rfl, DW5.out⟩
  cases h1 : isW x1
  · skip
    have hrr := vlV_2 (l := l) (i := i) (bs := bs) (gs := [x0, x1, x2]) (by rw [HTB.out, h0, h1]; simp)
    rw [HR.out] at hrr
    cases hrr
    go_wp2_with fail
    refine (HW.out x0 _).mono ?_; rintro e w6 ⟨rfl, rfl⟩
    rw [h0]
    go_wp2_with fail
    refine (HW.out x1 _).mono ?_; rintro e w6 ⟨rfl, rfl⟩
    rw [h1]
    go_wp2_with fail
    go_ret
    exact ⟨rfl, DW5.out⟩
  cases h2 : isW x2
  · skip
    have hrr := vlV_2 (l := l) (i := i) (bs := bs) (gs := [x0, x1, x2]) (by rw [HTB.out, h0, h1, h2]; simp)
    rw [HR.out] at hrr
    cases hrr
    go_wp2_with fail
    refine (HW.out x0 _).mono ?_; rintro e w6 ⟨rfl, rfl⟩
    rw [h0]
    go_wp2_with fail
    refine (HW.out x1 _).mono ?_; rintro e w6 ⟨rfl, rfl⟩
    rw [h1]
    go_wp2_with fail
    refine (HW.out x2 _).mono ?_; rintro e w6 ⟨rfl, rfl⟩
    rw [h2]
    go_wp2_with fail
    go_ret
    exact ⟨rfl, DW5.out⟩
  have HTH := Lib.hid (show thB [x0, x1, x2] = true by rw [HTB.out, h0, h1, h2]; rfl)
  have hw1 := sum_word HK0.out hok HTH.out
  rw [HR.out] at hw1
  simp only at hw1
  obtain ⟨m, he⟩ := kdV_some HK0.out
  obtain ⟨k, rfl, hkm, -, -, hm1⟩ := enA_piece he
  have hkn : k < n := by have := HN.out; omega
  clear he hkm hm1 m
  obtain ⟨c, hc⟩ : ∃ c, l[k]? = some c := ⟨l[k]'(by have := HN.out; omega), List.getElem?_eq_getElem _⟩
  obtain ⟨lg, lo, rfl, hlg, hlc⟩ := HV.out.tx hc
  have HC := Lib.hid hc
  have HOK := Lib.hid hok
  clear hc hok
  go_wp2_with fail
  refine (HW.out x0 _).mono ?_; rintro e w6 ⟨rfl, rfl⟩
  rw [h0]
  go_wp2_with fail
  refine (HW.out x1 _).mono ?_; rintro e w6 ⟨rfl, rfl⟩
  rw [h1]
  go_wp2_with fail
  refine (HW.out x2 _).mono ?_; rintro e w6 ⟨rfl, rfl⟩
  rw [h2]
  clear c0 c1 c2 h0 h1 h2
  have HLC := Lib.hid hlc; clear hlc
  have HLIT := Lib.hid (bel1 w5 (.cells (opsL.map tv).toArray 9))
  have HOPS := Lib.hid (litT (B := 0) w5 opsL (by decide))
  have HEND := Lib.hid (fun (j : Int) (hj : I64 j) w2 (h : Below w1.heap.size w1 w2) => specEnd_any w2 _ lc l n j hj HN.out (HV.out.below h) (by omega) HM.out)
  have HDID := Lib.hid (fun (o a b : Int) w => specDid_any o a b w)
  cases rb
  · skip
    go_wp2_with fail
    generalize hw6 : w5.alloc (.cells #[.string ⟨#[43]⟩, .string ⟨#[45]⟩, .string ⟨#[42]⟩, .string ⟨#[47]⟩, .string ⟨#[60]⟩, .string ⟨#[61]⟩, .string ⟨#[38]⟩] 9) = w6
    have D6 := Lib.hid (show Below w1.heap.size w1 w6 from by rw [← hw6]; exact bel_tr D5.out HLIT.out (Nat.le_refl _))
    have VO6 := Lib.hid (show V1 w6 (some ⟨w5.heap.size, 0, none⟩) 7 (txL opsL) from by rw [← hw6]; exact HOPS.out)
    clear hw6
    generalize w5.heap.size = Q at *
    go_loopw [13] (fun x wr => ∃ j : Nat, j ≤ 7 ∧ x = .int .i64 j ∧ (∀ (t : Nat) (y : Tk), t < j → opsL[t]? = some y → y ≠ c) ∧ Below w6.heap.size w6 wr) (fun x _ => 7 - intV x)
    case atStart => exact ⟨0, Nat.zero_le _, rfl, (fun t y h => by omega), Below.refl _ _⟩
    case round =>
      obtain ⟨j, hj, rfl, hno, hbel⟩ := hrel
      have HNO := Lib.hid hno
      have HBL := Lib.hid hbel
      have DR := Lib.hid (show Below w1.heap.size w1 wr from bel_tr D6.out hbel (Nat.le_refl _)); clear hno hbel
      by_cases hlt : j < 7
      · have hjl : j < opsL.length := by simpa [opsL] using hlt
        obtain ⟨t, ht⟩ : ∃ t, opsL[j]? = some t := ⟨opsL[j], List.getElem?_eq_getElem _⟩
        obtain ⟨qg, qo, eq0, hqg, t0⟩ := VO6.out.tx ht
        cases eq0
        rw [Nat.zero_add] at t0
        have e0 : wr.cell? ⟨lg, lo + k, none⟩ = some (.string (tx c)) := (DR.out.cell (p := ⟨lg, lo + k, none⟩) hlg).trans HLC.out
        have e1 : wr.cell? ⟨Q, j, none⟩ = some (.string (tx t)) := (HBL.out.cell (p := ⟨Q, j, none⟩) hqg).trans t0
        have HT := Lib.hid ht
        clear t0 ht
        by_cases hct : c = t
        · subst hct
          have hop : opN c = j + 1 := ops_at HT.out HNO.out
          have hio : isO c = true := by unfold isO; rw [hop]; simp
          obtain ⟨p, x, y, f1, f2, f3, f4, f5⟩ := sum_parts HK0.out HOK.out HTH.out HC.out hio
          rw [HR.out, hop] at f4
          have HF4 := Lib.hid f4
          have qq : ((tx c).toList == (tx c).toList) = true := by simp
          have G1 := Lib.hid (fun w2 h => HEND.out ((k : Int) + 1) ⟨by omega, by omega⟩ w2 h)
          rw [f1] at G1
          have G2 := Lib.hid (fun w2 h => C1.out ((k : Int) + 1) ⟨by omega, by omega⟩ w2 h)
          rw [f2] at G2
          have G3 := Lib.hid (fun w2 h => C1.out ((k : Int) + 1 + (p : Int)) ⟨by have := HN.out; omega, by have := HN.out; omega⟩ w2 h)
          rw [f3] at G3
          have G4 := Lib.hid (fun w => HDID.out ((j : Int) + 1) x.1 y.1 w)
          obtain ⟨x, xb⟩ := x
          obtain ⟨y, yb⟩ := y
          simp only at G2 G3 G4
          have hpn : k + 1 + p ≤ 40 := by have := HN.out; omega
          clear f1 f2 f3 f4 f5 hop hio HT
          generalize tx c = cx at *
          cases xb
          · have hf := HF4.out.trans (vlG_no1 rfl)
            cases hf
            generalize didV ((j : Int) + 1) x y = dv at *
            generalize didB ((j : Int) + 1) x y = db at *
            go_wp2_with fail
            go_quiet (fail)
            go_wp2_with fail
            refine (G1.out _ (bel_drewN DR.out _)).mono ?_; rintro e y1 ⟨rfl, b7⟩
            have D7 := Lib.hid (bel_tr (bel_drewN DR.out _) b7 (Nat.le_refl _)); clear b7
            have N2 := Lib.hid (G2.out _ D7.out)
            go_wp2_with fail
            refine N2.out.mono ?_; rintro e y2 ⟨rfl, b8⟩
            have D8 := Lib.hid (bel_tr D7.out b8 (Nat.le_refl _)); clear b8 N2
            have N3 := Lib.hid (G3.out _ D8.out)
            go_wp2_with fail
            refine N3.out.mono ?_; rintro e y3 ⟨rfl, b9⟩
            have D9 := Lib.hid (bel_tr D8.out b9 (Nat.le_refl _)); clear b9 N3
            have DF := Lib.hid (B1.out.trans (D9.out.mono B1.out.size))
            go_wp2_with fail
            refine (G4.out _).mono ?_; rintro e y4 ⟨rfl, rfl⟩
            go_wp2_with fail
            go_ret
            exact ⟨rfl, DF.out⟩
          cases yb
          · have hf := HF4.out.trans (vlG_no2 rfl)
            cases hf
            generalize didV ((j : Int) + 1) x y = dv at *
            generalize didB ((j : Int) + 1) x y = db at *
            go_wp2_with fail
            go_quiet (fail)
            go_wp2_with fail
            refine (G1.out _ (bel_drewN DR.out _)).mono ?_; rintro e y1 ⟨rfl, b7⟩
            have D7 := Lib.hid (bel_tr (bel_drewN DR.out _) b7 (Nat.le_refl _)); clear b7
            have N2 := Lib.hid (G2.out _ D7.out)
            go_wp2_with fail
            refine N2.out.mono ?_; rintro e y2 ⟨rfl, b8⟩
            have D8 := Lib.hid (bel_tr D7.out b8 (Nat.le_refl _)); clear b8 N2
            have N3 := Lib.hid (G3.out _ D8.out)
            go_wp2_with fail
            refine N3.out.mono ?_; rintro e y3 ⟨rfl, b9⟩
            have D9 := Lib.hid (bel_tr D8.out b9 (Nat.le_refl _)); clear b9 N3
            have DF := Lib.hid (B1.out.trans (D9.out.mono B1.out.size))
            go_wp2_with fail
            refine (G4.out _).mono ?_; rintro e y4 ⟨rfl, rfl⟩
            go_wp2_with fail
            go_ret
            exact ⟨rfl, DF.out⟩
          have hf : (rv, false) = (didV ((j : Int) + 1) x y, didB ((j : Int) + 1) x y) := HF4.out.trans (vlG_yes rfl rfl)
          clear HF4
          generalize didV ((j : Int) + 1) x y = dv at *
          generalize didB ((j : Int) + 1) x y = db at *
          obtain ⟨h1, h2⟩ := Prod.mk.inj hf
          subst h1 h2
          clear hf
          skip
          go_wp2_with fail
          go_quiet (fail)
          go_wp2_with fail
          refine (G1.out _ (bel_drewN DR.out _)).mono ?_; rintro e y1 ⟨rfl, b7⟩
          have D7 := Lib.hid (bel_tr (bel_drewN DR.out _) b7 (Nat.le_refl _)); clear b7
          have N2 := Lib.hid (G2.out _ D7.out)
          go_wp2_with fail
          refine N2.out.mono ?_; rintro e y2 ⟨rfl, b8⟩
          have D8 := Lib.hid (bel_tr D7.out b8 (Nat.le_refl _)); clear b8 N2
          have N3 := Lib.hid (G3.out _ D8.out)
          go_wp2_with fail
          refine N3.out.mono ?_; rintro e y3 ⟨rfl, b9⟩
          have D9 := Lib.hid (bel_tr D8.out b9 (Nat.le_refl _)); clear b9 N3
          have DF := Lib.hid (B1.out.trans (D9.out.mono B1.out.size))
          go_wp2_with fail
          refine (G4.out _).mono ?_; rintro e y4 ⟨rfl, rfl⟩
          go_wp2_with fail
          go_ret
          exact ⟨rfl, DF.out⟩
        · have HNO2 := Lib.hid (show ∀ (u : Nat) (y : Tk), u < j + 1 → opsL[u]? = some y → y ≠ c from fun u y hu hy => by
            by_cases e : u = j
            · subst e; rw [HT.out] at hy; cases hy; exact fun e2 => hct e2.symm
            · exact HNO.out u y (by omega) hy)
          have qq := tx_ne hct
          clear HNO HT hct
          generalize tx c = cx at *
          generalize tx t = ct at *
          go_wp2_with fail
          go_quiet (fail)
          go_wp2_with fail
          go_roundw
          case rel => exact ⟨j + 1, by omega, by go_num, HNO2.out, bel_drewN HBL.out _⟩
          case measure => simp [intV]; omega
      · obtain rfl : j = 7 := by omega
        have hio := ops_no HNO.out
        have hlf := sum_leaf HK0.out HOK.out HTH.out HC.out hio
        rw [HR.out] at hlf
        cases hlf
  · go_wp2_with fail
    refine (HW.out rv _).mono ?_; rintro e w6 ⟨rfl, rfl⟩
    rw [hw1]
    by_cases hk22 : kd = 2
    · subst hk22
      have h01 := sum_truth HKD.out HOK.out HTH.out
      rw [HR.out] at h01
      rcases h01 with h01 | h01
      · simp only at h01
        subst h01
        go_wp2_with fail
        generalize hw6 : w5.alloc (.cells #[.string ⟨#[43]⟩, .string ⟨#[45]⟩, .string ⟨#[42]⟩, .string ⟨#[47]⟩, .string ⟨#[60]⟩, .string ⟨#[61]⟩, .string ⟨#[38]⟩] 9) = w6
        have D6 := Lib.hid (show Below w1.heap.size w1 w6 from by rw [← hw6]; exact bel_tr D5.out HLIT.out (Nat.le_refl _))
        have VO6 := Lib.hid (show V1 w6 (some ⟨w5.heap.size, 0, none⟩) 7 (txL opsL) from by rw [← hw6]; exact HOPS.out)
        clear hw6
        generalize w5.heap.size = Q at *
        go_loopw [13] (fun x wr => ∃ j : Nat, j ≤ 7 ∧ x = .int .i64 j ∧ (∀ (t : Nat) (y : Tk), t < j → opsL[t]? = some y → y ≠ c) ∧ Below w6.heap.size w6 wr) (fun x _ => 7 - intV x)
        case atStart => exact ⟨0, Nat.zero_le _, rfl, (fun t y h => by omega), Below.refl _ _⟩
        case round =>
          obtain ⟨j, hj, rfl, hno, hbel⟩ := hrel
          have HNO := Lib.hid hno
          have HBL := Lib.hid hbel
          have DR := Lib.hid (show Below w1.heap.size w1 wr from bel_tr D6.out hbel (Nat.le_refl _)); clear hno hbel
          by_cases hlt : j < 7
          · have hjl : j < opsL.length := by simpa [opsL] using hlt
            obtain ⟨t, ht⟩ : ∃ t, opsL[j]? = some t := ⟨opsL[j], List.getElem?_eq_getElem _⟩
            obtain ⟨qg, qo, eq0, hqg, t0⟩ := VO6.out.tx ht
            cases eq0
            rw [Nat.zero_add] at t0
            have e0 : wr.cell? ⟨lg, lo + k, none⟩ = some (.string (tx c)) := (DR.out.cell (p := ⟨lg, lo + k, none⟩) hlg).trans HLC.out
            have e1 : wr.cell? ⟨Q, j, none⟩ = some (.string (tx t)) := (HBL.out.cell (p := ⟨Q, j, none⟩) hqg).trans t0
            have HT := Lib.hid ht
            clear t0 ht
            by_cases hct : c = t
            · subst hct
              have hop : opN c = j + 1 := ops_at HT.out HNO.out
              have hio : isO c = true := by unfold isO; rw [hop]; simp
              obtain ⟨p, x, y, f1, f2, f3, f4, f5⟩ := sum_parts HK0.out HOK.out HTH.out HC.out hio
              rw [HR.out, hop] at f4
              have HF4 := Lib.hid f4
              have qq : ((tx c).toList == (tx c).toList) = true := by simp
              have G1 := Lib.hid (fun w2 h => HEND.out ((k : Int) + 1) ⟨by omega, by omega⟩ w2 h)
              rw [f1] at G1
              have G2 := Lib.hid (fun w2 h => C1.out ((k : Int) + 1) ⟨by omega, by omega⟩ w2 h)
              rw [f2] at G2
              have G3 := Lib.hid (fun w2 h => C1.out ((k : Int) + 1 + (p : Int)) ⟨by have := HN.out; omega, by have := HN.out; omega⟩ w2 h)
              rw [f3] at G3
              have G4 := Lib.hid (fun w => HDID.out ((j : Int) + 1) x.1 y.1 w)
              obtain ⟨x, xb⟩ := x
              obtain ⟨y, yb⟩ := y
              simp only at G2 G3 G4
              have hpn : k + 1 + p ≤ 40 := by have := HN.out; omega
              clear f1 f2 f3 f4 f5 hop hio HT
              generalize tx c = cx at *
              cases xb
              · have hf := HF4.out.trans (vlG_no1 rfl)
                cases hf
              cases yb
              · have hf := HF4.out.trans (vlG_no2 rfl)
                cases hf
              have hf : ((0 : Int), true) = (didV ((j : Int) + 1) x y, didB ((j : Int) + 1) x y) := HF4.out.trans (vlG_yes rfl rfl)
              clear HF4
              generalize didV ((j : Int) + 1) x y = dv at *
              generalize didB ((j : Int) + 1) x y = db at *
              obtain ⟨h1, h2⟩ := Prod.mk.inj hf
              subst h1 h2
              clear hf
              have qv : ((0 : Int) == 0) = true := by simp
              go_wp2_with fail
              go_quiet (fail)
              go_wp2_with fail
              refine (G1.out _ (bel_drewN DR.out _)).mono ?_; rintro e y1 ⟨rfl, b7⟩
              have D7 := Lib.hid (bel_tr (bel_drewN DR.out _) b7 (Nat.le_refl _)); clear b7
              have N2 := Lib.hid (G2.out _ D7.out)
              go_wp2_with fail
              refine N2.out.mono ?_; rintro e y2 ⟨rfl, b8⟩
              have D8 := Lib.hid (bel_tr D7.out b8 (Nat.le_refl _)); clear b8 N2
              have N3 := Lib.hid (G3.out _ D8.out)
              go_wp2_with fail
              refine N3.out.mono ?_; rintro e y3 ⟨rfl, b9⟩
              have D9 := Lib.hid (bel_tr D8.out b9 (Nat.le_refl _)); clear b9 N3
              have DF := Lib.hid (B1.out.trans (D9.out.mono B1.out.size))
              go_wp2_with fail
              refine (G4.out _).mono ?_; rintro e y4 ⟨rfl, rfl⟩
              go_wp2_with fail
              go_ret
              exact ⟨rfl, DF.out⟩
            · have HNO2 := Lib.hid (show ∀ (u : Nat) (y : Tk), u < j + 1 → opsL[u]? = some y → y ≠ c from fun u y hu hy => by
                by_cases e : u = j
                · subst e; rw [HT.out] at hy; cases hy; exact fun e2 => hct e2.symm
                · exact HNO.out u y (by omega) hy)
              have qq := tx_ne hct
              clear HNO HT hct
              generalize tx c = cx at *
              generalize tx t = ct at *
              go_wp2_with fail
              go_quiet (fail)
              go_wp2_with fail
              go_roundw
              case rel => exact ⟨j + 1, by omega, by go_num, HNO2.out, bel_drewN HBL.out _⟩
              case measure => simp [intV]; omega
          · obtain rfl : j = 7 := by omega
            have hio := ops_no HNO.out
            have hlf := sum_leaf HK0.out HOK.out HTH.out HC.out hio
            rw [HR.out] at hlf
            have DF := Lib.hid (B1.out.trans (DR.out.mono B1.out.size))
            go_wp2_with fail
            go_ret
            exact ⟨rfl, DF.out⟩
      · simp only at h01
        subst h01
        go_wp2_with fail
        generalize hw6 : w5.alloc (.cells #[.string ⟨#[43]⟩, .string ⟨#[45]⟩, .string ⟨#[42]⟩, .string ⟨#[47]⟩, .string ⟨#[60]⟩, .string ⟨#[61]⟩, .string ⟨#[38]⟩] 9) = w6
        have D6 := Lib.hid (show Below w1.heap.size w1 w6 from by rw [← hw6]; exact bel_tr D5.out HLIT.out (Nat.le_refl _))
        have VO6 := Lib.hid (show V1 w6 (some ⟨w5.heap.size, 0, none⟩) 7 (txL opsL) from by rw [← hw6]; exact HOPS.out)
        clear hw6
        generalize w5.heap.size = Q at *
        go_loopw [13] (fun x wr => ∃ j : Nat, j ≤ 7 ∧ x = .int .i64 j ∧ (∀ (t : Nat) (y : Tk), t < j → opsL[t]? = some y → y ≠ c) ∧ Below w6.heap.size w6 wr) (fun x _ => 7 - intV x)
        case atStart => exact ⟨0, Nat.zero_le _, rfl, (fun t y h => by omega), Below.refl _ _⟩
        case round =>
          obtain ⟨j, hj, rfl, hno, hbel⟩ := hrel
          have HNO := Lib.hid hno
          have HBL := Lib.hid hbel
          have DR := Lib.hid (show Below w1.heap.size w1 wr from bel_tr D6.out hbel (Nat.le_refl _)); clear hno hbel
          by_cases hlt : j < 7
          · have hjl : j < opsL.length := by simpa [opsL] using hlt
            obtain ⟨t, ht⟩ : ∃ t, opsL[j]? = some t := ⟨opsL[j], List.getElem?_eq_getElem _⟩
            obtain ⟨qg, qo, eq0, hqg, t0⟩ := VO6.out.tx ht
            cases eq0
            rw [Nat.zero_add] at t0
            have e0 : wr.cell? ⟨lg, lo + k, none⟩ = some (.string (tx c)) := (DR.out.cell (p := ⟨lg, lo + k, none⟩) hlg).trans HLC.out
            have e1 : wr.cell? ⟨Q, j, none⟩ = some (.string (tx t)) := (HBL.out.cell (p := ⟨Q, j, none⟩) hqg).trans t0
            have HT := Lib.hid ht
            clear t0 ht
            by_cases hct : c = t
            · subst hct
              have hop : opN c = j + 1 := ops_at HT.out HNO.out
              have hio : isO c = true := by unfold isO; rw [hop]; simp
              obtain ⟨p, x, y, f1, f2, f3, f4, f5⟩ := sum_parts HK0.out HOK.out HTH.out HC.out hio
              rw [HR.out, hop] at f4
              have HF4 := Lib.hid f4
              have qq : ((tx c).toList == (tx c).toList) = true := by simp
              have G1 := Lib.hid (fun w2 h => HEND.out ((k : Int) + 1) ⟨by omega, by omega⟩ w2 h)
              rw [f1] at G1
              have G2 := Lib.hid (fun w2 h => C1.out ((k : Int) + 1) ⟨by omega, by omega⟩ w2 h)
              rw [f2] at G2
              have G3 := Lib.hid (fun w2 h => C1.out ((k : Int) + 1 + (p : Int)) ⟨by have := HN.out; omega, by have := HN.out; omega⟩ w2 h)
              rw [f3] at G3
              have G4 := Lib.hid (fun w => HDID.out ((j : Int) + 1) x.1 y.1 w)
              obtain ⟨x, xb⟩ := x
              obtain ⟨y, yb⟩ := y
              simp only at G2 G3 G4
              have hpn : k + 1 + p ≤ 40 := by have := HN.out; omega
              clear f1 f2 f3 f4 f5 hop hio HT
              generalize tx c = cx at *
              cases xb
              · have hf := HF4.out.trans (vlG_no1 rfl)
                cases hf
              cases yb
              · have hf := HF4.out.trans (vlG_no2 rfl)
                cases hf
              have hf : ((1 : Int), true) = (didV ((j : Int) + 1) x y, didB ((j : Int) + 1) x y) := HF4.out.trans (vlG_yes rfl rfl)
              clear HF4
              generalize didV ((j : Int) + 1) x y = dv at *
              generalize didB ((j : Int) + 1) x y = db at *
              obtain ⟨h1, h2⟩ := Prod.mk.inj hf
              subst h1 h2
              clear hf
              have qv : ((1 : Int) == 1) = true := by simp
              go_wp2_with fail
              go_quiet (fail)
              go_wp2_with fail
              refine (G1.out _ (bel_drewN DR.out _)).mono ?_; rintro e y1 ⟨rfl, b7⟩
              have D7 := Lib.hid (bel_tr (bel_drewN DR.out _) b7 (Nat.le_refl _)); clear b7
              have N2 := Lib.hid (G2.out _ D7.out)
              go_wp2_with fail
              refine N2.out.mono ?_; rintro e y2 ⟨rfl, b8⟩
              have D8 := Lib.hid (bel_tr D7.out b8 (Nat.le_refl _)); clear b8 N2
              have N3 := Lib.hid (G3.out _ D8.out)
              go_wp2_with fail
              refine N3.out.mono ?_; rintro e y3 ⟨rfl, b9⟩
              have D9 := Lib.hid (bel_tr D8.out b9 (Nat.le_refl _)); clear b9 N3
              have DF := Lib.hid (B1.out.trans (D9.out.mono B1.out.size))
              go_wp2_with fail
              refine (G4.out _).mono ?_; rintro e y4 ⟨rfl, rfl⟩
              go_wp2_with fail
              go_ret
              exact ⟨rfl, DF.out⟩
            · have HNO2 := Lib.hid (show ∀ (u : Nat) (y : Tk), u < j + 1 → opsL[u]? = some y → y ≠ c from fun u y hu hy => by
                by_cases e : u = j
                · subst e; rw [HT.out] at hy; cases hy; exact fun e2 => hct e2.symm
                · exact HNO.out u y (by omega) hy)
              have qq := tx_ne hct
              clear HNO HT hct
              generalize tx c = cx at *
              generalize tx t = ct at *
              go_wp2_with fail
              go_quiet (fail)
              go_wp2_with fail
              go_roundw
              case rel => exact ⟨j + 1, by omega, by go_num, HNO2.out, bel_drewN HBL.out _⟩
              case measure => simp [intV]; omega
          · obtain rfl : j = 7 := by omega
            have hio := ops_no HNO.out
            have hlf := sum_leaf HK0.out HOK.out HTH.out HC.out hio
            rw [HR.out] at hlf
            have DF := Lib.hid (B1.out.trans (DR.out.mono B1.out.size))
            go_wp2_with fail
            go_ret
            exact ⟨rfl, DF.out⟩
    · have q4 : (kd == 2) = false := by rw [beq_eq_false_iff_ne]; exact hk22
      go_wp2_with fail
      generalize hw6 : w5.alloc (.cells #[.string ⟨#[43]⟩, .string ⟨#[45]⟩, .string ⟨#[42]⟩, .string ⟨#[47]⟩, .string ⟨#[60]⟩, .string ⟨#[61]⟩, .string ⟨#[38]⟩] 9) = w6
      have D6 := Lib.hid (show Below w1.heap.size w1 w6 from by rw [← hw6]; exact bel_tr D5.out HLIT.out (Nat.le_refl _))
      have VO6 := Lib.hid (show V1 w6 (some ⟨w5.heap.size, 0, none⟩) 7 (txL opsL) from by rw [← hw6]; exact HOPS.out)
      clear hw6
      generalize w5.heap.size = Q at *
      go_loopw [13] (fun x wr => ∃ j : Nat, j ≤ 7 ∧ x = .int .i64 j ∧ (∀ (t : Nat) (y : Tk), t < j → opsL[t]? = some y → y ≠ c) ∧ Below w6.heap.size w6 wr) (fun x _ => 7 - intV x)
      case atStart => exact ⟨0, Nat.zero_le _, rfl, (fun t y h => by omega), Below.refl _ _⟩
      case round =>
        obtain ⟨j, hj, rfl, hno, hbel⟩ := hrel
        have HNO := Lib.hid hno
        have HBL := Lib.hid hbel
        have DR := Lib.hid (show Below w1.heap.size w1 wr from bel_tr D6.out hbel (Nat.le_refl _)); clear hno hbel
        by_cases hlt : j < 7
        · have hjl : j < opsL.length := by simpa [opsL] using hlt
          obtain ⟨t, ht⟩ : ∃ t, opsL[j]? = some t := ⟨opsL[j], List.getElem?_eq_getElem _⟩
          obtain ⟨qg, qo, eq0, hqg, t0⟩ := VO6.out.tx ht
          cases eq0
          rw [Nat.zero_add] at t0
          have e0 : wr.cell? ⟨lg, lo + k, none⟩ = some (.string (tx c)) := (DR.out.cell (p := ⟨lg, lo + k, none⟩) hlg).trans HLC.out
          have e1 : wr.cell? ⟨Q, j, none⟩ = some (.string (tx t)) := (HBL.out.cell (p := ⟨Q, j, none⟩) hqg).trans t0
          have HT := Lib.hid ht
          clear t0 ht
          by_cases hct : c = t
          · subst hct
            have hop : opN c = j + 1 := ops_at HT.out HNO.out
            have hio : isO c = true := by unfold isO; rw [hop]; simp
            obtain ⟨p, x, y, f1, f2, f3, f4, f5⟩ := sum_parts HK0.out HOK.out HTH.out HC.out hio
            rw [HR.out, hop] at f4
            have HF4 := Lib.hid f4
            have qq : ((tx c).toList == (tx c).toList) = true := by simp
            have G1 := Lib.hid (fun w2 h => HEND.out ((k : Int) + 1) ⟨by omega, by omega⟩ w2 h)
            rw [f1] at G1
            have G2 := Lib.hid (fun w2 h => C1.out ((k : Int) + 1) ⟨by omega, by omega⟩ w2 h)
            rw [f2] at G2
            have G3 := Lib.hid (fun w2 h => C1.out ((k : Int) + 1 + (p : Int)) ⟨by have := HN.out; omega, by have := HN.out; omega⟩ w2 h)
            rw [f3] at G3
            have G4 := Lib.hid (fun w => HDID.out ((j : Int) + 1) x.1 y.1 w)
            obtain ⟨x, xb⟩ := x
            obtain ⟨y, yb⟩ := y
            simp only at G2 G3 G4
            have hpn : k + 1 + p ≤ 40 := by have := HN.out; omega
            clear f1 f2 f3 f4 f5 hop hio HT
            generalize tx c = cx at *
            cases xb
            · have hf := HF4.out.trans (vlG_no1 rfl)
              cases hf
            cases yb
            · have hf := HF4.out.trans (vlG_no2 rfl)
              cases hf
            have hf : (rv, true) = (didV ((j : Int) + 1) x y, didB ((j : Int) + 1) x y) := HF4.out.trans (vlG_yes rfl rfl)
            clear HF4
            generalize didV ((j : Int) + 1) x y = dv at *
            generalize didB ((j : Int) + 1) x y = db at *
            obtain ⟨h1, h2⟩ := Prod.mk.inj hf
            subst h1 h2
            clear hf
            have qv : (rv == rv) = true := by simp
            go_wp2_with fail
            go_quiet (fail)
            go_wp2_with fail
            refine (G1.out _ (bel_drewN DR.out _)).mono ?_; rintro e y1 ⟨rfl, b7⟩
            have D7 := Lib.hid (bel_tr (bel_drewN DR.out _) b7 (Nat.le_refl _)); clear b7
            have N2 := Lib.hid (G2.out _ D7.out)
            go_wp2_with fail
            refine N2.out.mono ?_; rintro e y2 ⟨rfl, b8⟩
            have D8 := Lib.hid (bel_tr D7.out b8 (Nat.le_refl _)); clear b8 N2
            have N3 := Lib.hid (G3.out _ D8.out)
            go_wp2_with fail
            refine N3.out.mono ?_; rintro e y3 ⟨rfl, b9⟩
            have D9 := Lib.hid (bel_tr D8.out b9 (Nat.le_refl _)); clear b9 N3
            have DF := Lib.hid (B1.out.trans (D9.out.mono B1.out.size))
            go_wp2_with fail
            refine (G4.out _).mono ?_; rintro e y4 ⟨rfl, rfl⟩
            go_wp2_with fail
            go_ret
            exact ⟨rfl, DF.out⟩
          · have HNO2 := Lib.hid (show ∀ (u : Nat) (y : Tk), u < j + 1 → opsL[u]? = some y → y ≠ c from fun u y hu hy => by
              by_cases e : u = j
              · subst e; rw [HT.out] at hy; cases hy; exact fun e2 => hct e2.symm
              · exact HNO.out u y (by omega) hy)
            have qq := tx_ne hct
            clear HNO HT hct
            generalize tx c = cx at *
            generalize tx t = ct at *
            go_wp2_with fail
            go_quiet (fail)
            go_wp2_with fail
            go_roundw
            case rel => exact ⟨j + 1, by omega, by go_num, HNO2.out, bel_drewN HBL.out _⟩
            case measure => simp [intV]; omega
        · obtain rfl : j = 7 := by omega
          have hio := ops_no HNO.out
          have hlf := sum_leaf HK0.out HOK.out HTH.out HC.out hio
          rw [HR.out] at hlf
          have DF := Lib.hid (B1.out.trans (DR.out.mono B1.out.size))
          go_wp2_with fail
          go_ret
          exact ⟨rfl, DF.out⟩
end Go.Proofs.YtdgkinepoalfcaaGreatDoor.Cl
