/-
  The walk of FnSwept at a code that is not too long. (Made by gen_ej.py.)
-/
import Derived.Test.YtcloejmakjdgcaaEd
import Derived.Test.YtcloejmakjdgcaaEl
import Derived.Test.YtcloejmakjdgcaaEe
namespace Go.Proofs.Ytcloejmakjdgcaa.Cl
open Go.RowKit Wd Rp Cu Kp Ra
set_option linter.unusedVariables false
set_option maxHeartbeats 16000000 in
set_option maxRecDepth 100000 in
theorem swept_small (w : World) (a0 : Option Addr) (len0 cap0 : Nat) (hb : IsBytes w a0 len0) (hl : len0 ≤ 4096) :
    Calls Try.prog 5 #[.slice a0 len0 cap0] w fun e w' => e = .returned (.bool true) ∧ Below w.heap.size w w' := by
  have HB := Lib.hid hb; clear hb
  go_enter Try.func5, Try.ntmps5
  go_wp2_with fail
  refine (big_no w a0 len0 cap0 hl).mono ?_; rintro e wx ⟨rfl, rfl⟩
  go_wp2_with fail
  refine (drawSwept_any w a0 len0 cap0 HB.out hl).mono ?_; rintro e w1 ⟨Ba, Bn, Bc, Bsa, Bm, Bsc, h, ss, kp, f, rfl, o1, hn, hm, s1, k0, k1, f0, f1, b1⟩
  have NB := Lib.hid (And.intro hn hm)
  have SB := Lib.hid s1
  have B1 := Lib.hid b1
  have OB := Lib.hid (OwB.top o1)
  clear o1 s1 b1 hn hm HB
  obtain ⟨ph, ps, is, hpb⟩ : ∃ ph ps is, swH h ss kp f = ph ∧ swS h ss kp f = ps ∧ swB h ss kp f = is := ⟨_, _, _, rfl, rfl, rfl⟩
  have HPB := Lib.hid hpb
  have HLX := Lib.hid (show Low ph ps from by have := sw_low2 h ss kp f SB.out.low; rw [hpb.1, hpb.2.1] at this; exact this)
  clear hpb
  have Z1 := Lib.hid B1.out.size
  have b2 := bel1 w1 (.cells #[.slice Ba Bn Bc, .slice Bsa Bm Bsc] 38)
  have B2 := Lib.hid (bel_tr B1.out b2 (Nat.le_refl _))
  have Z2 := Lib.hid b2.size
  replace OB := Lib.hid (OB.out.next b2)
  clear b2
  have KB := Lib.hid (Bb.made (.slice Ba Bn Bc) (.slice Bsa Bm Bsc) w1 38)
  go_wp2_with fail
  generalize w1.alloc (.cells #[.slice Ba Bn Bc, .slice Bsa Bm Bsc] 38) = w2 at B2 Z2 KB OB ⊢
  refine (swI HPB.out w2 OB.out.own SB.out).mono ?_; rintro e w3 ⟨Xa, Xn, Xc, Xsa, Xm, Xsc, rfl, o, hn, hm, b3⟩
  have B3 := Lib.hid (bel_tr B2.out b3 (Nat.le_refl _))
  have Z3 := Lib.hid b3.size
  replace OB := Lib.hid (OB.out.next b3)
  replace KB := Lib.hid (KB.out.next b3)
  have OX := Lib.hid (OwB.top o); clear o b3
  have NX := Lib.hid (And.intro hn hm); clear hn hm
  obtain ⟨kB0, kB1, kB2, kB3, -⟩ := id KB.out
  have b4 := bel1 w3 (.cells #[.slice Xa Xn Xc, .slice Xsa Xm Xsc] 38)
  have B4 := Lib.hid (bel_tr B3.out b4 (Nat.le_refl _))
  have Z4 := Lib.hid b4.size
  replace OB := Lib.hid (OB.out.next b4)
  replace OX := Lib.hid (OX.out.next b4)
  replace KB := Lib.hid (KB.out.next b4)
  clear b4
  have KX := Lib.hid (Bb.made (.slice Xa Xn Xc) (.slice Xsa Xm Xsc) w3 38)
  obtain ⟨mB0, mB1, mB2, mB3, -⟩ := id KB.out
  go_wp2_with fail
  clear kB0 kB1 kB2 kB3 mB0 mB1 mB2 mB3
  generalize w3.alloc (.cells #[.slice Xa Xn Xc, .slice Xsa Xm Xsc] 38) = w4 at B4 Z4 KX OB OX KB ⊢
  have n1 : (is != is) = false := by simp
  refine (swSp HPB.out w4 OB.out.own SB.out).mono ?_; rintro e w5 ⟨Za, Zn, Zc, Zsa, Zm, Zsc, rfl, o, hn, hm, b5⟩
  have B5 := Lib.hid (bel_tr B4.out b5 (Nat.le_refl _))
  have Z5 := Lib.hid b5.size
  replace OB := Lib.hid (OB.out.next b5)
  replace OX := Lib.hid (OX.out.next b5)
  replace KB := Lib.hid (KB.out.next b5)
  replace KX := Lib.hid (KX.out.next b5)
  have OZ := Lib.hid (OwB.top o); clear o b5
  have NZ := Lib.hid (And.intro hn hm); clear hn hm
  obtain ⟨kB0, kB1, kB2, kB3, -⟩ := id KB.out
  obtain ⟨kX0, kX1, kX2, kX3, -⟩ := id KX.out
  have b6 := bel1 w5 (.cells #[.slice Za Zn Zc, .slice Zsa Zm Zsc] 38)
  have B6 := Lib.hid (bel_tr B5.out b6 (Nat.le_refl _))
  have Z6 := Lib.hid b6.size
  replace OB := Lib.hid (OB.out.next b6)
  replace OX := Lib.hid (OX.out.next b6)
  replace OZ := Lib.hid (OZ.out.next b6)
  replace KB := Lib.hid (KB.out.next b6)
  replace KX := Lib.hid (KX.out.next b6)
  clear b6
  have KZ := Lib.hid (Bb.made (.slice Za Zn Zc) (.slice Zsa Zm Zsc) w5 38)
  obtain ⟨mB0, mB1, mB2, mB3, -⟩ := id KB.out
  obtain ⟨mX0, mX1, mX2, mX3, -⟩ := id KX.out
  go_wp2_with fail
  clear kB0 kB1 kB2 kB3 kX0 kX1 kX2 kX3 mB0 mB1 mB2 mB3 mX0 mX1 mX2 mX3
  generalize w5.alloc (.cells #[.slice Za Zn Zc, .slice Zsa Zm Zsc] 38) = w6 at B6 Z6 KZ OB OX OZ KB KX ⊢
  refine (likeB_own w6 OX.out.own OZ.out.own HLX.out).mono ?_; rintro e w7 ⟨rfl, b7⟩
  have B7 := Lib.hid (bel_tr B6.out b7 (Nat.le_refl _))
  have Z7 := Lib.hid b7.size
  replace OB := Lib.hid (OB.out.next b7)
  replace OX := Lib.hid (OX.out.next b7)
  replace OZ := Lib.hid (OZ.out.next b7)
  replace KB := Lib.hid (KB.out.next b7)
  replace KX := Lib.hid (KX.out.next b7)
  replace KZ := Lib.hid (KZ.out.next b7)
  clear b7
  clear OZ
  clear KZ
  clear n1
  rcases sw_cases h ss kp f with ⟨p1, p2, p3, p4⟩ | ⟨p1, p2, p3, p4⟩ | ⟨p1, p2, p3, p4, p5, p6, p7, p8⟩
  · obtain rfl : is = false := HPB.out.2.2.symm.trans p4
    obtain rfl : ph = [] := HPB.out.1.symm.trans p2
    obtain rfl : ps = [] := HPB.out.2.1.symm.trans p3
    have HP1 := Lib.hid p1
    clear p1 p2 p3 p4
    obtain ⟨kB0, kB1, kB2, kB3, -⟩ := id KB.out
    obtain ⟨kX0, kX1, kX2, kX3, -⟩ := id KX.out
    go_wp2_with fail
    clear kB0 kB1 kB2 kB3 kX0 kX1 kX2 kX3
    refine (bS HP1.out w7 OB.out.own SB.out.low SB.out.mod).mono ?_; rintro e w8 ⟨rfl, b8⟩
    have B8 := Lib.hid (bel_tr B7.out b8 (Nat.le_refl _))
    have Z8 := Lib.hid b8.size
    replace OB := Lib.hid (OB.out.next b8)
    replace OX := Lib.hid (OX.out.next b8)
    replace KB := Lib.hid (KB.out.next b8)
    replace KX := Lib.hid (KX.out.next b8)
    clear b8
    obtain ⟨kB0, kB1, kB2, kB3, -⟩ := id KB.out
    obtain ⟨kX0, kX1, kX2, kX3, -⟩ := id KX.out
    go_wp2_with fail
    clear kB0 kB1 kB2 kB3 kX0 kX1 kX2 kX3
    refine (likeB_own w8 OX.out.own (OwB.nothing 0 _) low_nil).mono ?_; rintro e w9 ⟨rfl, b9⟩
    have B9 := Lib.hid (bel_tr B8.out b9 (Nat.le_refl _))
    have Z9 := Lib.hid b9.size
    replace OB := Lib.hid (OB.out.next b9)
    replace OX := Lib.hid (OX.out.next b9)
    replace KB := Lib.hid (KB.out.next b9)
    replace KX := Lib.hid (KX.out.next b9)
    clear b9
    obtain ⟨kB0, kB1, kB2, kB3, -⟩ := id KB.out
    obtain ⟨kX0, kX1, kX2, kX3, -⟩ := id KX.out
    go_wp2_with fail
    clear kB0 kB1 kB2 kB3 kX0 kX1 kX2 kX3
    go_ret
    exact ⟨rfl, B9.out⟩
  · obtain rfl : is = false := HPB.out.2.2.symm.trans p4
    obtain rfl : ph = h := HPB.out.1.symm.trans p2
    obtain rfl : ps = ss := HPB.out.2.1.symm.trans p3
    have HP1 := Lib.hid p1
    clear p1 p2 p3 p4
    obtain ⟨kB0, kB1, kB2, kB3, -⟩ := id KB.out
    obtain ⟨kX0, kX1, kX2, kX3, -⟩ := id KX.out
    go_wp2_with fail
    clear kB0 kB1 kB2 kB3 kX0 kX1 kX2 kX3
    refine (bS HP1.out w7 OB.out.own SB.out.low SB.out.mod).mono ?_; rintro e w8 ⟨rfl, b8⟩
    have B8 := Lib.hid (bel_tr B7.out b8 (Nat.le_refl _))
    have Z8 := Lib.hid b8.size
    replace OB := Lib.hid (OB.out.next b8)
    replace OX := Lib.hid (OX.out.next b8)
    replace KB := Lib.hid (KB.out.next b8)
    replace KX := Lib.hid (KX.out.next b8)
    clear b8
    obtain ⟨kB0, kB1, kB2, kB3, -⟩ := id KB.out
    obtain ⟨kX0, kX1, kX2, kX3, -⟩ := id KX.out
    go_wp2_with fail
    clear kB0 kB1 kB2 kB3 kX0 kX1 kX2 kX3
    refine (likeB_own w8 OX.out.own OB.out.own HLX.out).mono ?_; rintro e w9 ⟨rfl, b9⟩
    have B9 := Lib.hid (bel_tr B8.out b9 (Nat.le_refl _))
    have Z9 := Lib.hid b9.size
    replace OB := Lib.hid (OB.out.next b9)
    replace OX := Lib.hid (OX.out.next b9)
    replace KB := Lib.hid (KB.out.next b9)
    replace KX := Lib.hid (KX.out.next b9)
    clear b9
    obtain ⟨kB0, kB1, kB2, kB3, -⟩ := id KB.out
    obtain ⟨kX0, kX1, kX2, kX3, -⟩ := id KX.out
    go_wp2_with fail
    clear kB0 kB1 kB2 kB3 kX0 kX1 kX2 kX3
    go_ret
    exact ⟨rfl, B9.out⟩
  · obtain rfl : is = true := HPB.out.2.2.symm.trans p2
    rw [HPB.out.2.1] at p4 p5 p8
    obtain rfl : ph = h := HPB.out.1.symm.trans p3
    have HP4 := Lib.hid p4
    have HP8 := Lib.hid p8
    have hxm : ¬ (1 : Int) < (Xm : Int) := by have := NX.out.2; omega
    have hBn : Bn ≤ 260 := by have := SB.out.1; have := NB.out.1; omega
    have HMX := Lib.hid (show Mod ph ps from ⟨SB.out.mod.1, fun l hl c hc => by
      have := okL_mem ((okB_iff.1 p4).2.2 l hl).2 c hc
      exact ok_mod this⟩)
    clear p1 p2 p3 p4 p5 p8
    obtain ⟨kB0, kB1, kB2, kB3, -⟩ := id KB.out
    obtain ⟨kX0, kX1, kX2, kX3, -⟩ := id KX.out
    go_wp2_with fail
    clear kB0 kB1 kB2 kB3 kX0 kX1 kX2 kX3
    refine (bI HP4.out w7 OX.out.own HLX.out).mono ?_; rintro e w8 ⟨rfl, b8⟩
    have B8 := Lib.hid (bel_tr B7.out b8 (Nat.le_refl _))
    have Z8 := Lib.hid b8.size
    replace OB := Lib.hid (OB.out.next b8)
    replace OX := Lib.hid (OX.out.next b8)
    replace KB := Lib.hid (KB.out.next b8)
    replace KX := Lib.hid (KX.out.next b8)
    clear b8
    obtain ⟨kB0, kB1, kB2, kB3, -⟩ := id KB.out
    obtain ⟨kX0, kX1, kX2, kX3, -⟩ := id KX.out
    go_wp2_with fail
    clear kB0 kB1 kB2 kB3 kX0 kX1 kX2 kX3
    refine (likeC_own w8 OX.out.own.hand OB.out.own.hand (by have := SB.out.1; omega)).mono ?_; rintro e w9 ⟨rfl, b9⟩
    have B9 := Lib.hid (bel_tr B8.out b9 (Nat.le_refl _))
    have Z9 := Lib.hid b9.size
    replace OB := Lib.hid (OB.out.next b9)
    replace OX := Lib.hid (OX.out.next b9)
    replace KB := Lib.hid (KB.out.next b9)
    replace KX := Lib.hid (KX.out.next b9)
    clear b9
    obtain ⟨kB0, kB1, kB2, kB3, -⟩ := id KB.out
    obtain ⟨kX0, kX1, kX2, kX3, -⟩ := id KX.out
    go_wp2_with fail
    clear kB0 kB1 kB2 kB3 kX0 kX1 kX2 kX3
    go_loopw [10] (fun s10 wr => ∃ i : Nat, s10 = .int .i64 (i : Int) ∧ i ≤ Bn ∧ (∀ (j : Nat) (c : Cel), j < i → ph[j]? = some c → f < c.t) ∧ Below w9.heap.size w9 wr) (fun s10 _ => Bn - intV s10)
    case atStart => exact ⟨0, rfl, Nat.zero_le _, (fun j c hj => by omega), Below.refl _ _⟩
    case round =>
      obtain ⟨i, rfl, hi, hlo, hbr⟩ := hrel
      obtain ⟨w10, hw10⟩ : ∃ z, z = wr := ⟨_, rfl⟩
      subst hw10
      have HLO := Lib.hid hlo; clear hlo
      have HBR := Lib.hid hbr
      have B10 := Lib.hid (bel_tr B9.out hbr (Nat.le_refl _))
      have Z10 := Lib.hid hbr.size
      replace OB := Lib.hid (OB.out.next hbr)
      replace OX := Lib.hid (OX.out.next hbr)
      replace KB := Lib.hid (KB.out.next hbr)
      replace KX := Lib.hid (KX.out.next hbr)
      clear hbr
      by_cases hlt : i < Bn
      · obtain ⟨d, hd⟩ : ∃ d, ph[i]? = some d := ⟨ph[i]'(by rw [NB.out.1]; exact hlt), List.getElem?_eq_getElem _⟩
        obtain ⟨va', vc', ve, vv, -⟩ := OB.out.own.hand.view
        obtain ⟨g, o, e1, hg, c0, c1, c2, c3, c4⟩ := vv.2.2.2 i d hd
        have e2 : Ba = va' := by injection ve
        rw [e1] at e2
        clear ve vv e1
        subst e2
        have i1 : (i : Int) < (Bn : Int) := by omega
        have i3 : (0 : Int) ≤ (i : Int) := by omega
        by_cases hdt : d.t ≤ f
        · clear HLO hd
          obtain ⟨kB0, kB1, kB2, kB3, -⟩ := id KB.out
          obtain ⟨kX0, kX1, kX2, kX3, -⟩ := id KX.out
          go_wp2_with fail
          clear kB0 kB1 kB2 kB3 kX0 kX1 kX2 kX3
          go_ret
          exact ⟨rfl, B10.out⟩
        · have HL2 := Lib.hid (show ∀ (j : Nat) (c : Cel), j < i + 1 → ph[j]? = some c → f < c.t from fun j c hj hc => by
            by_cases e : j = i
            · rw [e, hd] at hc; cases hc; omega
            · exact HLO.out j c (by omega) hc)
          clear HLO hd
          obtain ⟨kB0, kB1, kB2, kB3, -⟩ := id KB.out
          obtain ⟨kX0, kX1, kX2, kX3, -⟩ := id KX.out
          go_wp2_with fail
          clear kB0 kB1 kB2 kB3 kX0 kX1 kX2 kX3
          go_roundw
          case rel => exact ⟨i + 1, by go_num, by omega, HL2.out, HBR.out⟩
          case measure => simp [intV]; omega
      · have i1 : ¬ (i : Int) < (Bn : Int) := by omega
        have HNEW := Lib.hid (HP8.out fun c hc => by
          obtain ⟨j, hj⟩ := List.mem_iff_getElem?.1 hc
          exact HLO.out j c (by have := (List.getElem?_eq_some_iff.1 hj).1; have := NB.out.1; omega) hj)
        clear HLO HP8
        obtain ⟨kB0, kB1, kB2, kB3, -⟩ := id KB.out
        obtain ⟨kX0, kX1, kX2, kX3, -⟩ := id KX.out
        have b11 := bel1 w10 rowsO
        have B11 := Lib.hid (bel_tr B10.out b11 (Nat.le_refl _))
        have Z11 := Lib.hid b11.size
        replace OB := Lib.hid (OB.out.next b11)
        replace OX := Lib.hid (OX.out.next b11)
        replace KB := Lib.hid (KB.out.next b11)
        replace KX := Lib.hid (KX.out.next b11)
        have HRW := Lib.hid (show (w10.alloc rowsO).heap[w10.heap.size]? = some rowsO from World.alloc_heap_new w10 _)
        clear b11
        unfold rowsO at HRW B11 Z11 OB OX KB KX
        go_wp2_with fail
        clear kB0 kB1 kB2 kB3 kX0 kX1 kX2 kX3
        generalize w10.alloc _ = w11 at HRW B11 Z11 OB OX KB KX ⊢
        have HRS := Lib.hid (show w10.heap.size < w11.heap.size from (Array.getElem?_eq_some_iff.1 HRW.out).1)
        generalize w10.heap.size = pR at HRW HRS ⊢
        have wf : IntKind.i64.wrap (f + 8) = f + 8 := by rw [IntKind.wrap_i64]; omega
        go_loopw [12, 13] (fun s12 _ wr => ∃ i : Nat, s12 = .int .i64 (i : Int) ∧ i ≤ 6 ∧ Below w11.heap.size w11 wr) (fun s12 _ _ => 6 - intV s12)
        case atStart => exact ⟨0, rfl, by decide, Below.refl _ _⟩
        case round =>
          obtain ⟨i, rfl, hi6, hbo⟩ := hrel
          have HBO := Lib.hid hbo; clear hbo
          by_cases hl6 : i < 6
          · have i6 : (i : Int) < 6 := by omega
            have i60 : (0 : Int) ≤ (i : Int) := by omega
            go_wp2_with fail
            go_loopw [13] (fun s13 wr => ∃ t : Int, s13 = .int .i64 t ∧ f ≤ t ∧ t ≤ f + 8 ∧ Below w11.heap.size w11 wr) (fun s13 _ => (f + 8 - intOf s13).toNat)
            case atStart => exact ⟨f, rfl, Int.le_refl _, by omega, HBO.out⟩
            case round =>
              clear HBO
              obtain ⟨t, rfl, ht0, ht1, hbr⟩ := hrel
              obtain ⟨w12, hw12⟩ : ∃ z, z = wr := ⟨_, rfl⟩
              subst hw12
              have HBI := Lib.hid hbr
              obtain ⟨R, hR, hR9⟩ := rows_at HRW.out hl6
              have hpR : pR < w12.heap.size := Nat.lt_of_lt_of_le HRS.out hbr.size
              have hcR : w12.cell? ⟨pR, i, none⟩ = some (.string R) := coc hbr HRS.out hR
              have B12 := Lib.hid (bel_tr B11.out hbr (Nat.le_refl _))
              have Z12 := Lib.hid hbr.size
              replace OB := Lib.hid (OB.out.next hbr)
              replace OX := Lib.hid (OX.out.next hbr)
              replace KB := Lib.hid (KB.out.next hbr)
              replace KX := Lib.hid (KX.out.next hbr)
              clear hbr hR
              by_cases htt : t < f + 8
              · have e2 : t ≤ 1000000 := by omega
                have HEQ := Lib.hid (HNEW.out R t ht0)
                obtain ⟨kB0, kB1, kB2, kB3, -⟩ := id KB.out
                obtain ⟨kX0, kX1, kX2, kX3, -⟩ := id KX.out
                go_wp2_with fail
                clear kB0 kB1 kB2 kB3 kX0 kX1 kX2 kX3
                obtain ⟨hB0, hB1, -, -, hBq⟩ := id KB.out
                obtain ⟨hX0, hX1, -, -, hXq⟩ := id KX.out
                have SOF := Lib.hid (show ∀ z, Below w12.heap.size w12 z → (z.cell? ⟨w1.heap.size, 0, none⟩ = some (.slice Ba Bn Bc) ∧ z.cell? ⟨w1.heap.size, 1, none⟩ = some (.slice Bsa Bm Bsc) ∧ z.cell? ⟨w3.heap.size, 0, none⟩ = some (.slice Xa Xn Xc) ∧ z.cell? ⟨w3.heap.size, 1, none⟩ = some (.slice Xsa Xm Xsc) ∧ z.cell? ⟨pR, i, none⟩ = some (.string R) ∧ Below w12.heap.size w12 z) from fun z hz => ⟨coc hz hBq hB0, coc hz hBq hB1, coc hz hXq hX0, coc hz hXq hX1, coc hz hpR hcR,  hz⟩)
                clear hB0 hB1 hX0 hX1 hcR
                refine wp_region_held_drew (S := fun z => z.cell? ⟨w1.heap.size, 0, none⟩ = some (.slice Ba Bn Bc) ∧ z.cell? ⟨w1.heap.size, 1, none⟩ = some (.slice Bsa Bm Bsc) ∧ z.cell? ⟨w3.heap.size, 0, none⟩ = some (.slice Xa Xn Xc) ∧ z.cell? ⟨w3.heap.size, 1, none⟩ = some (.slice Xsa Xm Xsc) ∧ z.cell? ⟨pR, i, none⟩ = some (.string R) ∧ Below w12.heap.size w12 z) (by kernel_rfl) (SOF.out _ (Below.refl _ _).drew) (fun hHeld => ?_)
                refine wpAnyH_take (i := 0) (v := ?v0a) rfl (by kernel_rfl) (by kernel_rfl) (by kernel_rfl) (fun _ _ _ h => h) (Or.inl ⟨by rfl, ?hy0a⟩) (by assumption) ?rest0a
                case hy0a => (intro zz hSw; (try dsimp only at hSw); go_simp; (try with_reducible rfl))
                change wpAnyH _ _ _ _ _ _ _ (Act.put _ (some 109) _) _
                simp only [Act.put, List.setIfInBounds_toArray, List.set_cons_zero, List.set_cons_succ]
                refine wpAnyH_take (i := 1) (v := ?v1a) rfl (by kernel_rfl) (by kernel_rfl) (by kernel_rfl) (fun _ _ _ h => h) (Or.inl ⟨by rfl, ?hy1a⟩) (by assumption) ?rest1a
                case hy1a => (intro zz hSw; (try dsimp only at hSw); go_simp; (try with_reducible rfl))
                change wpAnyH _ _ _ _ _ _ _ (Act.put _ (some 110) _) _
                simp only [Act.put, List.setIfInBounds_toArray, List.set_cons_zero, List.set_cons_succ]
                refine wpAnyH_take (i := 2) (v := ?v2a) rfl (by kernel_rfl) (by kernel_rfl) (by kernel_rfl) (fun _ _ _ h => h) (Or.inl ⟨by rfl, ?hy2a⟩) (by assumption) ?rest2a
                case hy2a => (intro zz hSw; (try dsimp only at hSw); go_simp; (try with_reducible rfl))
                change wpAnyH _ _ _ _ _ _ _ (Act.put _ (some 111) _) _
                simp only [Act.put, List.setIfInBounds_toArray, List.set_cons_zero, List.set_cons_succ]
                refine wpAnyH_take (i := 3) (v := ?v3a) rfl (by kernel_rfl) (by kernel_rfl) (by kernel_rfl) (fun _ _ _ h => h) (Or.inl ⟨by rfl, ?hy3a⟩) (by assumption) ?rest3a
                case hy3a => (intro zz hSw; (try dsimp only at hSw); go_simp; (try with_reducible rfl))
                change wpAnyH _ _ _ _ _ _ _ (Act.put _ (some 112) _) _
                simp only [Act.put, List.setIfInBounds_toArray, List.set_cons_zero, List.set_cons_succ]
                refine wpAnyH_take (i := 4) (v := ?v4a) rfl (by kernel_rfl) (by kernel_rfl) (by kernel_rfl) (fun _ _ _ h => h) (Or.inl ⟨by rfl, ?hy4a⟩) (by assumption) ?rest4a
                case hy4a => (intro zz hSw; (try dsimp only at hSw); go_simp; (try with_reducible rfl))
                change wpAnyH _ _ _ _ _ _ _ (Act.put _ (some 113) _) _
                simp only [Act.put, List.setIfInBounds_toArray, List.set_cons_zero, List.set_cons_succ]
                refine wpAnyH_take (i := 5) (v := ?v5a) rfl (by kernel_rfl) (by kernel_rfl) (by kernel_rfl) (fun _ _ _ h => h) (Or.inl ⟨by rfl, ?hy5a⟩) (by assumption) ?rest5a
                case hy5a => (intro zz hSw; (try dsimp only at hSw); go_simp; (try with_reducible rfl))
                change wpAnyH _ _ _ _ _ _ _ (Act.put _ (some 114) _) _
                simp only [Act.put, List.setIfInBounds_toArray, List.set_cons_zero, List.set_cons_succ]
                refine wpAnyH_take (i := 7) (v := ?v7a) rfl (by kernel_rfl) (by kernel_rfl) (by kernel_rfl) (fun _ _ _ h => h) (Or.inl ⟨by rfl, ?hy7a⟩) (by assumption) ?rest7a
                case hy7a => (intro zz hSw; (try dsimp only at hSw); go_simp; (try with_reducible rfl))
                change wpAnyH _ _ _ _ _ _ _ (Act.put _ (some 116) _) _
                simp only [Act.put, List.setIfInBounds_toArray, List.set_cons_zero, List.set_cons_succ]
                refine wpAnyH_take (i := 8) (v := ?v8a) rfl (by kernel_rfl) (by kernel_rfl) (by kernel_rfl) (fun _ _ _ h => h) (Or.inl ⟨by rfl, ?hy8a⟩) (by assumption) ?rest8a
                case hy8a => (intro zz hSw; (try dsimp only at hSw); go_simp; (try with_reducible rfl))
                change wpAnyH _ _ _ _ _ _ _ (Act.put _ (some 117) _) _
                simp only [Act.put, List.setIfInBounds_toArray, List.set_cons_zero, List.set_cons_succ]
                refine wpAnyH_take (i := 9) (v := ?v9a) rfl (by kernel_rfl) (by kernel_rfl) (by kernel_rfl) (fun _ _ _ h => h) (Or.inl ⟨by rfl, ?hy9a⟩) (by assumption) ?rest9a
                case hy9a => (intro zz hSw; (try dsimp only at hSw); go_simp; (try with_reducible rfl))
                change wpAnyH _ _ _ _ _ _ _ (Act.put _ (some 118) _) _
                simp only [Act.put, List.setIfInBounds_toArray, List.set_cons_zero, List.set_cons_succ]
                refine wpAnyH_take (i := 10) (v := ?v10a) rfl (by kernel_rfl) (by kernel_rfl) (by kernel_rfl) (fun _ _ _ h => h) (Or.inl ⟨by rfl, ?hy10a⟩) (by assumption) ?rest10a
                case hy10a => (intro zz hSw; (try dsimp only at hSw); go_simp; (try with_reducible rfl))
                change wpAnyH _ _ _ _ _ _ _ (Act.put _ (some 119) _) _
                simp only [Act.put, List.setIfInBounds_toArray, List.set_cons_zero, List.set_cons_succ]
                refine wpAnyH_take (i := 11) (v := ?v11a) rfl (by kernel_rfl) (by kernel_rfl) (by kernel_rfl) (fun _ _ _ h => h) (Or.inl ⟨by rfl, ?hy11a⟩) (by assumption) ?rest11a
                case hy11a => (intro zz hSw; (try dsimp only at hSw); go_simp; (try with_reducible rfl))
                change wpAnyH _ _ _ _ _ _ _ (Act.put _ (some 120) _) _
                simp only [Act.put, List.setIfInBounds_toArray, List.set_cons_zero, List.set_cons_succ]
                refine wpAnyH_take (i := 12) (v := ?v12a) rfl (by kernel_rfl) (by kernel_rfl) (by kernel_rfl) (fun _ _ _ h => h) (Or.inl ⟨by rfl, ?hy12a⟩) (by assumption) ?rest12a
                case hy12a => (intro zz hSw; (try dsimp only at hSw); go_simp; (try with_reducible rfl))
                change wpAnyH _ _ _ _ _ _ _ (Act.put _ (some 121) _) _
                simp only [Act.put, List.setIfInBounds_toArray, List.set_cons_zero, List.set_cons_succ]
                refine wpAnyH_ready (rs := [6]) (by kernel_rfl) (by simp) (AllReadyH.cons rfl (fun K hK => ?_) (AllReadyH.nil))
                go_simp
                refine (specBins_any R t _ (OB.out.own.next hHeld.2.2.2.2.2) SB.out.low SB.out.mod (by omega)).mono ?_; rintro e w13 ⟨v1, rfl, o6, bel⟩
                refine hK.out _ _ (SOF.out _ (bel_tr hHeld.2.2.2.2.2 bel (Nat.le_refl _))) (fun hHeld => ?_)
                clear hK K
                refine wpAnyH_ready (rs := [13]) (by kernel_rfl) (by simp) (AllReadyH.cons rfl (fun K hK => ?_) (AllReadyH.nil))
                go_simp
                refine (specBins_any R t _ (OX.out.own.next hHeld.2.2.2.2.2) HLX.out HMX.out (by omega)).mono ?_; rintro e w14 ⟨v2, rfl, o13, bel⟩
                rw [HEQ.out] at o13
                replace o6 := o6.next bel
                refine hK.out _ _ (SOF.out _ (bel_tr hHeld.2.2.2.2.2 bel (Nat.le_refl _))) (fun hHeld => ?_)
                clear hK K
                refine wpAnyH_ready (rs := [14]) (by kernel_rfl) (by simp) (AllReadyH.cons rfl (fun K hK => ?_) (AllReadyH.nil))
                go_simp
                refine (likeI_own _ o6 o13 (by have := bnP_len ph ss R t; omega)).mono ?_; rintro e w15 ⟨rfl, bel⟩
                clear o6 o13
                refine hK.out _ _ (SOF.out _ (bel_tr hHeld.2.2.2.2.2 bel (Nat.le_refl _))) (fun hHeld => ?_)
                clear hK K
                refine wpAnyH_take (i := 15) (v := ?v15a) rfl (by kernel_rfl) (by kernel_rfl) (by kernel_rfl) (fun _ _ _ h => h) (Or.inl ⟨by rfl, ?hy15a⟩) (by assumption) ?rest15a
                case hy15a => (intro zz hSw; (try dsimp only at hSw); go_simp; (try with_reducible rfl))
                change wpAnyH _ _ _ _ _ _ _ (Act.put _ (some 124) _) _
                simp only [Act.put, List.setIfInBounds_toArray, List.set_cons_zero, List.set_cons_succ]
                refine wpAnyH_done (by kernel_rfl) ?_ _
                have bx := hHeld.2.2.2.2.2; clear hHeld SOF
                clear hBq hXq
                have BXX := bx
                have B15 := Lib.hid (bel_tr B12.out bx (Nat.le_refl _))
                have Z15 := Lib.hid bx.size
                replace OB := Lib.hid (OB.out.next bx)
                replace OX := Lib.hid (OX.out.next bx)
                replace KB := Lib.hid (KB.out.next bx)
                replace KX := Lib.hid (KX.out.next bx)
                clear bx
                replace HBI := Lib.hid (bel_tr HBI.out BXX (Nat.le_refl _)); clear BXX
                have wt : IntKind.i64.wrap (t + 1) = t + 1 := by rw [IntKind.wrap_i64]; omega
                go_wp2_with fail
                go_roundw
                case rel => exact ⟨t + 1, by go_num, by omega, by omega, HBI.out⟩
                case measure => simp [intOf]; omega
              · clear hcR
                go_wp2_with fail
                go_roundw
                case rel => exact ⟨i + 1, by go_num, by omega, HBI.out⟩
                case measure => simp [intV]; omega
          · have i6 : ¬ (i : Int) < 6 := by omega
            go_wp2_with fail
            go_ret
            exact ⟨rfl, bel_tr B11.out HBO.out (Nat.le_refl _)⟩
end Go.Proofs.Ytcloejmakjdgcaa.Cl
