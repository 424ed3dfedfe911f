/-
  The walk of FnBarns at a code that is not too long. (Made by gen_eh.py.)
-/
import Derived.Test.YtcloejmakjdgcaaEg
import Derived.Test.YtcloejmakjdgcaaRg
import Derived.Test.YtcloejmakjdgcaaEe
import Derived.Deep.DeepCutAuto
namespace Go.Proofs.Ytcloejmakjdgcaa.Cl
open Go.RowKit Wd Rp Cu Kp Ra
set_option linter.unusedVariables false
theorem fbI0 {h : List Cel} {ss : List (List Cel)} {K x : Cel} {fb : Bool} (hf : fdP h ss K = (x, fb)) {B : Nat} {hv sv : Value} (w : World) (o : OwB B w hv sv h ss) (s : Stor h ss) :
    Calls Try.prog 35 #[.agg #[hv, sv], .string K.r, .string K.b, .int .i64 K.t] w fun e w' => e = .returned (.tuple #[.agg #[.string x.r, .string x.b, .int .i64 x.t, .int .i64 x.v, .bool x.g], .bool fb]) ∧ Below w.heap.size w w' := by
  have := implFindO K w o s.low
  rw [hf] at this; exact this
theorem fbI' {h : List Cel} {ss : List (List Cel)} {K x : Cel} {fb : Bool} (hf : fdP h ss K = (x, fb)) {B : Nat} {hv sv : Value} (w : World) (o : OwB B w hv sv h ss) (s : Low h ss) :
    Calls Try.prog 35 #[.agg #[hv, sv], .string K.r, .string K.b, .int .i64 K.t] w fun e w' => e = .returned (.tuple #[.agg #[.string x.r, .string x.b, .int .i64 x.t, .int .i64 x.v, .bool x.g], .bool fb]) ∧ Below w.heap.size w w' := by
  have := implFindO K w o s
  rw [hf] at this; exact this
set_option maxHeartbeats 16000000 in
set_option maxRecDepth 100000 in
theorem barns_small (w : World) (a0 : Option Addr) (len0 cap0 : Nat) (hb : IsBytes w a0 len0) (hl : len0 ≤ 4096) :
    Calls Try.prog 4 #[.slice a0 len0 cap0] w fun e w' => e = .returned (.bool true) ∧ Below w.heap.size w w' := by
  have HB := Lib.hid hb; clear hb
  go_enter Try.func4, Try.ntmps4
  go_wp2_with fail
  refine (big_no w a0 len0 cap0 hl).mono ?_; rintro e wx ⟨rfl, rfl⟩
  go_wp2_with fail
  refine (drawPutBarn_any w a0 len0 cap0 HB.out hl).mono ?_; rintro e w1 pp; obtain ⟨Ba, Bn, Bc, Bsa, Bm, Bsc, h, ss, c, rfl, o1, hn, hm, s1, hc, b1⟩ := pp.op; clear pp
  have NB := Lib.hid (And.intro hn hm)
  have SB := Lib.hid s1
  have SC := Lib.hid hc
  have b2 := bel2 w1 (.cells #[.slice Ba Bn Bc, .slice Bsa Bm Bsc] 38) (.cells #[.string c.r, .string c.b, .int .i64 c.t, .int .i64 c.v, .bool c.g] 33)
  have B2 := Lib.hid (bel_tr b1 b2 (Nat.le_refl _))
  have KB := Lib.hid ((Bb.made (.slice Ba Bn Bc) (.slice Bsa Bm Bsc) w1 38).next (bel1 _ (.cells #[.string c.r, .string c.b, .int .i64 c.t, .int .i64 c.v, .bool c.g] 33)))
  have KC := Lib.hid (show Cb (w1.heap.size + 1) c ((w1.alloc (.cells #[.slice Ba Bn Bc, .slice Bsa Bm Bsc] 38)).alloc (.cells #[.string c.r, .string c.b, .int .i64 c.t, .int .i64 c.v, .bool c.g] 33)) from by have := Cb.made c (w1.alloc (.cells #[.slice Ba Bn Bc, .slice Bsa Bm Bsc] 38)) 33; rwa [World.size_alloc] at this)
  have OB := Lib.hid ((OwB.top o1).next b2)
  clear o1 s1 hc b1 b2 hn hm
  obtain ⟨ph, ps, is, hpb⟩ : ∃ ph ps is, pbH h ss c = ph ∧ pbS h ss = ps ∧ pbB h ss c = is := ⟨_, _, _, rfl, rfl, rfl⟩
  have HPB := Lib.hid hpb
  have HLX := Lib.hid (show Low ph ps from by have := pb_low2 h ss c SB.out.low; rw [hpb.1, hpb.2.1] at this; exact this)
  clear hpb
  go_wp2_with fail
  generalize (w1.alloc (.cells #[.slice Ba Bn Bc, .slice Bsa Bm Bsc] 38)).alloc (.cells #[.string c.r, .string c.b, .int .i64 c.t, .int .i64 c.v, .bool c.g] 33) = w2 at B2 KB KC OB ⊢
  generalize w1.heap.size = pB at KB KC OB ⊢
  refine (pbI HPB.out w2 OB.out.own SB.out).mono ?_; rintro e w3 ⟨Xa, Xn, Xc, Xsa, Xm, Xsc, rfl, o, hn, hm, b3⟩
  have B3 := Lib.hid (bel_tr B2.out b3 (Nat.le_refl _))
  replace OB := Lib.hid (OB.out.next b3)
  replace KB := Lib.hid (KB.out.next b3)
  replace KC := Lib.hid (KC.out.next b3)
  have OX := Lib.hid (OwB.top o); clear o b3
  have NX := Lib.hid (And.intro hn hm); clear hn hm
  obtain ⟨kB0, kB1, kB2, kB3, -⟩ := id KB.out
  obtain ⟨⟨kC0, kC1, kC2, kC3, kC4⟩, ⟨kC5, kC6, kC7, kC8, kC9⟩, -⟩ := id KC.out
  have b4 := bel1 w3 (.cells #[.slice Xa Xn Xc, .slice Xsa Xm Xsc] 38)
  have B4 := Lib.hid (bel_tr B3.out b4 (Nat.le_refl _))
  replace OB := Lib.hid (OB.out.next b4)
  replace OX := Lib.hid (OX.out.next b4)
  replace KB := Lib.hid (KB.out.next b4)
  replace KC := Lib.hid (KC.out.next b4)
  clear b4
  have KX := Lib.hid (Bb.made (.slice Xa Xn Xc) (.slice Xsa Xm Xsc) w3 38)
  obtain ⟨mB0, mB1, mB2, mB3, -⟩ := id KB.out
  obtain ⟨⟨mC0, mC1, mC2, mC3, mC4⟩, ⟨mC5, mC6, mC7, mC8, mC9⟩, -⟩ := id KC.out
  go_wp2_with fail
  clear kB0 kB1 kB2 kB3 kC0 kC1 kC2 kC3 kC4 kC5 kC6 kC7 kC8 kC9 mB0 mB1 mB2 mB3 mC0 mC1 mC2 mC3 mC4 mC5 mC6 mC7 mC8 mC9
  generalize w3.alloc (.cells #[.slice Xa Xn Xc, .slice Xsa Xm Xsc] 38) = w4 at B4 KX OB OX KB KC ⊢
  refine (drawLaid_any w4 a0 len0 cap0 (isBytes_nx HB.out B4.out) hl).mono ?_; rintro e w5 pp; obtain ⟨La, Ln, Lc, Lsa, Lm, Lsc, lh, ls, rfl, o, hn, hm, s1, b5⟩ := pp.op; clear pp
  have B5 := Lib.hid (bel_tr B4.out b5 (Nat.le_refl _))
  replace OB := Lib.hid (OB.out.next b5)
  replace OX := Lib.hid (OX.out.next b5)
  replace KB := Lib.hid (KB.out.next b5)
  replace KX := Lib.hid (KX.out.next b5)
  replace KC := Lib.hid (KC.out.next b5)
  have OL := Lib.hid (OwB.top o); clear o b5
  have NL := Lib.hid (And.intro hn hm); have SL := Lib.hid s1; clear hn hm s1
  obtain ⟨kB0, kB1, kB2, kB3, -⟩ := id KB.out
  obtain ⟨kX0, kX1, kX2, kX3, -⟩ := id KX.out
  obtain ⟨⟨kC0, kC1, kC2, kC3, kC4⟩, ⟨kC5, kC6, kC7, kC8, kC9⟩, -⟩ := id KC.out
  have b6 := bel1 w5 (.cells #[.slice La Ln Lc, .slice Lsa Lm Lsc] 38)
  have B6 := Lib.hid (bel_tr B5.out b6 (Nat.le_refl _))
  replace OB := Lib.hid (OB.out.next b6)
  replace OX := Lib.hid (OX.out.next b6)
  replace OL := Lib.hid (OL.out.next b6)
  replace KB := Lib.hid (KB.out.next b6)
  replace KX := Lib.hid (KX.out.next b6)
  replace KC := Lib.hid (KC.out.next b6)
  clear b6
  have KL := Lib.hid (Bb.made (.slice La Ln Lc) (.slice Lsa Lm Lsc) w5 38)
  obtain ⟨mB0, mB1, mB2, mB3, -⟩ := id KB.out
  obtain ⟨mX0, mX1, mX2, mX3, -⟩ := id KX.out
  obtain ⟨⟨mC0, mC1, mC2, mC3, mC4⟩, ⟨mC5, mC6, mC7, mC8, mC9⟩, -⟩ := id KC.out
  go_wp2_with fail
  clear kB0 kB1 kB2 kB3 kX0 kX1 kX2 kX3 kC0 kC1 kC2 kC3 kC4 kC5 kC6 kC7 kC8 kC9 mB0 mB1 mB2 mB3 mX0 mX1 mX2 mX3 mC0 mC1 mC2 mC3 mC4 mC5 mC6 mC7 mC8 mC9
  generalize w5.alloc (.cells #[.slice La Ln Lc, .slice Lsa Lm Lsc] 38) = w6 at B6 KL OB OX OL KB KX KC ⊢
  obtain ⟨yh, ys, laid, hld⟩ : ∃ yh ys laid, ldH lh ls = yh ∧ ldS lh ls = ys ∧ ldB lh ls = laid := ⟨_, _, _, rfl, rfl, rfl⟩
  have HLD := Lib.hid hld
  have HLY := Lib.hid (show Low yh ys from by have := (ld_low lh ls).1; rw [hld.1, hld.2.1] at this; exact this)
  clear hld
  refine (ldI HLD.out w6 OL.out.own SL.out).mono ?_; rintro e w7 ⟨Ya, Yn, Yc, Ysa, Ym, Ysc, rfl, o, hn, hm, b7⟩
  have B7 := Lib.hid (bel_tr B6.out b7 (Nat.le_refl _))
  replace OB := Lib.hid (OB.out.next b7)
  replace OX := Lib.hid (OX.out.next b7)
  replace OL := Lib.hid (OL.out.next b7)
  replace KB := Lib.hid (KB.out.next b7)
  replace KX := Lib.hid (KX.out.next b7)
  replace KL := Lib.hid (KL.out.next b7)
  replace KC := Lib.hid (KC.out.next b7)
  have OY := Lib.hid (OwB.top o); clear o b7
  have NY := Lib.hid (And.intro hn hm); clear hn hm
  obtain ⟨kB0, kB1, kB2, kB3, -⟩ := id KB.out
  obtain ⟨kX0, kX1, kX2, kX3, -⟩ := id KX.out
  obtain ⟨kL0, kL1, kL2, kL3, -⟩ := id KL.out
  obtain ⟨⟨kC0, kC1, kC2, kC3, kC4⟩, ⟨kC5, kC6, kC7, kC8, kC9⟩, -⟩ := id KC.out
  have b8 := bel1 w7 (.cells #[.slice Ya Yn Yc, .slice Ysa Ym Ysc] 38)
  have B8 := Lib.hid (bel_tr B7.out b8 (Nat.le_refl _))
  replace OB := Lib.hid (OB.out.next b8)
  replace OX := Lib.hid (OX.out.next b8)
  replace OL := Lib.hid (OL.out.next b8)
  replace OY := Lib.hid (OY.out.next b8)
  replace KB := Lib.hid (KB.out.next b8)
  replace KX := Lib.hid (KX.out.next b8)
  replace KL := Lib.hid (KL.out.next b8)
  replace KC := Lib.hid (KC.out.next b8)
  clear b8
  have KY := Lib.hid (Bb.made (.slice Ya Yn Yc) (.slice Ysa Ym Ysc) w7 38)
  obtain ⟨mB0, mB1, mB2, mB3, -⟩ := id KB.out
  obtain ⟨mX0, mX1, mX2, mX3, -⟩ := id KX.out
  obtain ⟨mL0, mL1, mL2, mL3, -⟩ := id KL.out
  obtain ⟨⟨mC0, mC1, mC2, mC3, mC4⟩, ⟨mC5, mC6, mC7, mC8, mC9⟩, -⟩ := id KC.out
  go_wp2_with fail
  clear kB0 kB1 kB2 kB3 kX0 kX1 kX2 kX3 kL0 kL1 kL2 kL3 kC0 kC1 kC2 kC3 kC4 kC5 kC6 kC7 kC8 kC9 mB0 mB1 mB2 mB3 mX0 mX1 mX2 mX3 mL0 mL1 mL2 mL3 mC0 mC1 mC2 mC3 mC4 mC5 mC6 mC7 mC8 mC9
  generalize w7.alloc (.cells #[.slice Ya Yn Yc, .slice Ysa Ym Ysc] 38) = w8 at B8 KY OB OX OL OY KB KX KL KC ⊢
  refine (drawAllCells_any w8 a0 len0 cap0 (isBytes_nx HB.out B8.out) hl).mono ?_; rintro e w9 pp; obtain ⟨Qa, Qn, Qc, Qsa, Qm, Qsc, qh, qs, rfl, o, hn, hm, s1, b9⟩ := pp.op; clear pp
  have B9 := Lib.hid (bel_tr B8.out b9 (Nat.le_refl _))
  replace OB := Lib.hid (OB.out.next b9)
  replace OX := Lib.hid (OX.out.next b9)
  replace OL := Lib.hid (OL.out.next b9)
  replace OY := Lib.hid (OY.out.next b9)
  replace KB := Lib.hid (KB.out.next b9)
  replace KX := Lib.hid (KX.out.next b9)
  replace KL := Lib.hid (KL.out.next b9)
  replace KY := Lib.hid (KY.out.next b9)
  replace KC := Lib.hid (KC.out.next b9)
  have OQ := Lib.hid (OwB.top o); clear o b9
  have NQ := Lib.hid (And.intro hn hm); have SQ := Lib.hid s1; clear hn hm s1
  obtain ⟨kB0, kB1, kB2, kB3, -⟩ := id KB.out
  obtain ⟨kX0, kX1, kX2, kX3, -⟩ := id KX.out
  obtain ⟨kL0, kL1, kL2, kL3, -⟩ := id KL.out
  obtain ⟨kY0, kY1, kY2, kY3, -⟩ := id KY.out
  obtain ⟨⟨kC0, kC1, kC2, kC3, kC4⟩, ⟨kC5, kC6, kC7, kC8, kC9⟩, -⟩ := id KC.out
  have b10 := bel1 w9 (.cells #[.slice Qa Qn Qc, .slice Qsa Qm Qsc] 38)
  have B10 := Lib.hid (bel_tr B9.out b10 (Nat.le_refl _))
  replace OB := Lib.hid (OB.out.next b10)
  replace OX := Lib.hid (OX.out.next b10)
  replace OL := Lib.hid (OL.out.next b10)
  replace OY := Lib.hid (OY.out.next b10)
  replace OQ := Lib.hid (OQ.out.next b10)
  replace KB := Lib.hid (KB.out.next b10)
  replace KX := Lib.hid (KX.out.next b10)
  replace KL := Lib.hid (KL.out.next b10)
  replace KY := Lib.hid (KY.out.next b10)
  replace KC := Lib.hid (KC.out.next b10)
  clear b10
  have KQ := Lib.hid (Bb.made (.slice Qa Qn Qc) (.slice Qsa Qm Qsc) w9 38)
  obtain ⟨mB0, mB1, mB2, mB3, -⟩ := id KB.out
  obtain ⟨mX0, mX1, mX2, mX3, -⟩ := id KX.out
  obtain ⟨mL0, mL1, mL2, mL3, -⟩ := id KL.out
  obtain ⟨mY0, mY1, mY2, mY3, -⟩ := id KY.out
  obtain ⟨⟨mC0, mC1, mC2, mC3, mC4⟩, ⟨mC5, mC6, mC7, mC8, mC9⟩, -⟩ := id KC.out
  go_wp2_with fail
  clear kB0 kB1 kB2 kB3 kX0 kX1 kX2 kX3 kL0 kL1 kL2 kL3 kY0 kY1 kY2 kY3 kC0 kC1 kC2 kC3 kC4 kC5 kC6 kC7 kC8 kC9 mB0 mB1 mB2 mB3 mX0 mX1 mX2 mX3 mL0 mL1 mL2 mL3 mY0 mY1 mY2 mY3 mC0 mC1 mC2 mC3 mC4 mC5 mC6 mC7 mC8 mC9
  generalize w9.alloc (.cells #[.slice Qa Qn Qc, .slice Qsa Qm Qsc] 38) = w10 at B10 KQ OB OX OL OY OQ KB KX KL KY KC ⊢
  obtain ⟨al, hal⟩ : ∃ al, allP qh qs = al := ⟨_, rfl⟩
  have HAL := Lib.hid hal
  have HL2 := Lib.hid (show al.length ≤ 200 from by rw [← hal]; exact allP_len qh qs)
  clear hal
  refine (alI HAL.out w10 OQ.out.own SQ.out.low).mono ?_; rintro e w11 ⟨Aa, An, Ac, rfl, o, hn, b11⟩
  have TA := Lib.hid (show ∀ k, (.slice Aa An Ac : Value).ownBlock = some k → w10.heap.size ≤ k from OwC.lt o)
  have UA := Lib.hid (show ∀ k, (.slice Aa An Ac : Value).ownBlock = some k → k < w11.heap.size from OwC.low o)
  have B11 := Lib.hid (bel_tr B10.out b11 (Nat.le_refl _))
  replace OB := Lib.hid (OB.out.next b11)
  replace OX := Lib.hid (OX.out.next b11)
  replace OL := Lib.hid (OL.out.next b11)
  replace OY := Lib.hid (OY.out.next b11)
  replace OQ := Lib.hid (OQ.out.next b11)
  replace KB := Lib.hid (KB.out.next b11)
  replace KX := Lib.hid (KX.out.next b11)
  replace KL := Lib.hid (KL.out.next b11)
  replace KY := Lib.hid (KY.out.next b11)
  replace KQ := Lib.hid (KQ.out.next b11)
  replace KC := Lib.hid (KC.out.next b11)
  have OA := Lib.hid o; clear o b11
  have NA := Lib.hid hn; clear hn
  obtain ⟨kB0, kB1, kB2, kB3, -⟩ := id KB.out
  obtain ⟨kX0, kX1, kX2, kX3, -⟩ := id KX.out
  obtain ⟨kL0, kL1, kL2, kL3, -⟩ := id KL.out
  obtain ⟨kY0, kY1, kY2, kY3, -⟩ := id KY.out
  obtain ⟨kQ0, kQ1, kQ2, kQ3, -⟩ := id KQ.out
  obtain ⟨⟨kC0, kC1, kC2, kC3, kC4⟩, ⟨kC5, kC6, kC7, kC8, kC9⟩, -⟩ := id KC.out
  go_wp2_with fail
  clear kB0 kB1 kB2 kB3 kX0 kX1 kX2 kX3 kL0 kL1 kL2 kL3 kY0 kY1 kY2 kY3 kQ0 kQ1 kQ2 kQ3 kC0 kC1 kC2 kC3 kC4 kC5 kC6 kC7 kC8 kC9
  refine (pbS' HPB.out w11 OB.out.own SB.out SC.out).mono ?_; rintro e w12 ⟨Za, Zn, Zc, Zsa, Zm, Zsc, rfl, o, hn, hm, b12⟩
  have B12 := Lib.hid (bel_tr B11.out b12 (Nat.le_refl _))
  replace OB := Lib.hid (OB.out.next b12)
  replace OX := Lib.hid (OX.out.next b12)
  replace OL := Lib.hid (OL.out.next b12)
  replace OY := Lib.hid (OY.out.next b12)
  replace OQ := Lib.hid (OQ.out.next b12)
  replace OA := Lib.hid (OA.out.next b12)
  replace KB := Lib.hid (KB.out.next b12)
  replace KX := Lib.hid (KX.out.next b12)
  replace KL := Lib.hid (KL.out.next b12)
  replace KY := Lib.hid (KY.out.next b12)
  replace KQ := Lib.hid (KQ.out.next b12)
  replace KC := Lib.hid (KC.out.next b12)
  have OZ := Lib.hid (OwB.top o); clear o b12
  have NZ := Lib.hid (And.intro hn hm); clear hn hm
  have n1 : (is != is) = false := by simp
  obtain ⟨ok, hok⟩ : ∃ ok, okB h ss = ok := ⟨_, rfl⟩
  have HOK := Lib.hid hok; clear hok
  have n2 : (ok != ok) = false := by simp
  have n3 : (laid != laid) = false := by simp
  obtain ⟨kB0, kB1, kB2, kB3, -⟩ := id KB.out
  obtain ⟨kX0, kX1, kX2, kX3, -⟩ := id KX.out
  obtain ⟨kL0, kL1, kL2, kL3, -⟩ := id KL.out
  obtain ⟨kY0, kY1, kY2, kY3, -⟩ := id KY.out
  obtain ⟨kQ0, kQ1, kQ2, kQ3, -⟩ := id KQ.out
  obtain ⟨⟨kC0, kC1, kC2, kC3, kC4⟩, ⟨kC5, kC6, kC7, kC8, kC9⟩, -⟩ := id KC.out
  have b13 := bel1 w12 (.cells #[.slice Za Zn Zc, .slice Zsa Zm Zsc] 38)
  have B13 := Lib.hid (bel_tr B12.out b13 (Nat.le_refl _))
  replace OB := Lib.hid (OB.out.next b13)
  replace OX := Lib.hid (OX.out.next b13)
  replace OL := Lib.hid (OL.out.next b13)
  replace OY := Lib.hid (OY.out.next b13)
  replace OQ := Lib.hid (OQ.out.next b13)
  replace OA := Lib.hid (OA.out.next b13)
  replace OZ := Lib.hid (OZ.out.next b13)
  replace KB := Lib.hid (KB.out.next b13)
  replace KX := Lib.hid (KX.out.next b13)
  replace KL := Lib.hid (KL.out.next b13)
  replace KY := Lib.hid (KY.out.next b13)
  replace KQ := Lib.hid (KQ.out.next b13)
  replace KC := Lib.hid (KC.out.next b13)
  clear b13
  have KZ := Lib.hid (Bb.made (.slice Za Zn Zc) (.slice Zsa Zm Zsc) w12 38)
  obtain ⟨mB0, mB1, mB2, mB3, -⟩ := id KB.out
  obtain ⟨mX0, mX1, mX2, mX3, -⟩ := id KX.out
  obtain ⟨mL0, mL1, mL2, mL3, -⟩ := id KL.out
  obtain ⟨mY0, mY1, mY2, mY3, -⟩ := id KY.out
  obtain ⟨mQ0, mQ1, mQ2, mQ3, -⟩ := id KQ.out
  obtain ⟨⟨mC0, mC1, mC2, mC3, mC4⟩, ⟨mC5, mC6, mC7, mC8, mC9⟩, -⟩ := id KC.out
  go_wp2_with fail
  clear kB0 kB1 kB2 kB3 kX0 kX1 kX2 kX3 kL0 kL1 kL2 kL3 kY0 kY1 kY2 kY3 kQ0 kQ1 kQ2 kQ3 kC0 kC1 kC2 kC3 kC4 kC5 kC6 kC7 kC8 kC9 mB0 mB1 mB2 mB3 mX0 mX1 mX2 mX3 mL0 mL1 mL2 mL3 mY0 mY1 mY2 mY3 mQ0 mQ1 mQ2 mQ3 mC0 mC1 mC2 mC3 mC4 mC5 mC6 mC7 mC8 mC9
  generalize w12.alloc (.cells #[.slice Za Zn Zc, .slice Zsa Zm Zsc] 38) = w13 at B13 KZ OB OX OL OY OQ OA OZ KB KX KL KY KQ KC ⊢
  obtain ⟨hX0, hX1, -, -, hXq⟩ := id KX.out
  obtain ⟨hZ0, hZ1, -, -, hZq⟩ := id KZ.out
  obtain ⟨hB0, hB1, -, -, hBq⟩ := id KB.out
  obtain ⟨hQ0, hQ1, -, -, hQq⟩ := id KQ.out
  have SOF := Lib.hid (show ∀ z, Below w13.heap.size w13 z → (z.cell? ⟨w3.heap.size, 0, none⟩ = some (.slice Xa Xn Xc) ∧ z.cell? ⟨w3.heap.size, 1, none⟩ = some (.slice Xsa Xm Xsc) ∧ z.cell? ⟨w12.heap.size, 0, none⟩ = some (.slice Za Zn Zc) ∧ z.cell? ⟨w12.heap.size, 1, none⟩ = some (.slice Zsa Zm Zsc) ∧ z.cell? ⟨pB, 0, none⟩ = some (.slice Ba Bn Bc) ∧ z.cell? ⟨pB, 1, none⟩ = some (.slice Bsa Bm Bsc) ∧ z.cell? ⟨w9.heap.size, 0, none⟩ = some (.slice Qa Qn Qc) ∧ z.cell? ⟨w9.heap.size, 1, none⟩ = some (.slice Qsa Qm Qsc) ∧ Below w13.heap.size w13 z) from fun z hz => ⟨coc hz hXq hX0, coc hz hXq hX1, coc hz hZq hZ0, coc hz hZq hZ1, coc hz hBq hB0, coc hz hBq hB1, coc hz hQq hQ0, coc hz hQq hQ1,  hz⟩)
  clear hX0 hX1 hZ0 hZ1 hB0 hB1 hQ0 hQ1
  refine wp_region_held_drew (S := fun z => z.cell? ⟨w3.heap.size, 0, none⟩ = some (.slice Xa Xn Xc) ∧ z.cell? ⟨w3.heap.size, 1, none⟩ = some (.slice Xsa Xm Xsc) ∧ z.cell? ⟨w12.heap.size, 0, none⟩ = some (.slice Za Zn Zc) ∧ z.cell? ⟨w12.heap.size, 1, none⟩ = some (.slice Zsa Zm Zsc) ∧ z.cell? ⟨pB, 0, none⟩ = some (.slice Ba Bn Bc) ∧ z.cell? ⟨pB, 1, none⟩ = some (.slice Bsa Bm Bsc) ∧ z.cell? ⟨w9.heap.size, 0, none⟩ = some (.slice Qa Qn Qc) ∧ z.cell? ⟨w9.heap.size, 1, none⟩ = some (.slice Qsa Qm Qsc) ∧ Below w13.heap.size w13 z) (by kernel_rfl) (SOF.out _ (Below.refl _ _).drew) (fun hHeld => ?_)
  refine wpAnyH_take (i := 0) (v := ?v0a) rfl (by kernel_rfl) (by kernel_rfl) (by kernel_rfl) (fun _ _ _ h => h) (Or.inl ⟨by rfl, ?hy0a⟩) (by assumption) ?rest0a
  case hy0a => (intro zz hSw; (try dsimp only at hSw); go_simp; (try with_reducible rfl))
  change wpAnyH _ _ _ _ _ _ _ (Act.put _ (some 52) _) _
  simp only [Act.put, List.setIfInBounds_toArray, List.set_cons_zero, List.set_cons_succ]
  refine wpAnyH_take (i := 1) (v := ?v1a) rfl (by kernel_rfl) (by kernel_rfl) (by kernel_rfl) (fun _ _ _ h => h) (Or.inl ⟨by rfl, ?hy1a⟩) (by assumption) ?rest1a
  case hy1a => (intro zz hSw; (try dsimp only at hSw); go_simp; (try with_reducible rfl))
  change wpAnyH _ _ _ _ _ _ _ (Act.put _ (some 53) _) _
  simp only [Act.put, List.setIfInBounds_toArray, List.set_cons_zero, List.set_cons_succ]
  refine wpAnyH_take (i := 2) (v := ?v2a) rfl (by kernel_rfl) (by kernel_rfl) (by kernel_rfl) (fun _ _ _ h => h) (Or.inl ⟨by rfl, ?hy2a⟩) (by assumption) ?rest2a
  case hy2a => (intro zz hSw; (try dsimp only at hSw); go_simp; (try with_reducible rfl))
  change wpAnyH _ _ _ _ _ _ _ (Act.put _ (some 54) _) _
  simp only [Act.put, List.setIfInBounds_toArray, List.set_cons_zero, List.set_cons_succ]
  refine wpAnyH_take (i := 3) (v := ?v3a) rfl (by kernel_rfl) (by kernel_rfl) (by kernel_rfl) (fun _ _ _ h => h) (Or.inl ⟨by rfl, ?hy3a⟩) (by assumption) ?rest3a
  case hy3a => (intro zz hSw; (try dsimp only at hSw); go_simp; (try with_reducible rfl))
  change wpAnyH _ _ _ _ _ _ _ (Act.put _ (some 55) _) _
  simp only [Act.put, List.setIfInBounds_toArray, List.set_cons_zero, List.set_cons_succ]
  refine wpAnyH_take (i := 4) (v := ?v4a) rfl (by kernel_rfl) (by kernel_rfl) (by kernel_rfl) (fun _ _ _ h => h) (Or.inl ⟨by rfl, ?hy4a⟩) (by assumption) ?rest4a
  case hy4a => (intro zz hSw; (try dsimp only at hSw); go_simp; (try with_reducible rfl))
  change wpAnyH _ _ _ _ _ _ _ (Act.put _ (some 56) _) _
  simp only [Act.put, List.setIfInBounds_toArray, List.set_cons_zero, List.set_cons_succ]
  refine wpAnyH_take (i := 5) (v := ?v5a) rfl (by kernel_rfl) (by kernel_rfl) (by kernel_rfl) (fun _ _ _ h => h) (Or.inl ⟨by rfl, ?hy5a⟩) (by assumption) ?rest5a
  case hy5a => (intro zz hSw; (try dsimp only at hSw); go_simp; (try with_reducible rfl))
  change wpAnyH _ _ _ _ _ _ _ (Act.put _ (some 57) _) _
  simp only [Act.put, List.setIfInBounds_toArray, List.set_cons_zero, List.set_cons_succ]
  refine wpAnyH_ready (rs := [6]) (by kernel_rfl) (by simp) (AllReadyH.cons rfl (fun K hK => ?_) (AllReadyH.nil))
  go_simp
  refine (likeB_own _ (OX.out.own.next hHeld.2.2.2.2.2.2.2.2) (OZ.out.own.next hHeld.2.2.2.2.2.2.2.2) HLX.out).mono ?_; rintro e w14 ⟨rfl, bel⟩
  refine hK.out _ _ (SOF.out _ (bel_tr hHeld.2.2.2.2.2.2.2.2 bel (Nat.le_refl _))) (fun hHeld => ?_)
  clear hK K
  refine wpAnyH_take (i := 7) (v := ?v7a) rfl (by kernel_rfl) (by kernel_rfl) (by kernel_rfl) (fun _ _ _ h => h) (Or.inl ⟨by rfl, ?hy7a⟩) (by assumption) ?rest7a
  case hy7a => (intro zz hSw; (try dsimp only at hSw); go_simp; (try with_reducible rfl))
  change wpAnyH _ _ _ _ _ _ _ (Act.put _ (some 59) _) _
  simp only [Act.put, List.setIfInBounds_toArray, List.set_cons_zero, List.set_cons_succ]
  refine wpAnyH_take (i := 8) (v := ?v8a) rfl (by kernel_rfl) (by kernel_rfl) (by kernel_rfl) (fun _ _ _ h => h) (Or.inl ⟨by rfl, ?hy8a⟩) (by assumption) ?rest8a
  case hy8a => (intro zz hSw; (try dsimp only at hSw); go_simp; (try with_reducible rfl))
  change wpAnyH _ _ _ _ _ _ _ (Act.put _ (some 60) _) _
  simp only [Act.put, List.setIfInBounds_toArray, List.set_cons_zero, List.set_cons_succ]
  refine wpAnyH_take (i := 9) (v := ?v9a) rfl (by kernel_rfl) (by kernel_rfl) (by kernel_rfl) (fun _ _ _ h => h) (Or.inl ⟨by rfl, ?hy9a⟩) (by assumption) ?rest9a
  case hy9a => (intro zz hSw; (try dsimp only at hSw); go_simp; (try with_reducible rfl))
  change wpAnyH _ _ _ _ _ _ _ (Act.put _ (some 61) _) _
  simp only [Act.put, List.setIfInBounds_toArray, List.set_cons_zero, List.set_cons_succ]
  refine wpAnyH_take (i := 10) (v := ?v10a) rfl (by kernel_rfl) (by kernel_rfl) (by kernel_rfl) (fun _ _ _ h => h) (Or.inl ⟨by rfl, ?hy10a⟩) (by assumption) ?rest10a
  case hy10a => (intro zz hSw; (try dsimp only at hSw); go_simp; (try with_reducible rfl))
  change wpAnyH _ _ _ _ _ _ _ (Act.put _ (some 62) _) _
  simp only [Act.put, List.setIfInBounds_toArray, List.set_cons_zero, List.set_cons_succ]
  refine wpAnyH_take (i := 12) (v := ?v12a) rfl (by kernel_rfl) (by kernel_rfl) (by kernel_rfl) (fun _ _ _ h => h) (Or.inl ⟨by rfl, ?hy12a⟩) (by assumption) ?rest12a
  case hy12a => (intro zz hSw; (try dsimp only at hSw); go_simp; (try with_reducible rfl))
  change wpAnyH _ _ _ _ _ _ _ (Act.put _ (some 64) _) _
  simp only [Act.put, List.setIfInBounds_toArray, List.set_cons_zero, List.set_cons_succ]
  refine wpAnyH_ready (rs := [11]) (by kernel_rfl) (by simp) (AllReadyH.cons rfl (fun K hK => ?_) (AllReadyH.nil))
  go_simp
  refine (bI HOK.out _ (OB.out.own.next hHeld.2.2.2.2.2.2.2.2) SB.out.low).mono ?_; rintro e w15 ⟨rfl, bel⟩
  refine hK.out _ _ (SOF.out _ (bel_tr hHeld.2.2.2.2.2.2.2.2 bel (Nat.le_refl _))) (fun hHeld => ?_)
  clear hK K
  refine wpAnyH_ready (rs := [13]) (by kernel_rfl) (by simp) (AllReadyH.cons rfl (fun K hK => ?_) (AllReadyH.nil))
  go_simp
  refine (bS HOK.out _ (OB.out.own.next hHeld.2.2.2.2.2.2.2.2) SB.out.low SB.out.mod).mono ?_; rintro e w16 ⟨rfl, bel⟩
  refine hK.out _ _ (SOF.out _ (bel_tr hHeld.2.2.2.2.2.2.2.2 bel (Nat.le_refl _))) (fun hHeld => ?_)
  clear hK K
  refine wpAnyH_take (i := 14) (v := ?v14a) rfl (by kernel_rfl) (by kernel_rfl) (by kernel_rfl) (fun _ _ _ h => h) (Or.inl ⟨by rfl, ?hy14a⟩) (by assumption) ?rest14a
  case hy14a => (intro zz hSw; (try dsimp only at hSw); go_simp; (try with_reducible rfl))
  change wpAnyH _ _ _ _ _ _ _ (Act.put _ (some 66) _) _
  simp only [Act.put, List.setIfInBounds_toArray, List.set_cons_zero, List.set_cons_succ]
  refine wpAnyH_take (i := 15) (v := ?v15a) rfl (by kernel_rfl) (by kernel_rfl) (by kernel_rfl) (fun _ _ _ h => h) (Or.inl ⟨by rfl, ?hy15a⟩) (by assumption) ?rest15a
  case hy15a => (intro zz hSw; (try dsimp only at hSw); go_simp; (try with_reducible rfl))
  change wpAnyH _ _ _ _ _ _ _ (Act.put _ (some 67) _) _
  simp only [Act.put, List.setIfInBounds_toArray, List.set_cons_zero, List.set_cons_succ]
  refine wpAnyH_take (i := 16) (v := ?v16a) rfl (by kernel_rfl) (by kernel_rfl) (by kernel_rfl) (fun _ _ _ h => h) (Or.inl ⟨by rfl, ?hy16a⟩) (by assumption) ?rest16a
  case hy16a => (intro zz hSw; (try dsimp only at hSw); go_simp; (try with_reducible rfl))
  change wpAnyH _ _ _ _ _ _ _ (Act.put _ (some 68) _) _
  simp only [Act.put, List.setIfInBounds_toArray, List.set_cons_zero, List.set_cons_succ]
  refine wpAnyH_take (i := 17) (v := ?v17a) rfl (by kernel_rfl) (by kernel_rfl) (by kernel_rfl) (fun _ _ _ h => h) (Or.inl ⟨by rfl, ?hy17a⟩) (by assumption) ?rest17a
  case hy17a => (intro zz hSw; (try dsimp only at hSw); go_simp; (try with_reducible rfl))
  change wpAnyH _ _ _ _ _ _ _ (Act.put _ (some 69) _) _
  simp only [Act.put, List.setIfInBounds_toArray, List.set_cons_zero, List.set_cons_succ]
  refine wpAnyH_take (i := 18) (v := ?v18a) rfl (by kernel_rfl) (by kernel_rfl) (by kernel_rfl) (fun _ _ _ h => h) (Or.inl ⟨by rfl, ?hy18a⟩) (by assumption) ?rest18a
  case hy18a => (intro zz hSw; (try dsimp only at hSw); go_simp; (try with_reducible rfl))
  change wpAnyH _ _ _ _ _ _ _ (Act.put _ (some 70) _) _
  simp only [Act.put, List.setIfInBounds_toArray, List.set_cons_zero, List.set_cons_succ]
  refine wpAnyH_ready (rs := [19]) (by kernel_rfl) (by simp) (AllReadyH.cons rfl (fun K hK => ?_) (AllReadyH.nil))
  go_simp
  refine (alS HAL.out _ (OQ.out.own.next hHeld.2.2.2.2.2.2.2.2) SQ.out.low SQ.out.mod).mono ?_; rintro e w17 ⟨Ga, Gn, Gc, rfl, o19, hn19, bel⟩
  clear hn19
  refine hK.out _ _ (SOF.out _ (bel_tr hHeld.2.2.2.2.2.2.2.2 bel (Nat.le_refl _))) (fun hHeld => ?_)
  clear hK K
  refine wpAnyH_ready (rs := [20]) (by kernel_rfl) (by simp) (AllReadyH.cons rfl (fun K hK => ?_) (AllReadyH.nil))
  go_simp
  refine (likeC_own _ (OA.out.next hHeld.2.2.2.2.2.2.2.2) o19 (by have := HL2.out; omega)).mono ?_; rintro e w18 ⟨rfl, bel⟩
  clear o19
  refine hK.out _ _ (SOF.out _ (bel_tr hHeld.2.2.2.2.2.2.2.2 bel (Nat.le_refl _))) (fun hHeld => ?_)
  clear hK K
  refine wpAnyH_take (i := 21) (v := ?v21a) rfl (by kernel_rfl) (by kernel_rfl) (by kernel_rfl) (fun _ _ _ h => h) (Or.inl ⟨by rfl, ?hy21a⟩) (by assumption) ?rest21a
  case hy21a => (intro zz hSw; (try dsimp only at hSw); go_simp; (try with_reducible rfl))
  change wpAnyH _ _ _ _ _ _ _ (Act.put _ (some 73) _) _
  simp only [Act.put, List.setIfInBounds_toArray, List.set_cons_zero, List.set_cons_succ]
  refine wpAnyH_take (i := 22) (v := ?v22a) rfl (by kernel_rfl) (by kernel_rfl) (by kernel_rfl) (fun _ _ _ h => h) (Or.inl ⟨by rfl, ?hy22a⟩) (by assumption) ?rest22a
  case hy22a => (intro zz hSw; (try dsimp only at hSw); go_simp; (try with_reducible rfl))
  change wpAnyH _ _ _ _ _ _ _ (Act.put _ (some 74) _) _
  simp only [Act.put, List.setIfInBounds_toArray, List.set_cons_zero, List.set_cons_succ]
  refine wpAnyH_done (by kernel_rfl) ?_ _
  have bx := hHeld.2.2.2.2.2.2.2.2; clear hHeld SOF
  clear hXq hZq hBq hQq
  have BXX := bx
  have B18 := Lib.hid (bel_tr B13.out bx (Nat.le_refl _))
  replace OB := Lib.hid (OB.out.next bx)
  replace OX := Lib.hid (OX.out.next bx)
  replace OL := Lib.hid (OL.out.next bx)
  replace OY := Lib.hid (OY.out.next bx)
  replace OQ := Lib.hid (OQ.out.next bx)
  replace OA := Lib.hid (OA.out.next bx)
  replace OZ := Lib.hid (OZ.out.next bx)
  replace KB := Lib.hid (KB.out.next bx)
  replace KX := Lib.hid (KX.out.next bx)
  replace KL := Lib.hid (KL.out.next bx)
  replace KY := Lib.hid (KY.out.next bx)
  replace KQ := Lib.hid (KQ.out.next bx)
  replace KZ := Lib.hid (KZ.out.next bx)
  replace KC := Lib.hid (KC.out.next bx)
  clear bx
  clear OZ
  clear KZ
  obtain ⟨kB0, kB1, kB2, kB3, -⟩ := id KB.out
  obtain ⟨kX0, kX1, kX2, kX3, -⟩ := id KX.out
  obtain ⟨kL0, kL1, kL2, kL3, -⟩ := id KL.out
  obtain ⟨kY0, kY1, kY2, kY3, -⟩ := id KY.out
  obtain ⟨kQ0, kQ1, kQ2, kQ3, -⟩ := id KQ.out
  obtain ⟨⟨kC0, kC1, kC2, kC3, kC4⟩, ⟨kC5, kC6, kC7, kC8, kC9⟩, -⟩ := id KC.out
  go_wp2_with fail
  clear kB0 kB1 kB2 kB3 kX0 kX1 kX2 kX3 kL0 kL1 kL2 kL3 kY0 kY1 kY2 kY3 kQ0 kQ1 kQ2 kQ3 kC0 kC1 kC2 kC3 kC4 kC5 kC6 kC7 kC8 kC9
  refine (ldS' HLD.out w18 OL.out.own SL.out).mono ?_; rintro e w19 ⟨Va, Vn, Vc, Vsa, Vm, Vsc, rfl, o, hn, hm, b19⟩
  have B19 := Lib.hid (bel_tr B18.out b19 (Nat.le_refl _))
  replace OB := Lib.hid (OB.out.next b19)
  replace OX := Lib.hid (OX.out.next b19)
  replace OL := Lib.hid (OL.out.next b19)
  replace OY := Lib.hid (OY.out.next b19)
  replace OQ := Lib.hid (OQ.out.next b19)
  replace OA := Lib.hid (OA.out.next b19)
  replace KB := Lib.hid (KB.out.next b19)
  replace KX := Lib.hid (KX.out.next b19)
  replace KL := Lib.hid (KL.out.next b19)
  replace KY := Lib.hid (KY.out.next b19)
  replace KQ := Lib.hid (KQ.out.next b19)
  replace KC := Lib.hid (KC.out.next b19)
  have OV := Lib.hid (OwB.top o); clear o b19
  have NV := Lib.hid (And.intro hn hm); clear hn hm
  obtain ⟨kB0, kB1, kB2, kB3, -⟩ := id KB.out
  obtain ⟨kX0, kX1, kX2, kX3, -⟩ := id KX.out
  obtain ⟨kL0, kL1, kL2, kL3, -⟩ := id KL.out
  obtain ⟨kY0, kY1, kY2, kY3, -⟩ := id KY.out
  obtain ⟨kQ0, kQ1, kQ2, kQ3, -⟩ := id KQ.out
  obtain ⟨⟨kC0, kC1, kC2, kC3, kC4⟩, ⟨kC5, kC6, kC7, kC8, kC9⟩, -⟩ := id KC.out
  have b20 := bel1 w19 (.cells #[.slice Va Vn Vc, .slice Vsa Vm Vsc] 38)
  have B20 := Lib.hid (bel_tr B19.out b20 (Nat.le_refl _))
  replace OB := Lib.hid (OB.out.next b20)
  replace OX := Lib.hid (OX.out.next b20)
  replace OL := Lib.hid (OL.out.next b20)
  replace OY := Lib.hid (OY.out.next b20)
  replace OQ := Lib.hid (OQ.out.next b20)
  replace OA := Lib.hid (OA.out.next b20)
  replace OV := Lib.hid (OV.out.next b20)
  replace KB := Lib.hid (KB.out.next b20)
  replace KX := Lib.hid (KX.out.next b20)
  replace KL := Lib.hid (KL.out.next b20)
  replace KY := Lib.hid (KY.out.next b20)
  replace KQ := Lib.hid (KQ.out.next b20)
  replace KC := Lib.hid (KC.out.next b20)
  clear b20
  have KV := Lib.hid (Bb.made (.slice Va Vn Vc) (.slice Vsa Vm Vsc) w19 38)
  obtain ⟨mB0, mB1, mB2, mB3, -⟩ := id KB.out
  obtain ⟨mX0, mX1, mX2, mX3, -⟩ := id KX.out
  obtain ⟨mL0, mL1, mL2, mL3, -⟩ := id KL.out
  obtain ⟨mY0, mY1, mY2, mY3, -⟩ := id KY.out
  obtain ⟨mQ0, mQ1, mQ2, mQ3, -⟩ := id KQ.out
  obtain ⟨⟨mC0, mC1, mC2, mC3, mC4⟩, ⟨mC5, mC6, mC7, mC8, mC9⟩, -⟩ := id KC.out
  go_wp2_with fail
  clear kB0 kB1 kB2 kB3 kX0 kX1 kX2 kX3 kL0 kL1 kL2 kL3 kY0 kY1 kY2 kY3 kQ0 kQ1 kQ2 kQ3 kC0 kC1 kC2 kC3 kC4 kC5 kC6 kC7 kC8 kC9 mB0 mB1 mB2 mB3 mX0 mX1 mX2 mX3 mL0 mL1 mL2 mL3 mY0 mY1 mY2 mY3 mQ0 mQ1 mQ2 mQ3 mC0 mC1 mC2 mC3 mC4 mC5 mC6 mC7 mC8 mC9
  generalize w19.alloc (.cells #[.slice Va Vn Vc, .slice Vsa Vm Vsc] 38) = w20 at B20 KV OB OX OL OY OQ OA OV KB KX KL KY KQ KC ⊢
  refine (likeB_own w20 OY.out.own OV.out.own HLY.out).mono ?_; rintro e w21 ⟨rfl, b21⟩
  have B21 := Lib.hid (bel_tr B20.out b21 (Nat.le_refl _))
  replace OB := Lib.hid (OB.out.next b21)
  replace OX := Lib.hid (OX.out.next b21)
  replace OL := Lib.hid (OL.out.next b21)
  replace OY := Lib.hid (OY.out.next b21)
  replace OQ := Lib.hid (OQ.out.next b21)
  replace OA := Lib.hid (OA.out.next b21)
  replace OV := Lib.hid (OV.out.next b21)
  replace KB := Lib.hid (KB.out.next b21)
  replace KX := Lib.hid (KX.out.next b21)
  replace KL := Lib.hid (KL.out.next b21)
  replace KY := Lib.hid (KY.out.next b21)
  replace KQ := Lib.hid (KQ.out.next b21)
  replace KV := Lib.hid (KV.out.next b21)
  replace KC := Lib.hid (KC.out.next b21)
  clear b21
  clear OV
  clear KV
  obtain ⟨kB0, kB1, kB2, kB3, -⟩ := id KB.out
  obtain ⟨kX0, kX1, kX2, kX3, -⟩ := id KX.out
  obtain ⟨kL0, kL1, kL2, kL3, -⟩ := id KL.out
  obtain ⟨kY0, kY1, kY2, kY3, -⟩ := id KY.out
  obtain ⟨kQ0, kQ1, kQ2, kQ3, -⟩ := id KQ.out
  obtain ⟨⟨kC0, kC1, kC2, kC3, kC4⟩, ⟨kC5, kC6, kC7, kC8, kC9⟩, -⟩ := id KC.out
  go_upto_region 15 with fail
  clear kB0 kB1 kB2 kB3 kX0 kX1 kX2 kX3 kL0 kL1 kL2 kL3 kY0 kY1 kY2 kY3 kQ0 kQ1 kQ2 kQ3 kC0 kC1 kC2 kC3 kC4 kC5 kC6 kC7 kC8 kC9
  go_cut [128] (fun s wx => s = .bool false ∧ Below w21.heap.size w21 wx)
  case first =>
    rcases ld_cases lh ls with hld | ⟨hld, e1, e2, e3, e4, e5⟩
    · have hlf : laid = false := HLD.out.2.2.symm.trans hld
      clear hld
      subst hlf
      refine wp_region_held_drew (S := fun z => Below w21.heap.size w21 z) (by kernel_rfl) ((Below.refl _ _).drew) (fun hHeld => ?_)
      refine wpAnyH_take (i := 0) (v := ?v0p) rfl (by kernel_rfl) (by kernel_rfl) (by kernel_rfl) (fun _ _ _ h => h) (Or.inl ⟨by rfl, ?hy0p⟩) (by assumption) ?rest0p
      case hy0p => (intro zz hSw; (try dsimp only at hSw); go_simp; (try with_reducible rfl))
      change wpAnyH _ _ _ _ _ _ _ (Act.put _ (some 89) _) _
      simp only [Act.put, List.setIfInBounds_toArray, List.set_cons_zero, List.set_cons_succ]
      refine wpAnyH_take (i := 1) (v := ?v1p) rfl (by kernel_rfl) (by kernel_rfl) (by kernel_rfl) (fun _ _ _ h => h) (Or.inl ⟨by rfl, ?hy1p⟩) (by assumption) ?rest1p
      case hy1p => (intro zz hSw; (try dsimp only at hSw); go_simp; (try with_reducible rfl))
      change wpAnyH _ _ _ _ _ _ _ (Act.put _ (some 90) _) _
      simp only [Act.put, List.setIfInBounds_toArray, List.set_cons_zero, List.set_cons_succ]
      refine wpAnyH_take (i := 2) (v := undef) rfl (by kernel_rfl) (by kernel_rfl) (by kernel_rfl) (fun _ _ _ h => h) (Or.inr ⟨by rfl, rfl⟩) (by assumption) ?_
      change wpAnyH _ _ _ _ _ _ _ (Act.put _ (some 91) _) _
      simp only [Act.put, List.setIfInBounds_toArray, List.set_cons_zero, List.set_cons_succ]
      refine wpAnyH_take (i := 3) (v := undef) rfl (by kernel_rfl) (by kernel_rfl) (by kernel_rfl) (fun _ _ _ h => h) (Or.inr ⟨by rfl, rfl⟩) (by assumption) ?_
      change wpAnyH _ _ _ _ _ _ _ (Act.put _ (some 92) _) _
      simp only [Act.put, List.setIfInBounds_toArray, List.set_cons_zero, List.set_cons_succ]
      refine wpAnyH_take (i := 4) (v := undef) rfl (by kernel_rfl) (by kernel_rfl) (by kernel_rfl) (fun _ _ _ h => h) (Or.inr ⟨by rfl, rfl⟩) (by assumption) ?_
      change wpAnyH _ _ _ _ _ _ _ (Act.put _ (some 93) _) _
      simp only [Act.put, List.setIfInBounds_toArray, List.set_cons_zero, List.set_cons_succ]
      refine wpAnyH_take (i := 5) (v := undef) rfl (by kernel_rfl) (by kernel_rfl) (by kernel_rfl) (fun _ _ _ h => h) (Or.inr ⟨by rfl, rfl⟩) (by assumption) ?_
      change wpAnyH _ _ _ _ _ _ _ (Act.put _ (some 94) _) _
      simp only [Act.put, List.setIfInBounds_toArray, List.set_cons_zero, List.set_cons_succ]
      refine wpAnyH_take (i := 6) (v := undef) rfl (by kernel_rfl) (by kernel_rfl) (by kernel_rfl) (fun _ _ _ h => h) (Or.inr ⟨by rfl, rfl⟩) (by assumption) ?_
      change wpAnyH _ _ _ _ _ _ _ (Act.put _ (some 95) _) _
      simp only [Act.put, List.setIfInBounds_toArray, List.set_cons_zero, List.set_cons_succ]
      refine wpAnyH_take (i := 7) (v := undef) rfl (by kernel_rfl) (by kernel_rfl) (by kernel_rfl) (fun _ _ _ h => h) (Or.inr ⟨by rfl, rfl⟩) (by assumption) ?_
      change wpAnyH _ _ _ _ _ _ _ (Act.put _ (some 96) _) _
      simp only [Act.put, List.setIfInBounds_toArray, List.set_cons_zero, List.set_cons_succ]
      refine wpAnyH_take (i := 8) (v := undef) rfl (by kernel_rfl) (by kernel_rfl) (by kernel_rfl) (fun _ _ _ h => h) (Or.inr ⟨by rfl, rfl⟩) (by assumption) ?_
      change wpAnyH _ _ _ _ _ _ _ (Act.put _ (some 97) _) _
      simp only [Act.put, List.setIfInBounds_toArray, List.set_cons_zero, List.set_cons_succ]
      refine wpAnyH_take (i := 9) (v := undef) rfl (by kernel_rfl) (by kernel_rfl) (by kernel_rfl) (fun _ _ _ h => h) (Or.inr ⟨by rfl, rfl⟩) (by assumption) ?_
      change wpAnyH _ _ _ _ _ _ _ (Act.put _ (some 98) _) _
      simp only [Act.put, List.setIfInBounds_toArray, List.set_cons_zero, List.set_cons_succ]
      refine wpAnyH_take (i := 10) (v := undef) rfl (by kernel_rfl) (by kernel_rfl) (by kernel_rfl) (fun _ _ _ h => h) (Or.inr ⟨by rfl, rfl⟩) (by assumption) ?_
      change wpAnyH _ _ _ _ _ _ _ (Act.put _ (some 99) _) _
      simp only [Act.put, List.setIfInBounds_toArray, List.set_cons_zero, List.set_cons_succ]
      refine wpAnyH_take (i := 11) (v := undef) rfl (by kernel_rfl) (by kernel_rfl) (by kernel_rfl) (fun _ _ _ h => h) (Or.inr ⟨by rfl, rfl⟩) (by assumption) ?_
      change wpAnyH _ _ _ _ _ _ _ (Act.put _ (some 100) _) _
      simp only [Act.put, List.setIfInBounds_toArray, List.set_cons_zero, List.set_cons_succ]
      refine wpAnyH_take (i := 12) (v := undef) rfl (by kernel_rfl) (by kernel_rfl) (by kernel_rfl) (fun _ _ _ h => h) (Or.inr ⟨by rfl, rfl⟩) (by assumption) ?_
      change wpAnyH _ _ _ _ _ _ _ (Act.put _ (some 101) _) _
      simp only [Act.put, List.setIfInBounds_toArray, List.set_cons_zero, List.set_cons_succ]
      refine wpAnyH_take (i := 13) (v := undef) rfl (by kernel_rfl) (by kernel_rfl) (by kernel_rfl) (fun _ _ _ h => h) (Or.inr ⟨by rfl, rfl⟩) (by assumption) ?_
      change wpAnyH _ _ _ _ _ _ _ (Act.put _ (some 102) _) _
      simp only [Act.put, List.setIfInBounds_toArray, List.set_cons_zero, List.set_cons_succ]
      refine wpAnyH_take (i := 14) (v := undef) rfl (by kernel_rfl) (by kernel_rfl) (by kernel_rfl) (fun _ _ _ h => h) (Or.inr ⟨by rfl, rfl⟩) (by assumption) ?_
      change wpAnyH _ _ _ _ _ _ _ (Act.put _ (some 103) _) _
      simp only [Act.put, List.setIfInBounds_toArray, List.set_cons_zero, List.set_cons_succ]
      refine wpAnyH_take (i := 15) (v := undef) rfl (by kernel_rfl) (by kernel_rfl) (by kernel_rfl) (fun _ _ _ h => h) (Or.inr ⟨by rfl, rfl⟩) (by assumption) ?_
      change wpAnyH _ _ _ _ _ _ _ (Act.put _ (some 104) _) _
      simp only [Act.put, List.setIfInBounds_toArray, List.set_cons_zero, List.set_cons_succ]
      refine wpAnyH_take (i := 16) (v := undef) rfl (by kernel_rfl) (by kernel_rfl) (by kernel_rfl) (fun _ _ _ h => h) (Or.inr ⟨by rfl, rfl⟩) (by assumption) ?_
      change wpAnyH _ _ _ _ _ _ _ (Act.put _ (some 105) _) _
      simp only [Act.put, List.setIfInBounds_toArray, List.set_cons_zero, List.set_cons_succ]
      refine wpAnyH_take (i := 17) (v := undef) rfl (by kernel_rfl) (by kernel_rfl) (by kernel_rfl) (fun _ _ _ h => h) (Or.inr ⟨by rfl, rfl⟩) (by assumption) ?_
      change wpAnyH _ _ _ _ _ _ _ (Act.put _ (some 106) _) _
      simp only [Act.put, List.setIfInBounds_toArray, List.set_cons_zero, List.set_cons_succ]
      refine wpAnyH_take (i := 18) (v := undef) rfl (by kernel_rfl) (by kernel_rfl) (by kernel_rfl) (fun _ _ _ h => h) (Or.inr ⟨by rfl, rfl⟩) (by assumption) ?_
      change wpAnyH _ _ _ _ _ _ _ (Act.put _ (some 107) _) _
      simp only [Act.put, List.setIfInBounds_toArray, List.set_cons_zero, List.set_cons_succ]
      refine wpAnyH_take (i := 19) (v := undef) rfl (by kernel_rfl) (by kernel_rfl) (by kernel_rfl) (fun _ _ _ h => h) (Or.inr ⟨by rfl, rfl⟩) (by assumption) ?_
      change wpAnyH _ _ _ _ _ _ _ (Act.put _ (some 108) _) _
      simp only [Act.put, List.setIfInBounds_toArray, List.set_cons_zero, List.set_cons_succ]
      refine wpAnyH_take (i := 20) (v := undef) rfl (by kernel_rfl) (by kernel_rfl) (by kernel_rfl) (fun _ _ _ h => h) (Or.inr ⟨by rfl, rfl⟩) (by assumption) ?_
      change wpAnyH _ _ _ _ _ _ _ (Act.put _ (some 109) _) _
      simp only [Act.put, List.setIfInBounds_toArray, List.set_cons_zero, List.set_cons_succ]
      refine wpAnyH_take (i := 21) (v := undef) rfl (by kernel_rfl) (by kernel_rfl) (by kernel_rfl) (fun _ _ _ h => h) (Or.inr ⟨by rfl, rfl⟩) (by assumption) ?_
      change wpAnyH _ _ _ _ _ _ _ (Act.put _ (some 110) _) _
      simp only [Act.put, List.setIfInBounds_toArray, List.set_cons_zero, List.set_cons_succ]
      refine wpAnyH_take (i := 22) (v := undef) rfl (by kernel_rfl) (by kernel_rfl) (by kernel_rfl) (fun _ _ _ h => h) (Or.inr ⟨by rfl, rfl⟩) (by assumption) ?_
      change wpAnyH _ _ _ _ _ _ _ (Act.put _ (some 111) _) _
      simp only [Act.put, List.setIfInBounds_toArray, List.set_cons_zero, List.set_cons_succ]
      refine wpAnyH_take (i := 23) (v := undef) rfl (by kernel_rfl) (by kernel_rfl) (by kernel_rfl) (fun _ _ _ h => h) (Or.inr ⟨by rfl, rfl⟩) (by assumption) ?_
      change wpAnyH _ _ _ _ _ _ _ (Act.put _ (some 112) _) _
      simp only [Act.put, List.setIfInBounds_toArray, List.set_cons_zero, List.set_cons_succ]
      refine wpAnyH_take (i := 24) (v := undef) rfl (by kernel_rfl) (by kernel_rfl) (by kernel_rfl) (fun _ _ _ h => h) (Or.inr ⟨by rfl, rfl⟩) (by assumption) ?_
      change wpAnyH _ _ _ _ _ _ _ (Act.put _ (some 113) _) _
      simp only [Act.put, List.setIfInBounds_toArray, List.set_cons_zero, List.set_cons_succ]
      refine wpAnyH_take (i := 25) (v := undef) rfl (by kernel_rfl) (by kernel_rfl) (by kernel_rfl) (fun _ _ _ h => h) (Or.inr ⟨by rfl, rfl⟩) (by assumption) ?_
      change wpAnyH _ _ _ _ _ _ _ (Act.put _ (some 114) _) _
      simp only [Act.put, List.setIfInBounds_toArray, List.set_cons_zero, List.set_cons_succ]
      refine wpAnyH_take (i := 26) (v := undef) rfl (by kernel_rfl) (by kernel_rfl) (by kernel_rfl) (fun _ _ _ h => h) (Or.inr ⟨by rfl, rfl⟩) (by assumption) ?_
      change wpAnyH _ _ _ _ _ _ _ (Act.put _ (some 115) _) _
      simp only [Act.put, List.setIfInBounds_toArray, List.set_cons_zero, List.set_cons_succ]
      refine wpAnyH_take (i := 27) (v := undef) rfl (by kernel_rfl) (by kernel_rfl) (by kernel_rfl) (fun _ _ _ h => h) (Or.inr ⟨by rfl, rfl⟩) (by assumption) ?_
      change wpAnyH _ _ _ _ _ _ _ (Act.put _ (some 116) _) _
      simp only [Act.put, List.setIfInBounds_toArray, List.set_cons_zero, List.set_cons_succ]
      refine wpAnyH_take (i := 28) (v := undef) rfl (by kernel_rfl) (by kernel_rfl) (by kernel_rfl) (fun _ _ _ h => h) (Or.inr ⟨by rfl, rfl⟩) (by assumption) ?_
      change wpAnyH _ _ _ _ _ _ _ (Act.put _ (some 117) _) _
      simp only [Act.put, List.setIfInBounds_toArray, List.set_cons_zero, List.set_cons_succ]
      refine wpAnyH_take (i := 29) (v := undef) rfl (by kernel_rfl) (by kernel_rfl) (by kernel_rfl) (fun _ _ _ h => h) (Or.inr ⟨by rfl, rfl⟩) (by assumption) ?_
      change wpAnyH _ _ _ _ _ _ _ (Act.put _ (some 118) _) _
      simp only [Act.put, List.setIfInBounds_toArray, List.set_cons_zero, List.set_cons_succ]
      refine wpAnyH_take (i := 30) (v := undef) rfl (by kernel_rfl) (by kernel_rfl) (by kernel_rfl) (fun _ _ _ h => h) (Or.inr ⟨by rfl, rfl⟩) (by assumption) ?_
      change wpAnyH _ _ _ _ _ _ _ (Act.put _ (some 119) _) _
      simp only [Act.put, List.setIfInBounds_toArray, List.set_cons_zero, List.set_cons_succ]
      refine wpAnyH_take (i := 31) (v := undef) rfl (by kernel_rfl) (by kernel_rfl) (by kernel_rfl) (fun _ _ _ h => h) (Or.inr ⟨by rfl, rfl⟩) (by assumption) ?_
      change wpAnyH _ _ _ _ _ _ _ (Act.put _ (some 120) _) _
      simp only [Act.put, List.setIfInBounds_toArray, List.set_cons_zero, List.set_cons_succ]
      refine wpAnyH_take (i := 32) (v := undef) rfl (by kernel_rfl) (by kernel_rfl) (by kernel_rfl) (fun _ _ _ h => h) (Or.inr ⟨by rfl, rfl⟩) (by assumption) ?_
      change wpAnyH _ _ _ _ _ _ _ (Act.put _ (some 121) _) _
      simp only [Act.put, List.setIfInBounds_toArray, List.set_cons_zero, List.set_cons_succ]
      refine wpAnyH_take (i := 33) (v := undef) rfl (by kernel_rfl) (by kernel_rfl) (by kernel_rfl) (fun _ _ _ h => h) (Or.inr ⟨by rfl, rfl⟩) (by assumption) ?_
      change wpAnyH _ _ _ _ _ _ _ (Act.put _ (some 122) _) _
      simp only [Act.put, List.setIfInBounds_toArray, List.set_cons_zero, List.set_cons_succ]
      refine wpAnyH_take (i := 34) (v := undef) rfl (by kernel_rfl) (by kernel_rfl) (by kernel_rfl) (fun _ _ _ h => h) (Or.inr ⟨by rfl, rfl⟩) (by assumption) ?_
      change wpAnyH _ _ _ _ _ _ _ (Act.put _ (some 123) _) _
      simp only [Act.put, List.setIfInBounds_toArray, List.set_cons_zero, List.set_cons_succ]
      refine wpAnyH_take (i := 35) (v := undef) rfl (by kernel_rfl) (by kernel_rfl) (by kernel_rfl) (fun _ _ _ h => h) (Or.inr ⟨by rfl, rfl⟩) (by assumption) ?_
      change wpAnyH _ _ _ _ _ _ _ (Act.put _ (some 124) _) _
      simp only [Act.put, List.setIfInBounds_toArray, List.set_cons_zero, List.set_cons_succ]
      refine wpAnyH_take (i := 36) (v := undef) rfl (by kernel_rfl) (by kernel_rfl) (by kernel_rfl) (fun _ _ _ h => h) (Or.inr ⟨by rfl, rfl⟩) (by assumption) ?_
      change wpAnyH _ _ _ _ _ _ _ (Act.put _ (some 125) _) _
      simp only [Act.put, List.setIfInBounds_toArray, List.set_cons_zero, List.set_cons_succ]
      refine wpAnyH_take (i := 37) (v := undef) rfl (by kernel_rfl) (by kernel_rfl) (by kernel_rfl) (fun _ _ _ h => h) (Or.inr ⟨by rfl, rfl⟩) (by assumption) ?_
      change wpAnyH _ _ _ _ _ _ _ (Act.put _ (some 126) _) _
      simp only [Act.put, List.setIfInBounds_toArray, List.set_cons_zero, List.set_cons_succ]
      refine wpAnyH_take (i := 38) (v := undef) rfl (by kernel_rfl) (by kernel_rfl) (by kernel_rfl) (fun _ _ _ h => h) (Or.inr ⟨by rfl, rfl⟩) (by assumption) ?_
      change wpAnyH _ _ _ _ _ _ _ (Act.put _ (some 127) _) _
      simp only [Act.put, List.setIfInBounds_toArray, List.set_cons_zero, List.set_cons_succ]
      refine wpAnyH_take (i := 39) (v := ?v39p) rfl (by kernel_rfl) (by kernel_rfl) (by kernel_rfl) (fun _ _ _ h => h) (Or.inl ⟨by rfl, ?hy39p⟩) (by assumption) ?rest39p
      case hy39p => (intro zz hSw; (try dsimp only at hSw); go_simp; (try with_reducible rfl))
      change wpAnyH _ _ _ _ _ _ _ (Act.put _ (some 128) _) _
      simp only [Act.put, List.setIfInBounds_toArray, List.set_cons_zero, List.set_cons_succ]
      refine wpAnyH_done (by kernel_rfl) ?_ _
      go_wp2_with fail
      go_meet
      exact ⟨rfl, hHeld⟩
    · have hlt : laid = true := HLD.out.2.2.symm.trans hld
      subst hlt
      obtain rfl : yh = [] := HLD.out.1.symm.trans e1
      obtain rfl : ys = lh :: ls := HLD.out.2.1.symm.trans e2
      have HK := Lib.hid e4
      have HAY := Lib.hid e5
      have HMY := Lib.hid (mod_laid SL.out.mod)
      have hy0 : Yn = 0 := NY.out.1.symm
      have hy1 : Ym = Lm + 1 := by rw [← NY.out.2, ← NL.out.2]; rfl
      obtain ⟨ya', yc', ysa', ysc', yhs, ye1, ye2, yv1, yv2⟩ := OY.out.own.view
      obtain ⟨x0, g, o, -, hsa, hg, hcx, hvl⟩ := yv2.at (k := 0) (l := lh) rfl
      have hYs : Ysa = ysa' := by injection ye2
      rw [hsa] at hYs
      clear hld e1 e2 e3 e4 e5 ye1 ye2 yv1 yv2 hsa
      subst hYs
      subst hy0
      subst hy1
      have hln := NL.out.1
      rw [hln, Nat.add_zero] at hcx
      have HVL := Lib.hid hvl; clear hvl
      have HLV := Lib.hid OL.out.own.view
      have i15 : IntKind.i64.wrap ((Lm : Int) + 1) = (Lm : Int) + 1 := by
        have := SL.out.2.1
        have h2 := NL.out.2
        rw [IntKind.wrap_i64]; omega
      have m15 : ((((Lm + 1 : Nat) : Int)) != (Lm : Int) + 1) = false := by simp
      obtain ⟨hY0, hY1, -, -, hYq⟩ := id KY.out
      obtain ⟨hL0, hL1, -, -, hLq⟩ := id KL.out
      have SOF := Lib.hid (show ∀ z, Below w21.heap.size w21 z → (z.cell? ⟨w7.heap.size, 0, none⟩ = some (.slice Ya 0 Yc) ∧ z.cell? ⟨w7.heap.size, 1, none⟩ = some (.slice (some ⟨g, o, none⟩) (Lm + 1) Ysc) ∧ z.cell? ⟨w5.heap.size, 0, none⟩ = some (.slice La Ln Lc) ∧ z.cell? ⟨w5.heap.size, 1, none⟩ = some (.slice Lsa Lm Lsc) ∧ z.cell? ⟨g, o, none⟩ = some (.slice x0.a Ln x0.c) ∧ Below w21.heap.size w21 z) from fun z hz => ⟨coc hz hYq hY0, coc hz hYq hY1, coc hz hLq hL0, coc hz hLq hL1, coc hz hg hcx,  hz⟩)
      clear hY0 hY1 hL0 hL1 hcx
      refine wp_region_held_drew (S := fun z => z.cell? ⟨w7.heap.size, 0, none⟩ = some (.slice Ya 0 Yc) ∧ z.cell? ⟨w7.heap.size, 1, none⟩ = some (.slice (some ⟨g, o, none⟩) (Lm + 1) Ysc) ∧ z.cell? ⟨w5.heap.size, 0, none⟩ = some (.slice La Ln Lc) ∧ z.cell? ⟨w5.heap.size, 1, none⟩ = some (.slice Lsa Lm Lsc) ∧ z.cell? ⟨g, o, none⟩ = some (.slice x0.a Ln x0.c) ∧ Below w21.heap.size w21 z) (by kernel_rfl) (SOF.out _ (Below.refl _ _).drew) (fun hHeld => ?_)
      refine wpAnyH_take (i := 0) (v := ?v0q) rfl (by kernel_rfl) (by kernel_rfl) (by kernel_rfl) (fun _ _ _ h => h) (Or.inl ⟨by rfl, ?hy0q⟩) (by assumption) ?rest0q
      case hy0q => (intro zz hSw; (try dsimp only at hSw); go_simp; (try with_reducible rfl))
      change wpAnyH _ _ _ _ _ _ _ (Act.put _ (some 89) _) _
      simp only [Act.put, List.setIfInBounds_toArray, List.set_cons_zero, List.set_cons_succ]
      refine wpAnyH_take (i := 1) (v := ?v1q) rfl (by kernel_rfl) (by kernel_rfl) (by kernel_rfl) (fun _ _ _ h => h) (Or.inl ⟨by rfl, ?hy1q⟩) (by assumption) ?rest1q
      case hy1q => (intro zz hSw; (try dsimp only at hSw); go_simp; (try with_reducible rfl))
      change wpAnyH _ _ _ _ _ _ _ (Act.put _ (some 90) _) _
      simp only [Act.put, List.setIfInBounds_toArray, List.set_cons_zero, List.set_cons_succ]
      refine wpAnyH_take (i := 2) (v := ?v2q) rfl (by kernel_rfl) (by kernel_rfl) (by kernel_rfl) (fun _ _ _ h => h) (Or.inl ⟨by rfl, ?hy2q⟩) (by assumption) ?rest2q
      case hy2q => (intro zz hSw; (try dsimp only at hSw); go_simp; (try with_reducible rfl))
      change wpAnyH _ _ _ _ _ _ _ (Act.put _ (some 91) _) _
      simp only [Act.put, List.setIfInBounds_toArray, List.set_cons_zero, List.set_cons_succ]
      refine wpAnyH_ready (rs := [3]) (by kernel_rfl) (by simp) (AllReadyH.cons rfl (fun K hK => ?_) (AllReadyH.nil))
      go_simp
      refine (bI HK.out _ (OY.out.own.next hHeld.2.2.2.2.2) (okB_low HK.out)).mono ?_; rintro e w22 ⟨rfl, bel⟩
      refine hK.out _ _ (SOF.out _ (bel_tr hHeld.2.2.2.2.2 bel (Nat.le_refl _))) (fun hHeld => ?_)
      clear hK K
      refine wpAnyH_take (i := 4) (v := ?v4q) rfl (by kernel_rfl) (by kernel_rfl) (by kernel_rfl) (fun _ _ _ h => h) (Or.inl ⟨by rfl, ?hy4q⟩) (by assumption) ?rest4q
      case hy4q => (intro zz hSw; (try dsimp only at hSw); go_simp; (try with_reducible rfl))
      change wpAnyH _ _ _ _ _ _ _ (Act.put _ (some 93) _) _
      simp only [Act.put, List.setIfInBounds_toArray, List.set_cons_zero, List.set_cons_succ]
      refine wpAnyH_take (i := 5) (v := ?v5q) rfl (by kernel_rfl) (by kernel_rfl) (by kernel_rfl) (fun _ _ _ h => h) (Or.inl ⟨by rfl, ?hy5q⟩) (by assumption) ?rest5q
      case hy5q => (intro zz hSw; (try dsimp only at hSw); go_simp; (try with_reducible rfl))
      change wpAnyH _ _ _ _ _ _ _ (Act.put _ (some 94) _) _
      simp only [Act.put, List.setIfInBounds_toArray, List.set_cons_zero, List.set_cons_succ]
      refine wpAnyH_take (i := 6) (v := ?v6q) rfl (by kernel_rfl) (by kernel_rfl) (by kernel_rfl) (fun _ _ _ h => h) (Or.inl ⟨by rfl, ?hy6q⟩) (by assumption) ?rest6q
      case hy6q => (intro zz hSw; (try dsimp only at hSw); go_simp; (try with_reducible rfl))
      change wpAnyH _ _ _ _ _ _ _ (Act.put _ (some 95) _) _
      simp only [Act.put, List.setIfInBounds_toArray, List.set_cons_zero, List.set_cons_succ]
      refine wpAnyH_take (i := 7) (v := ?v7q) rfl (by kernel_rfl) (by kernel_rfl) (by kernel_rfl) (fun _ _ _ h => h) (Or.inl ⟨by rfl, ?hy7q⟩) (by assumption) ?rest7q
      case hy7q => (intro zz hSw; (try dsimp only at hSw); go_simp; (try with_reducible rfl))
      change wpAnyH _ _ _ _ _ _ _ (Act.put _ (some 96) _) _
      simp only [Act.put, List.setIfInBounds_toArray, List.set_cons_zero, List.set_cons_succ]
      refine wpAnyH_take (i := 8) (v := ?v8q) rfl (by kernel_rfl) (by kernel_rfl) (by kernel_rfl) (fun _ _ _ h => h) (Or.inl ⟨by rfl, ?hy8q⟩) (by assumption) ?rest8q
      case hy8q => (intro zz hSw; (try dsimp only at hSw); go_simp; (try with_reducible rfl))
      change wpAnyH _ _ _ _ _ _ _ (Act.put _ (some 97) _) _
      simp only [Act.put, List.setIfInBounds_toArray, List.set_cons_zero, List.set_cons_succ]
      refine wpAnyH_take (i := 9) (v := ?v9q) rfl (by kernel_rfl) (by kernel_rfl) (by kernel_rfl) (fun _ _ _ h => h) (Or.inl ⟨by rfl, ?hy9q⟩) (by assumption) ?rest9q
      case hy9q => (intro zz hSw; (try dsimp only at hSw); go_simp; (try with_reducible rfl))
      change wpAnyH _ _ _ _ _ _ _ (Act.put _ (some 98) _) _
      simp only [Act.put, List.setIfInBounds_toArray, List.set_cons_zero, List.set_cons_succ]
      refine wpAnyH_take (i := 10) (v := ?v10q) rfl (by kernel_rfl) (by kernel_rfl) (by kernel_rfl) (fun _ _ _ h => h) (Or.inl ⟨by rfl, ?hy10q⟩) (by assumption) ?rest10q
      case hy10q => (intro zz hSw; (try dsimp only at hSw); go_simp; (try with_reducible rfl))
      change wpAnyH _ _ _ _ _ _ _ (Act.put _ (some 99) _) _
      simp only [Act.put, List.setIfInBounds_toArray, List.set_cons_zero, List.set_cons_succ]
      refine wpAnyH_take (i := 11) (v := ?v11q) rfl (by kernel_rfl) (by kernel_rfl) (by kernel_rfl) (fun _ _ _ h => h) (Or.inl ⟨by rfl, ?hy11q⟩) (by assumption) ?rest11q
      case hy11q => (intro zz hSw; (try dsimp only at hSw); go_simp; (try with_reducible rfl))
      change wpAnyH _ _ _ _ _ _ _ (Act.put _ (some 100) _) _
      simp only [Act.put, List.setIfInBounds_toArray, List.set_cons_zero, List.set_cons_succ]
      refine wpAnyH_take (i := 12) (v := ?v12q) rfl (by kernel_rfl) (by kernel_rfl) (by kernel_rfl) (fun _ _ _ h => h) (Or.inl ⟨by rfl, ?hy12q⟩) (by assumption) ?rest12q
      case hy12q => (intro zz hSw; (try dsimp only at hSw); go_simp; (try with_reducible rfl))
      change wpAnyH _ _ _ _ _ _ _ (Act.put _ (some 101) _) _
      simp only [Act.put, List.setIfInBounds_toArray, List.set_cons_zero, List.set_cons_succ]
      refine wpAnyH_take (i := 13) (v := ?v13q) rfl (by kernel_rfl) (by kernel_rfl) (by kernel_rfl) (fun _ _ _ h => h) (Or.inl ⟨by rfl, ?hy13q⟩) (by assumption) ?rest13q
      case hy13q => (intro zz hSw; (try dsimp only at hSw); go_simp; (try with_reducible rfl))
      change wpAnyH _ _ _ _ _ _ _ (Act.put _ (some 102) _) _
      simp only [Act.put, List.setIfInBounds_toArray, List.set_cons_zero, List.set_cons_succ]
      refine wpAnyH_take (i := 14) (v := ?v14q) rfl (by kernel_rfl) (by kernel_rfl) (by kernel_rfl) (fun _ _ _ h => h) (Or.inl ⟨by rfl, ?hy14q⟩) (by assumption) ?rest14q
      case hy14q => (intro zz hSw; (try dsimp only at hSw); go_simp; (try with_reducible rfl))
      change wpAnyH _ _ _ _ _ _ _ (Act.put _ (some 103) _) _
      simp only [Act.put, List.setIfInBounds_toArray, List.set_cons_zero, List.set_cons_succ]
      refine wpAnyH_take (i := 15) (v := ?v15q) rfl (by kernel_rfl) (by kernel_rfl) (by kernel_rfl) (fun _ _ _ h => h) (Or.inl ⟨by rfl, ?hy15q⟩) (by assumption) ?rest15q
      case hy15q => (intro zz hSw; (try dsimp only at hSw); go_simp; (try with_reducible rfl))
      change wpAnyH _ _ _ _ _ _ _ (Act.put _ (some 104) _) _
      simp only [Act.put, List.setIfInBounds_toArray, List.set_cons_zero, List.set_cons_succ]
      refine wpAnyH_take (i := 16) (v := ?v16q) rfl (by kernel_rfl) (by kernel_rfl) (by kernel_rfl) (fun _ _ _ h => h) (Or.inl ⟨by rfl, ?hy16q⟩) (by assumption) ?rest16q
      case hy16q => (intro zz hSw; (try dsimp only at hSw); go_simp; (try with_reducible rfl))
      change wpAnyH _ _ _ _ _ _ _ (Act.put _ (some 105) _) _
      simp only [Act.put, List.setIfInBounds_toArray, List.set_cons_zero, List.set_cons_succ]
      refine wpAnyH_take (i := 17) (v := ?v17q) rfl (by kernel_rfl) (by kernel_rfl) (by kernel_rfl) (fun _ _ _ h => h) (Or.inl ⟨by rfl, ?hy17q⟩) (by assumption) ?rest17q
      case hy17q => (intro zz hSw; (try dsimp only at hSw); go_simp; (try with_reducible rfl))
      change wpAnyH _ _ _ _ _ _ _ (Act.put _ (some 106) _) _
      simp only [Act.put, List.setIfInBounds_toArray, List.set_cons_zero, List.set_cons_succ]
      refine wpAnyH_ready (rs := [18]) (by kernel_rfl) (by simp) (AllReadyH.cons rfl (fun K hK => ?_) (AllReadyH.nil))
      go_simp
      refine (vLike HVL.out HLV.out hln hHeld.2.2.2.2.2 rfl (by have := SL.out.1; omega)).mono ?_; rintro e w23 ⟨rfl, bel⟩
      refine hK.out _ _ (SOF.out _ (bel_tr hHeld.2.2.2.2.2 bel (Nat.le_refl _))) (fun hHeld => ?_)
      clear hK K
      refine wpAnyH_take (i := 19) (v := ?v19q) rfl (by kernel_rfl) (by kernel_rfl) (by kernel_rfl) (fun _ _ _ h => h) (Or.inl ⟨by rfl, ?hy19q⟩) (by assumption) ?rest19q
      case hy19q => (intro zz hSw; (try dsimp only at hSw); go_simp; (try with_reducible rfl))
      change wpAnyH _ _ _ _ _ _ _ (Act.put _ (some 108) _) _
      simp only [Act.put, List.setIfInBounds_toArray, List.set_cons_zero, List.set_cons_succ]
      refine wpAnyH_take (i := 20) (v := ?v20q) rfl (by kernel_rfl) (by kernel_rfl) (by kernel_rfl) (fun _ _ _ h => h) (Or.inl ⟨by rfl, ?hy20q⟩) (by assumption) ?rest20q
      case hy20q => (intro zz hSw; (try dsimp only at hSw); go_simp; (try with_reducible rfl))
      change wpAnyH _ _ _ _ _ _ _ (Act.put _ (some 109) _) _
      simp only [Act.put, List.setIfInBounds_toArray, List.set_cons_zero, List.set_cons_succ]
      refine wpAnyH_take (i := 21) (v := ?v21q) rfl (by kernel_rfl) (by kernel_rfl) (by kernel_rfl) (fun _ _ _ h => h) (Or.inl ⟨by rfl, ?hy21q⟩) (by assumption) ?rest21q
      case hy21q => (intro zz hSw; (try dsimp only at hSw); go_simp; (try with_reducible rfl))
      change wpAnyH _ _ _ _ _ _ _ (Act.put _ (some 110) _) _
      simp only [Act.put, List.setIfInBounds_toArray, List.set_cons_zero, List.set_cons_succ]
      refine wpAnyH_take (i := 22) (v := ?v22q) rfl (by kernel_rfl) (by kernel_rfl) (by kernel_rfl) (fun _ _ _ h => h) (Or.inl ⟨by rfl, ?hy22q⟩) (by assumption) ?rest22q
      case hy22q => (intro zz hSw; (try dsimp only at hSw); go_simp; (try with_reducible rfl))
      change wpAnyH _ _ _ _ _ _ _ (Act.put _ (some 111) _) _
      simp only [Act.put, List.setIfInBounds_toArray, List.set_cons_zero, List.set_cons_succ]
      refine wpAnyH_take (i := 23) (v := ?v23q) rfl (by kernel_rfl) (by kernel_rfl) (by kernel_rfl) (fun _ _ _ h => h) (Or.inl ⟨by rfl, ?hy23q⟩) (by assumption) ?rest23q
      case hy23q => (intro zz hSw; (try dsimp only at hSw); go_simp; (try with_reducible rfl))
      change wpAnyH _ _ _ _ _ _ _ (Act.put _ (some 112) _) _
      simp only [Act.put, List.setIfInBounds_toArray, List.set_cons_zero, List.set_cons_succ]
      refine wpAnyH_take (i := 24) (v := ?v24q) rfl (by kernel_rfl) (by kernel_rfl) (by kernel_rfl) (fun _ _ _ h => h) (Or.inl ⟨by rfl, ?hy24q⟩) (by assumption) ?rest24q
      case hy24q => (intro zz hSw; (try dsimp only at hSw); go_simp; (try with_reducible rfl))
      change wpAnyH _ _ _ _ _ _ _ (Act.put _ (some 113) _) _
      simp only [Act.put, List.setIfInBounds_toArray, List.set_cons_zero, List.set_cons_succ]
      refine wpAnyH_take (i := 25) (v := ?v25q) rfl (by kernel_rfl) (by kernel_rfl) (by kernel_rfl) (fun _ _ _ h => h) (Or.inl ⟨by rfl, ?hy25q⟩) (by assumption) ?rest25q
      case hy25q => (intro zz hSw; (try dsimp only at hSw); go_simp; (try with_reducible rfl))
      change wpAnyH _ _ _ _ _ _ _ (Act.put _ (some 114) _) _
      simp only [Act.put, List.setIfInBounds_toArray, List.set_cons_zero, List.set_cons_succ]
      refine wpAnyH_take (i := 26) (v := ?v26q) rfl (by kernel_rfl) (by kernel_rfl) (by kernel_rfl) (fun _ _ _ h => h) (Or.inl ⟨by rfl, ?hy26q⟩) (by assumption) ?rest26q
      case hy26q => (intro zz hSw; (try dsimp only at hSw); go_simp; (try with_reducible rfl))
      change wpAnyH _ _ _ _ _ _ _ (Act.put _ (some 115) _) _
      simp only [Act.put, List.setIfInBounds_toArray, List.set_cons_zero, List.set_cons_succ]
      refine wpAnyH_take (i := 27) (v := ?v27q) rfl (by kernel_rfl) (by kernel_rfl) (by kernel_rfl) (fun _ _ _ h => h) (Or.inl ⟨by rfl, ?hy27q⟩) (by assumption) ?rest27q
      case hy27q => (intro zz hSw; (try dsimp only at hSw); go_simp; (try with_reducible rfl))
      change wpAnyH _ _ _ _ _ _ _ (Act.put _ (some 116) _) _
      simp only [Act.put, List.setIfInBounds_toArray, List.set_cons_zero, List.set_cons_succ]
      refine wpAnyH_take (i := 28) (v := ?v28q) rfl (by kernel_rfl) (by kernel_rfl) (by kernel_rfl) (fun _ _ _ h => h) (Or.inl ⟨by rfl, ?hy28q⟩) (by assumption) ?rest28q
      case hy28q => (intro zz hSw; (try dsimp only at hSw); go_simp; (try with_reducible rfl))
      change wpAnyH _ _ _ _ _ _ _ (Act.put _ (some 117) _) _
      simp only [Act.put, List.setIfInBounds_toArray, List.set_cons_zero, List.set_cons_succ]
      refine wpAnyH_take (i := 29) (v := ?v29q) rfl (by kernel_rfl) (by kernel_rfl) (by kernel_rfl) (fun _ _ _ h => h) (Or.inl ⟨by rfl, ?hy29q⟩) (by assumption) ?rest29q
      case hy29q => (intro zz hSw; (try dsimp only at hSw); go_simp; (try with_reducible rfl))
      change wpAnyH _ _ _ _ _ _ _ (Act.put _ (some 118) _) _
      simp only [Act.put, List.setIfInBounds_toArray, List.set_cons_zero, List.set_cons_succ]
      refine wpAnyH_take (i := 30) (v := ?v30q) rfl (by kernel_rfl) (by kernel_rfl) (by kernel_rfl) (fun _ _ _ h => h) (Or.inl ⟨by rfl, ?hy30q⟩) (by assumption) ?rest30q
      case hy30q => (intro zz hSw; (try dsimp only at hSw); go_simp; (try with_reducible rfl))
      change wpAnyH _ _ _ _ _ _ _ (Act.put _ (some 119) _) _
      simp only [Act.put, List.setIfInBounds_toArray, List.set_cons_zero, List.set_cons_succ]
      refine wpAnyH_take (i := 31) (v := ?v31q) rfl (by kernel_rfl) (by kernel_rfl) (by kernel_rfl) (fun _ _ _ h => h) (Or.inl ⟨by rfl, ?hy31q⟩) (by assumption) ?rest31q
      case hy31q => (intro zz hSw; (try dsimp only at hSw); go_simp; (try with_reducible rfl))
      change wpAnyH _ _ _ _ _ _ _ (Act.put _ (some 120) _) _
      simp only [Act.put, List.setIfInBounds_toArray, List.set_cons_zero, List.set_cons_succ]
      refine wpAnyH_take (i := 32) (v := ?v32q) rfl (by kernel_rfl) (by kernel_rfl) (by kernel_rfl) (fun _ _ _ h => h) (Or.inl ⟨by rfl, ?hy32q⟩) (by assumption) ?rest32q
      case hy32q => (intro zz hSw; (try dsimp only at hSw); go_simp; (try with_reducible rfl))
      change wpAnyH _ _ _ _ _ _ _ (Act.put _ (some 121) _) _
      simp only [Act.put, List.setIfInBounds_toArray, List.set_cons_zero, List.set_cons_succ]
      refine wpAnyH_take (i := 34) (v := ?v34q) rfl (by kernel_rfl) (by kernel_rfl) (by kernel_rfl) (fun _ _ _ h => h) (Or.inl ⟨by rfl, ?hy34q⟩) (by assumption) ?rest34q
      case hy34q => (intro zz hSw; (try dsimp only at hSw); go_simp; (try with_reducible rfl))
      change wpAnyH _ _ _ _ _ _ _ (Act.put _ (some 123) _) _
      simp only [Act.put, List.setIfInBounds_toArray, List.set_cons_zero, List.set_cons_succ]
      refine wpAnyH_ready (rs := [33]) (by kernel_rfl) (by simp) (AllReadyH.cons rfl (fun K hK => ?_) (AllReadyH.nil))
      go_simp
      refine (alS HAY.out _ (OY.out.own.next hHeld.2.2.2.2.2) (okB_low HK.out) HMY.out).mono ?_; rintro e w24 ⟨Ga, Gn, Gc, rfl, o33, hn33, bel⟩
      clear hn33
      refine hK.out _ _ (SOF.out _ (bel_tr hHeld.2.2.2.2.2 bel (Nat.le_refl _))) (fun hHeld => ?_)
      clear hK K
      refine wpAnyH_ready (rs := [35]) (by kernel_rfl) (by simp) (AllReadyH.cons rfl (fun K hK => ?_) (AllReadyH.nil))
      go_simp
      refine (alS rfl _ (OL.out.own.next hHeld.2.2.2.2.2) SL.out.low SL.out.mod).mono ?_; rintro e w25 ⟨Ha, Hn, Hc, rfl, o35, hn35, bel⟩
      replace o33 := o33.next bel; clear hn35
      refine hK.out _ _ (SOF.out _ (bel_tr hHeld.2.2.2.2.2 bel (Nat.le_refl _))) (fun hHeld => ?_)
      clear hK K
      refine wpAnyH_ready (rs := [36]) (by kernel_rfl) (by simp) (AllReadyH.cons rfl (fun K hK => ?_) (AllReadyH.nil))
      go_simp
      refine (likeC_own _ o33 o35 (by have := allP_len lh ls; omega)).mono ?_; rintro e w26 ⟨rfl, bel⟩
      clear o33 o35
      refine hK.out _ _ (SOF.out _ (bel_tr hHeld.2.2.2.2.2 bel (Nat.le_refl _))) (fun hHeld => ?_)
      clear hK K
      refine wpAnyH_take (i := 37) (v := ?v37q) rfl (by kernel_rfl) (by kernel_rfl) (by kernel_rfl) (fun _ _ _ h => h) (Or.inl ⟨by rfl, ?hy37q⟩) (by assumption) ?rest37q
      case hy37q => (intro zz hSw; (try dsimp only at hSw); go_simp; (try with_reducible rfl))
      change wpAnyH _ _ _ _ _ _ _ (Act.put _ (some 126) _) _
      simp only [Act.put, List.setIfInBounds_toArray, List.set_cons_zero, List.set_cons_succ]
      refine wpAnyH_take (i := 38) (v := ?v38q) rfl (by kernel_rfl) (by kernel_rfl) (by kernel_rfl) (fun _ _ _ h => h) (Or.inl ⟨by rfl, ?hy38q⟩) (by assumption) ?rest38q
      case hy38q => (intro zz hSw; (try dsimp only at hSw); go_simp; (try with_reducible rfl))
      change wpAnyH _ _ _ _ _ _ _ (Act.put _ (some 127) _) _
      simp only [Act.put, List.setIfInBounds_toArray, List.set_cons_zero, List.set_cons_succ]
      refine wpAnyH_take (i := 39) (v := ?v39q) rfl (by kernel_rfl) (by kernel_rfl) (by kernel_rfl) (fun _ _ _ h => h) (Or.inl ⟨by rfl, ?hy39q⟩) (by assumption) ?rest39q
      case hy39q => (intro zz hSw; (try dsimp only at hSw); go_simp; (try with_reducible rfl))
      change wpAnyH _ _ _ _ _ _ _ (Act.put _ (some 128) _) _
      simp only [Act.put, List.setIfInBounds_toArray, List.set_cons_zero, List.set_cons_succ]
      refine wpAnyH_done (by kernel_rfl) ?_ _
      have bx := hHeld.2.2.2.2.2; clear hHeld SOF
      clear hYq hLq
      have BXX := bx
      have B26 := Lib.hid (bel_tr B21.out bx (Nat.le_refl _))
      replace OB := Lib.hid (OB.out.next bx)
      replace OX := Lib.hid (OX.out.next bx)
      replace OL := Lib.hid (OL.out.next bx)
      replace OY := Lib.hid (OY.out.next bx)
      replace OQ := Lib.hid (OQ.out.next bx)
      replace OA := Lib.hid (OA.out.next bx)
      replace KB := Lib.hid (KB.out.next bx)
      replace KX := Lib.hid (KX.out.next bx)
      replace KL := Lib.hid (KL.out.next bx)
      replace KY := Lib.hid (KY.out.next bx)
      replace KQ := Lib.hid (KQ.out.next bx)
      replace KC := Lib.hid (KC.out.next bx)
      clear bx
      go_wp2_with fail
      go_meet
      exact ⟨rfl, BXX⟩
  case rest =>
    obtain ⟨rfl, hbc⟩ := hcut
    obtain ⟨w27, hw27⟩ : ∃ z, z = wc := ⟨_, rfl⟩
    subst hw27
    clear OL
    clear OY
    clear KL
    clear KY
    have B27 := Lib.hid (bel_tr B21.out hbc (Nat.le_refl _))
    replace OB := Lib.hid (OB.out.next hbc)
    replace OX := Lib.hid (OX.out.next hbc)
    replace OQ := Lib.hid (OQ.out.next hbc)
    replace OA := Lib.hid (OA.out.next hbc)
    replace KB := Lib.hid (KB.out.next hbc)
    replace KX := Lib.hid (KX.out.next hbc)
    replace KQ := Lib.hid (KQ.out.next hbc)
    replace KC := Lib.hid (KC.out.next hbc)
    clear hbc
    clear n1 n2 n3
    obtain ⟨kB0, kB1, kB2, kB3, -⟩ := id KB.out
    obtain ⟨kX0, kX1, kX2, kX3, -⟩ := id KX.out
    obtain ⟨kQ0, kQ1, kQ2, kQ3, -⟩ := id KQ.out
    obtain ⟨⟨kC0, kC1, kC2, kC3, kC4⟩, ⟨kC5, kC6, kC7, kC8, kC9⟩, -⟩ := id KC.out
    go_wp2_with fail
    clear kB0 kB1 kB2 kB3 kX0 kX1 kX2 kX3 kQ0 kQ1 kQ2 kQ3 kC0 kC1 kC2 kC3 kC4 kC5 kC6 kC7 kC8 kC9
    go_loopw [16, 17, 18, 19] (fun s16 _ _ _ wr => ∃ i : Nat, s16 = .int .i64 (i : Int) ∧ i ≤ An ∧ Below w27.heap.size w27 wr) (fun s16 _ _ _ _ => An - intV s16)
    case atStart => exact ⟨0, rfl, Nat.zero_le _, Below.refl _ _⟩
    case round =>
      obtain ⟨i, rfl, hi, hbr⟩ := hrel
      obtain ⟨w28, hw28⟩ : ∃ z, z = wr := ⟨_, rfl⟩
      subst hw28
      have HBR := Lib.hid hbr
      have B28 := Lib.hid (bel_tr B27.out hbr (Nat.le_refl _))
      replace OB := Lib.hid (OB.out.next hbr)
      replace OX := Lib.hid (OX.out.next hbr)
      replace OQ := Lib.hid (OQ.out.next hbr)
      replace OA := Lib.hid (OA.out.next hbr)
      replace KB := Lib.hid (KB.out.next hbr)
      replace KX := Lib.hid (KX.out.next hbr)
      replace KQ := Lib.hid (KQ.out.next hbr)
      replace KC := Lib.hid (KC.out.next hbr)
      clear hbr
      by_cases hlt : i < An
      · by_cases h30 : i < 30
        · obtain ⟨d, hd⟩ : ∃ d, al[i]? = some d := ⟨al[i]'(by rw [NA.out]; exact hlt), List.getElem?_eq_getElem _⟩
          have HFD := Lib.hid (show fdP qh qs d = (d, true) from all_found (by rw [HAL.out]; exact hd))
          obtain ⟨va', vc', ve, vv, -⟩ := OA.out.view
          obtain ⟨g, o, e1, hg, h5⟩ := vv.2.2.2 i d hd
          have e2 : Aa = va' := by injection ve
          rw [e1] at e2
          clear ve vv e1 hd
          subst e2
          have HCE := Lib.hid h5; clear h5
          have i1 : (i : Int) < (An : Int) := by omega
          have i2 : (i : Int) < 30 := by omega
          have i3 : (0 : Int) ≤ (i : Int) := by omega
          have hce := cell_self d.r d.b d.t d.v d.g
          obtain ⟨c0, c1, c2, c3, c4⟩ := id HCE.out
          obtain ⟨kB0, kB1, kB2, kB3, -⟩ := id KB.out
          obtain ⟨kX0, kX1, kX2, kX3, -⟩ := id KX.out
          obtain ⟨kQ0, kQ1, kQ2, kQ3, -⟩ := id KQ.out
          obtain ⟨⟨kC0, kC1, kC2, kC3, kC4⟩, ⟨kC5, kC6, kC7, kC8, kC9⟩, -⟩ := id KC.out
          have b29 := bel1 w28 (.cells #[.string d.r, .string d.b, .int .i64 d.t] 31)
          have B29 := Lib.hid (bel_tr B28.out b29 (Nat.le_refl _))
          replace OB := Lib.hid (OB.out.next b29)
          replace OX := Lib.hid (OX.out.next b29)
          replace OQ := Lib.hid (OQ.out.next b29)
          replace OA := Lib.hid (OA.out.next b29)
          replace KB := Lib.hid (KB.out.next b29)
          replace KX := Lib.hid (KX.out.next b29)
          replace KQ := Lib.hid (KQ.out.next b29)
          replace KC := Lib.hid (KC.out.next b29)
          have HK3 := Lib.hid (Kx.made d.r d.b d.t w28 31)
          have HCE := Lib.hid (show At5 (w28.alloc (.cells #[.string d.r, .string d.b, .int .i64 d.t] 31)) g (o + i * 5) d from HCE.out.same (b29.block g hg))
          have HBR := Lib.hid (bel_tr HBR.out b29 (Nat.le_refl _))
          have hg29 : g < (w28.alloc (.cells #[.string d.r, .string d.b, .int .i64 d.t] 31)).heap.size := Nat.lt_of_lt_of_le hg b29.size
          obtain ⟨mB0, mB1, mB2, mB3, -⟩ := id KB.out
          obtain ⟨mX0, mX1, mX2, mX3, -⟩ := id KX.out
          obtain ⟨mQ0, mQ1, mQ2, mQ3, -⟩ := id KQ.out
          go_wp2_with fail
          clear c0 c1 c2 c3 c4 kB0 kB1 kB2 kB3 kX0 kX1 kX2 kX3 kQ0 kQ1 kQ2 kQ3 kC0 kC1 kC2 kC3 kC4 kC5 kC6 kC7 kC8 kC9 mB0 mB1 mB2 mB3 mX0 mX1 mX2 mX3 mQ0 mQ1 mQ2 mQ3
          generalize w28.alloc (.cells #[.string d.r, .string d.b, .int .i64 d.t] 31) = w29 at B29 HK3 HCE HBR hg29 b29 OB OX OQ OA KB KX KQ KC ⊢
          clear b29
          refine (fbI0 HFD.out w29 OQ.out.own SQ.out).mono ?_; rintro e w30 ⟨rfl, b30⟩
          have B30 := Lib.hid (bel_tr B29.out b30 (Nat.le_refl _))
          replace OB := Lib.hid (OB.out.next b30)
          replace OX := Lib.hid (OX.out.next b30)
          replace OQ := Lib.hid (OQ.out.next b30)
          replace OA := Lib.hid (OA.out.next b30)
          replace KB := Lib.hid (KB.out.next b30)
          replace KX := Lib.hid (KX.out.next b30)
          replace KQ := Lib.hid (KQ.out.next b30)
          replace KC := Lib.hid (KC.out.next b30)
          have BEL30 := b30; clear b30
          have HCE := Lib.hid (show At5 w30 g (o + i * 5) d from HCE.out.same ((BEL30).block g hg29))
          have hg30 : g < w30.heap.size := Nat.lt_of_lt_of_le hg29 BEL30.size
          have HBR := Lib.hid (bel_tr HBR.out BEL30 (Nat.le_refl _))
          clear BEL30
          have bF := bel1 w30 (.cells #[.string d.r, .string d.b, .int .i64 d.t, .int .i64 d.v, .bool d.g] 33)
          have HCE := Lib.hid (show At5 (w30.alloc (.cells #[.string d.r, .string d.b, .int .i64 d.t, .int .i64 d.v, .bool d.g] 33)) g (o + i * 5) d from HCE.out.same (bF.block g hg30))
          have hgF : g < (w30.alloc (.cells #[.string d.r, .string d.b, .int .i64 d.t, .int .i64 d.v, .bool d.g] 33)).heap.size := Nat.lt_of_lt_of_le hg30 bF.size
          have HBR := Lib.hid (bel_tr HBR.out bF (Nat.le_refl _))
          have KF := Lib.hid (Cb.made d w30 33)
          clear bF
          go_wp2_with fail
          generalize w30.alloc (.cells #[.string d.r, .string d.b, .int .i64 d.t, .int .i64 d.v, .bool d.g] 33) = wF at HCE hgF HBR KF ⊢
          generalize w30.heap.size = pF at KF ⊢
          obtain ⟨⟨f0, f1, f2, f3, f4⟩, -, hfq⟩ := id KF.out
          obtain ⟨c0, c1, c2, c3, c4⟩ := id HCE.out
          have SOF := Lib.hid (show ∀ z, Below wF.heap.size wF z → (z.cell? ⟨pF, 0, none⟩ = some (.string d.r) ∧ z.cell? ⟨pF, 1, none⟩ = some (.string d.b) ∧ z.cell? ⟨pF, 2, none⟩ = some (.int .i64 d.t) ∧ z.cell? ⟨pF, 3, none⟩ = some (.int .i64 d.v) ∧ z.cell? ⟨pF, 4, none⟩ = some (.bool d.g) ∧ z.cell? ⟨g, o + i * 5, none⟩ = some (.string d.r) ∧ z.cell? ⟨g, o + i * 5 + 1, none⟩ = some (.string d.b) ∧ z.cell? ⟨g, o + i * 5 + 2, none⟩ = some (.int .i64 d.t) ∧ z.cell? ⟨g, o + i * 5 + 3, none⟩ = some (.int .i64 d.v) ∧ z.cell? ⟨g, o + i * 5 + 4, none⟩ = some (.bool d.g) ∧ Below wF.heap.size wF z) from fun z hz => ⟨coc hz hfq f0, coc hz hfq f1, coc hz hfq f2, coc hz hfq f3, coc hz hfq f4, coc hz hgF c0, coc hz hgF c1, coc hz hgF c2, coc hz hgF c3, coc hz hgF c4,  hz⟩)
          clear f0 f1 f2 f3 f4 c0 c1 c2 c3 c4
          refine wp_region_held_drew (S := fun z => z.cell? ⟨pF, 0, none⟩ = some (.string d.r) ∧ z.cell? ⟨pF, 1, none⟩ = some (.string d.b) ∧ z.cell? ⟨pF, 2, none⟩ = some (.int .i64 d.t) ∧ z.cell? ⟨pF, 3, none⟩ = some (.int .i64 d.v) ∧ z.cell? ⟨pF, 4, none⟩ = some (.bool d.g) ∧ z.cell? ⟨g, o + i * 5, none⟩ = some (.string d.r) ∧ z.cell? ⟨g, o + i * 5 + 1, none⟩ = some (.string d.b) ∧ z.cell? ⟨g, o + i * 5 + 2, none⟩ = some (.int .i64 d.t) ∧ z.cell? ⟨g, o + i * 5 + 3, none⟩ = some (.int .i64 d.v) ∧ z.cell? ⟨g, o + i * 5 + 4, none⟩ = some (.bool d.g) ∧ Below wF.heap.size wF z) (by kernel_rfl) (SOF.out _ (Below.refl _ _).drew) (fun hHeld => ?_)
          refine wpAnyH_take (i := 0) (v := ?v0s) rfl (by kernel_rfl) (by kernel_rfl) (by kernel_rfl) (fun _ _ _ h => h) (Or.inl ⟨by rfl, ?hy0s⟩) (by assumption) ?rest0s
          case hy0s => (intro zz hSw; (try dsimp only at hSw); go_simp; (try with_reducible rfl))
          change wpAnyH _ _ _ _ _ _ _ (Act.put _ (some 155) _) _
          simp only [Act.put, List.setIfInBounds_toArray, List.set_cons_zero, List.set_cons_succ]
          refine wpAnyH_take (i := 1) (v := ?v1s) rfl (by kernel_rfl) (by kernel_rfl) (by kernel_rfl) (fun _ _ _ h => h) (Or.inl ⟨by rfl, ?hy1s⟩) (by assumption) ?rest1s
          case hy1s => (intro zz hSw; (try dsimp only at hSw); go_simp; (try with_reducible rfl))
          change wpAnyH _ _ _ _ _ _ _ (Act.put _ (some 156) _) _
          simp only [Act.put, List.setIfInBounds_toArray, List.set_cons_zero, List.set_cons_succ]
          refine wpAnyH_take (i := 2) (v := ?v2s) rfl (by kernel_rfl) (by kernel_rfl) (by kernel_rfl) (fun _ _ _ h => h) (Or.inl ⟨by rfl, ?hy2s⟩) (by assumption) ?rest2s
          case hy2s => (intro zz hSw; (try dsimp only at hSw); go_simp; (try with_reducible rfl))
          change wpAnyH _ _ _ _ _ _ _ (Act.put _ (some 157) _) _
          simp only [Act.put, List.setIfInBounds_toArray, List.set_cons_zero, List.set_cons_succ]
          refine wpAnyH_take (i := 3) (v := ?v3s) rfl (by kernel_rfl) (by kernel_rfl) (by kernel_rfl) (fun _ _ _ h => h) (Or.inl ⟨by rfl, ?hy3s⟩) (by assumption) ?rest3s
          case hy3s => (intro zz hSw; (try dsimp only at hSw); go_simp; (try with_reducible rfl))
          change wpAnyH _ _ _ _ _ _ _ (Act.put _ (some 158) _) _
          simp only [Act.put, List.setIfInBounds_toArray, List.set_cons_zero, List.set_cons_succ]
          refine wpAnyH_take (i := 4) (v := ?v4s) rfl (by kernel_rfl) (by kernel_rfl) (by kernel_rfl) (fun _ _ _ h => h) (Or.inl ⟨by rfl, ?hy4s⟩) (by assumption) ?rest4s
          case hy4s => (intro zz hSw; (try dsimp only at hSw); go_simp; (try with_reducible rfl))
          change wpAnyH _ _ _ _ _ _ _ (Act.put _ (some 159) _) _
          simp only [Act.put, List.setIfInBounds_toArray, List.set_cons_zero, List.set_cons_succ]
          refine wpAnyH_take (i := 5) (v := ?v5s) rfl (by kernel_rfl) (by kernel_rfl) (by kernel_rfl) (fun _ _ _ h => h) (Or.inl ⟨by rfl, ?hy5s⟩) (by assumption) ?rest5s
          case hy5s => (intro zz hSw; (try dsimp only at hSw); go_simp; (try with_reducible rfl))
          change wpAnyH _ _ _ _ _ _ _ (Act.put _ (some 160) _) _
          simp only [Act.put, List.setIfInBounds_toArray, List.set_cons_zero, List.set_cons_succ]
          refine wpAnyH_take (i := 6) (v := ?v6s) rfl (by kernel_rfl) (by kernel_rfl) (by kernel_rfl) (fun _ _ _ h => h) (Or.inl ⟨by rfl, ?hy6s⟩) (by assumption) ?rest6s
          case hy6s => (intro zz hSw; (try dsimp only at hSw); go_simp; (try with_reducible rfl))
          change wpAnyH _ _ _ _ _ _ _ (Act.put _ (some 161) _) _
          simp only [Act.put, List.setIfInBounds_toArray, List.set_cons_zero, List.set_cons_succ]
          refine wpAnyH_take (i := 7) (v := ?v7s) rfl (by kernel_rfl) (by kernel_rfl) (by kernel_rfl) (fun _ _ _ h => h) (Or.inl ⟨by rfl, ?hy7s⟩) (by assumption) ?rest7s
          case hy7s => (intro zz hSw; (try dsimp only at hSw); go_simp; (try with_reducible rfl))
          change wpAnyH _ _ _ _ _ _ _ (Act.put _ (some 162) _) _
          simp only [Act.put, List.setIfInBounds_toArray, List.set_cons_zero, List.set_cons_succ]
          refine wpAnyH_take (i := 8) (v := ?v8s) rfl (by kernel_rfl) (by kernel_rfl) (by kernel_rfl) (fun _ _ _ h => h) (Or.inl ⟨by rfl, ?hy8s⟩) (by assumption) ?rest8s
          case hy8s => (intro zz hSw; (try dsimp only at hSw); go_simp; (try with_reducible rfl))
          change wpAnyH _ _ _ _ _ _ _ (Act.put _ (some 163) _) _
          simp only [Act.put, List.setIfInBounds_toArray, List.set_cons_zero, List.set_cons_succ]
          refine wpAnyH_take (i := 9) (v := ?v9s) rfl (by kernel_rfl) (by kernel_rfl) (by kernel_rfl) (fun _ _ _ h => h) (Or.inl ⟨by rfl, ?hy9s⟩) (by assumption) ?rest9s
          case hy9s => (intro zz hSw; (try dsimp only at hSw); go_simp; (try with_reducible rfl))
          change wpAnyH _ _ _ _ _ _ _ (Act.put _ (some 164) _) _
          simp only [Act.put, List.setIfInBounds_toArray, List.set_cons_zero, List.set_cons_succ]
          refine wpAnyH_done (by kernel_rfl) ?_ _
          have HBE := Lib.hid (bel_tr HBR.out hHeld.2.2.2.2.2.2.2.2.2.2 (Nat.le_refl _)); clear hHeld SOF
          go_wp2_with fail
          go_roundw
          case rel => exact ⟨i + 1, by go_num, by omega, HBE.out⟩
          case measure => simp [intV]; omega
        · have i1 : (i : Int) < (An : Int) := by omega
          have i2 : ¬ (i : Int) < 30 := by omega
          clear OQ
          clear OA
          clear KQ
          rcases pb_cases h ss c with ⟨p1, p2, p3, p4⟩ | ⟨p1, p2, p3, p4⟩ | ⟨p1, p2, p3, p4⟩
          · obtain rfl : is = false := HPB.out.2.2.symm.trans p4
            obtain rfl : ph = [] := HPB.out.1.symm.trans p2
            obtain rfl : ps = [] := HPB.out.2.1.symm.trans p3
            have HP1 := Lib.hid p1
            clear p1 p2 p3 p4
            obtain ⟨kB0, kB1, kB2, kB3, -⟩ := id KB.out
            obtain ⟨kX0, kX1, kX2, kX3, -⟩ := id KX.out
            obtain ⟨⟨kC0, kC1, kC2, kC3, kC4⟩, ⟨kC5, kC6, kC7, kC8, kC9⟩, -⟩ := id KC.out
            go_wp2_with fail
            clear kB0 kB1 kB2 kB3 kX0 kX1 kX2 kX3 kC0 kC1 kC2 kC3 kC4 kC5 kC6 kC7 kC8 kC9
            refine (bS HP1.out w28 OB.out.own SB.out.low SB.out.mod).mono ?_; rintro e w29 ⟨rfl, b29⟩
            have B29 := Lib.hid (bel_tr B28.out b29 (Nat.le_refl _))
            replace OB := Lib.hid (OB.out.next b29)
            replace OX := Lib.hid (OX.out.next b29)
            replace KB := Lib.hid (KB.out.next b29)
            replace KX := Lib.hid (KX.out.next b29)
            replace KC := Lib.hid (KC.out.next b29)
            clear b29
            obtain ⟨kB0, kB1, kB2, kB3, -⟩ := id KB.out
            obtain ⟨kX0, kX1, kX2, kX3, -⟩ := id KX.out
            obtain ⟨⟨kC0, kC1, kC2, kC3, kC4⟩, ⟨kC5, kC6, kC7, kC8, kC9⟩, -⟩ := id KC.out
            go_wp2_with fail
            clear kB0 kB1 kB2 kB3 kX0 kX1 kX2 kX3 kC0 kC1 kC2 kC3 kC4 kC5 kC6 kC7 kC8 kC9
            refine (likeB_own w29 OX.out.own (OwB.nothing 0 _) low_nil).mono ?_; rintro e w30 ⟨rfl, b30⟩
            have B30 := Lib.hid (bel_tr B29.out b30 (Nat.le_refl _))
            replace OB := Lib.hid (OB.out.next b30)
            replace OX := Lib.hid (OX.out.next b30)
            replace KB := Lib.hid (KB.out.next b30)
            replace KX := Lib.hid (KX.out.next b30)
            replace KC := Lib.hid (KC.out.next b30)
            have BEL30 := b30; clear b30
            obtain ⟨kB0, kB1, kB2, kB3, -⟩ := id KB.out
            obtain ⟨kX0, kX1, kX2, kX3, -⟩ := id KX.out
            obtain ⟨⟨kC0, kC1, kC2, kC3, kC4⟩, ⟨kC5, kC6, kC7, kC8, kC9⟩, -⟩ := id KC.out
            go_wp2_with fail
            clear kB0 kB1 kB2 kB3 kX0 kX1 kX2 kX3 kC0 kC1 kC2 kC3 kC4 kC5 kC6 kC7 kC8 kC9
            go_ret
            exact ⟨rfl, B30.out⟩
          · obtain rfl : is = false := HPB.out.2.2.symm.trans p4
            obtain rfl : ph = h := HPB.out.1.symm.trans p2
            obtain rfl : ps = ss := HPB.out.2.1.symm.trans p3
            have HP1 := Lib.hid p1
            clear p1 p2 p3 p4
            obtain ⟨kB0, kB1, kB2, kB3, -⟩ := id KB.out
            obtain ⟨kX0, kX1, kX2, kX3, -⟩ := id KX.out
            obtain ⟨⟨kC0, kC1, kC2, kC3, kC4⟩, ⟨kC5, kC6, kC7, kC8, kC9⟩, -⟩ := id KC.out
            go_wp2_with fail
            clear kB0 kB1 kB2 kB3 kX0 kX1 kX2 kX3 kC0 kC1 kC2 kC3 kC4 kC5 kC6 kC7 kC8 kC9
            refine (bS HP1.out w28 OB.out.own SB.out.low SB.out.mod).mono ?_; rintro e w29 ⟨rfl, b29⟩
            have B29 := Lib.hid (bel_tr B28.out b29 (Nat.le_refl _))
            replace OB := Lib.hid (OB.out.next b29)
            replace OX := Lib.hid (OX.out.next b29)
            replace KB := Lib.hid (KB.out.next b29)
            replace KX := Lib.hid (KX.out.next b29)
            replace KC := Lib.hid (KC.out.next b29)
            clear b29
            obtain ⟨kB0, kB1, kB2, kB3, -⟩ := id KB.out
            obtain ⟨kX0, kX1, kX2, kX3, -⟩ := id KX.out
            obtain ⟨⟨kC0, kC1, kC2, kC3, kC4⟩, ⟨kC5, kC6, kC7, kC8, kC9⟩, -⟩ := id KC.out
            go_wp2_with fail
            clear kB0 kB1 kB2 kB3 kX0 kX1 kX2 kX3 kC0 kC1 kC2 kC3 kC4 kC5 kC6 kC7 kC8 kC9
            refine (likeB_own w29 OX.out.own OB.out.own HLX.out).mono ?_; rintro e w30 ⟨rfl, b30⟩
            have B30 := Lib.hid (bel_tr B29.out b30 (Nat.le_refl _))
            replace OB := Lib.hid (OB.out.next b30)
            replace OX := Lib.hid (OX.out.next b30)
            replace KB := Lib.hid (KB.out.next b30)
            replace KX := Lib.hid (KX.out.next b30)
            replace KC := Lib.hid (KC.out.next b30)
            have BEL30 := b30; clear b30
            obtain ⟨kB0, kB1, kB2, kB3, -⟩ := id KB.out
            obtain ⟨kX0, kX1, kX2, kX3, -⟩ := id KX.out
            obtain ⟨⟨kC0, kC1, kC2, kC3, kC4⟩, ⟨kC5, kC6, kC7, kC8, kC9⟩, -⟩ := id KC.out
            go_wp2_with fail
            clear kB0 kB1 kB2 kB3 kX0 kX1 kX2 kX3 kC0 kC1 kC2 kC3 kC4 kC5 kC6 kC7 kC8 kC9
            go_ret
            exact ⟨rfl, B30.out⟩
          · obtain rfl : is = true := HPB.out.2.2.symm.trans p2
            rw [HPB.out.1, HPB.out.2.1] at p3 p4
            have HP3 := Lib.hid p3
            have HP4 := Lib.hid p4
            have hce := cell_self c.r c.b c.t c.v c.g
            clear p1 p2 p3 p4
            obtain ⟨kB0, kB1, kB2, kB3, -⟩ := id KB.out
            obtain ⟨kX0, kX1, kX2, kX3, -⟩ := id KX.out
            obtain ⟨⟨kC0, kC1, kC2, kC3, kC4⟩, ⟨kC5, kC6, kC7, kC8, kC9⟩, -⟩ := id KC.out
            go_wp2_with fail
            clear kB0 kB1 kB2 kB3 kX0 kX1 kX2 kX3 kC0 kC1 kC2 kC3 kC4 kC5 kC6 kC7 kC8 kC9
            refine (fbI' HP4.out w28 OX.out.own HLX.out).mono ?_; rintro e w29 ⟨rfl, b29⟩
            have B29 := Lib.hid (bel_tr B28.out b29 (Nat.le_refl _))
            replace OB := Lib.hid (OB.out.next b29)
            replace OX := Lib.hid (OX.out.next b29)
            replace KB := Lib.hid (KB.out.next b29)
            replace KX := Lib.hid (KX.out.next b29)
            replace KC := Lib.hid (KC.out.next b29)
            clear b29
            obtain ⟨kB0, kB1, kB2, kB3, -⟩ := id KB.out
            obtain ⟨kX0, kX1, kX2, kX3, -⟩ := id KX.out
            obtain ⟨⟨kC0, kC1, kC2, kC3, kC4⟩, ⟨kC5, kC6, kC7, kC8, kC9⟩, -⟩ := id KC.out
            have b30 := bel1 w29 (.cells #[.string c.r, .string c.b, .int .i64 c.t, .int .i64 c.v, .bool c.g] 33)
            have B30 := Lib.hid (bel_tr B29.out b30 (Nat.le_refl _))
            replace OB := Lib.hid (OB.out.next b30)
            replace OX := Lib.hid (OX.out.next b30)
            replace KB := Lib.hid (KB.out.next b30)
            replace KX := Lib.hid (KX.out.next b30)
            replace KC := Lib.hid (KC.out.next b30)
            have BEL30 := b30; clear b30
            have KF := Lib.hid (Cb.made c w29 33)
            obtain ⟨mB0, mB1, mB2, mB3, -⟩ := id KB.out
            obtain ⟨mX0, mX1, mX2, mX3, -⟩ := id KX.out
            obtain ⟨⟨mC0, mC1, mC2, mC3, mC4⟩, ⟨mC5, mC6, mC7, mC8, mC9⟩, -⟩ := id KC.out
            go_wp2_with fail
            clear kB0 kB1 kB2 kB3 kX0 kX1 kX2 kX3 kC0 kC1 kC2 kC3 kC4 kC5 kC6 kC7 kC8 kC9 mB0 mB1 mB2 mB3 mX0 mX1 mX2 mX3 mC0 mC1 mC2 mC3 mC4 mC5 mC6 mC7 mC8 mC9
            generalize w29.alloc (.cells #[.string c.r, .string c.b, .int .i64 c.t, .int .i64 c.v, .bool c.g] 33) = w30 at B30 KF OB OX KB KX KC ⊢
            refine (bI HP3.out w30 OX.out.own HLX.out).mono ?_; rintro e w31 ⟨rfl, b31⟩
            have B31 := Lib.hid (bel_tr B30.out b31 (Nat.le_refl _))
            replace OB := Lib.hid (OB.out.next b31)
            replace OX := Lib.hid (OX.out.next b31)
            replace KB := Lib.hid (KB.out.next b31)
            replace KX := Lib.hid (KX.out.next b31)
            replace KC := Lib.hid (KC.out.next b31)
            replace KF := Lib.hid (KF.out.next b31)
            clear b31
            obtain ⟨kB0, kB1, kB2, kB3, -⟩ := id KB.out
            obtain ⟨kX0, kX1, kX2, kX3, -⟩ := id KX.out
            obtain ⟨⟨kC0, kC1, kC2, kC3, kC4⟩, ⟨kC5, kC6, kC7, kC8, kC9⟩, -⟩ := id KC.out
            obtain ⟨⟨kF0, kF1, kF2, kF3, kF4⟩, ⟨kF5, kF6, kF7, kF8, kF9⟩, -⟩ := id KF.out
            go_wp2_with fail
            clear kB0 kB1 kB2 kB3 kX0 kX1 kX2 kX3 kC0 kC1 kC2 kC3 kC4 kC5 kC6 kC7 kC8 kC9 kF0 kF1 kF2 kF3 kF4 kF5 kF6 kF7 kF8 kF9
            go_ret
            exact ⟨rfl, B31.out⟩
      · have i1 : ¬ (i : Int) < (An : Int) := by omega
        clear OQ
        clear OA
        clear KQ
        rcases pb_cases h ss c with ⟨p1, p2, p3, p4⟩ | ⟨p1, p2, p3, p4⟩ | ⟨p1, p2, p3, p4⟩
        · obtain rfl : is = false := HPB.out.2.2.symm.trans p4
          obtain rfl : ph = [] := HPB.out.1.symm.trans p2
          obtain rfl : ps = [] := HPB.out.2.1.symm.trans p3
          have HP1 := Lib.hid p1
          clear p1 p2 p3 p4
          obtain ⟨kB0, kB1, kB2, kB3, -⟩ := id KB.out
          obtain ⟨kX0, kX1, kX2, kX3, -⟩ := id KX.out
          obtain ⟨⟨kC0, kC1, kC2, kC3, kC4⟩, ⟨kC5, kC6, kC7, kC8, kC9⟩, -⟩ := id KC.out
          go_wp2_with fail
          clear kB0 kB1 kB2 kB3 kX0 kX1 kX2 kX3 kC0 kC1 kC2 kC3 kC4 kC5 kC6 kC7 kC8 kC9
          refine (bS HP1.out w28 OB.out.own SB.out.low SB.out.mod).mono ?_; rintro e w29 ⟨rfl, b29⟩
          have B29 := Lib.hid (bel_tr B28.out b29 (Nat.le_refl _))
          replace OB := Lib.hid (OB.out.next b29)
          replace OX := Lib.hid (OX.out.next b29)
          replace KB := Lib.hid (KB.out.next b29)
          replace KX := Lib.hid (KX.out.next b29)
          replace KC := Lib.hid (KC.out.next b29)
          clear b29
          obtain ⟨kB0, kB1, kB2, kB3, -⟩ := id KB.out
          obtain ⟨kX0, kX1, kX2, kX3, -⟩ := id KX.out
          obtain ⟨⟨kC0, kC1, kC2, kC3, kC4⟩, ⟨kC5, kC6, kC7, kC8, kC9⟩, -⟩ := id KC.out
          go_wp2_with fail
          clear kB0 kB1 kB2 kB3 kX0 kX1 kX2 kX3 kC0 kC1 kC2 kC3 kC4 kC5 kC6 kC7 kC8 kC9
          refine (likeB_own w29 OX.out.own (OwB.nothing 0 _) low_nil).mono ?_; rintro e w30 ⟨rfl, b30⟩
          have B30 := Lib.hid (bel_tr B29.out b30 (Nat.le_refl _))
          replace OB := Lib.hid (OB.out.next b30)
          replace OX := Lib.hid (OX.out.next b30)
          replace KB := Lib.hid (KB.out.next b30)
          replace KX := Lib.hid (KX.out.next b30)
          replace KC := Lib.hid (KC.out.next b30)
          have BEL30 := b30; clear b30
          obtain ⟨kB0, kB1, kB2, kB3, -⟩ := id KB.out
          obtain ⟨kX0, kX1, kX2, kX3, -⟩ := id KX.out
          obtain ⟨⟨kC0, kC1, kC2, kC3, kC4⟩, ⟨kC5, kC6, kC7, kC8, kC9⟩, -⟩ := id KC.out
          go_wp2_with fail
          clear kB0 kB1 kB2 kB3 kX0 kX1 kX2 kX3 kC0 kC1 kC2 kC3 kC4 kC5 kC6 kC7 kC8 kC9
          go_ret
          exact ⟨rfl, B30.out⟩
        · obtain rfl : is = false := HPB.out.2.2.symm.trans p4
          obtain rfl : ph = h := HPB.out.1.symm.trans p2
          obtain rfl : ps = ss := HPB.out.2.1.symm.trans p3
          have HP1 := Lib.hid p1
          clear p1 p2 p3 p4
          obtain ⟨kB0, kB1, kB2, kB3, -⟩ := id KB.out
          obtain ⟨kX0, kX1, kX2, kX3, -⟩ := id KX.out
          obtain ⟨⟨kC0, kC1, kC2, kC3, kC4⟩, ⟨kC5, kC6, kC7, kC8, kC9⟩, -⟩ := id KC.out
          go_wp2_with fail
          clear kB0 kB1 kB2 kB3 kX0 kX1 kX2 kX3 kC0 kC1 kC2 kC3 kC4 kC5 kC6 kC7 kC8 kC9
          refine (bS HP1.out w28 OB.out.own SB.out.low SB.out.mod).mono ?_; rintro e w29 ⟨rfl, b29⟩
          have B29 := Lib.hid (bel_tr B28.out b29 (Nat.le_refl _))
          replace OB := Lib.hid (OB.out.next b29)
          replace OX := Lib.hid (OX.out.next b29)
          replace KB := Lib.hid (KB.out.next b29)
          replace KX := Lib.hid (KX.out.next b29)
          replace KC := Lib.hid (KC.out.next b29)
          clear b29
          obtain ⟨kB0, kB1, kB2, kB3, -⟩ := id KB.out
          obtain ⟨kX0, kX1, kX2, kX3, -⟩ := id KX.out
          obtain ⟨⟨kC0, kC1, kC2, kC3, kC4⟩, ⟨kC5, kC6, kC7, kC8, kC9⟩, -⟩ := id KC.out
          go_wp2_with fail
          clear kB0 kB1 kB2 kB3 kX0 kX1 kX2 kX3 kC0 kC1 kC2 kC3 kC4 kC5 kC6 kC7 kC8 kC9
          refine (likeB_own w29 OX.out.own OB.out.own HLX.out).mono ?_; rintro e w30 ⟨rfl, b30⟩
          have B30 := Lib.hid (bel_tr B29.out b30 (Nat.le_refl _))
          replace OB := Lib.hid (OB.out.next b30)
          replace OX := Lib.hid (OX.out.next b30)
          replace KB := Lib.hid (KB.out.next b30)
          replace KX := Lib.hid (KX.out.next b30)
          replace KC := Lib.hid (KC.out.next b30)
          have BEL30 := b30; clear b30
          obtain ⟨kB0, kB1, kB2, kB3, -⟩ := id KB.out
          obtain ⟨kX0, kX1, kX2, kX3, -⟩ := id KX.out
          obtain ⟨⟨kC0, kC1, kC2, kC3, kC4⟩, ⟨kC5, kC6, kC7, kC8, kC9⟩, -⟩ := id KC.out
          go_wp2_with fail
          clear kB0 kB1 kB2 kB3 kX0 kX1 kX2 kX3 kC0 kC1 kC2 kC3 kC4 kC5 kC6 kC7 kC8 kC9
          go_ret
          exact ⟨rfl, B30.out⟩
        · obtain rfl : is = true := HPB.out.2.2.symm.trans p2
          rw [HPB.out.1, HPB.out.2.1] at p3 p4
          have HP3 := Lib.hid p3
          have HP4 := Lib.hid p4
          have hce := cell_self c.r c.b c.t c.v c.g
          clear p1 p2 p3 p4
          obtain ⟨kB0, kB1, kB2, kB3, -⟩ := id KB.out
          obtain ⟨kX0, kX1, kX2, kX3, -⟩ := id KX.out
          obtain ⟨⟨kC0, kC1, kC2, kC3, kC4⟩, ⟨kC5, kC6, kC7, kC8, kC9⟩, -⟩ := id KC.out
          go_wp2_with fail
          clear kB0 kB1 kB2 kB3 kX0 kX1 kX2 kX3 kC0 kC1 kC2 kC3 kC4 kC5 kC6 kC7 kC8 kC9
          refine (fbI' HP4.out w28 OX.out.own HLX.out).mono ?_; rintro e w29 ⟨rfl, b29⟩
          have B29 := Lib.hid (bel_tr B28.out b29 (Nat.le_refl _))
          replace OB := Lib.hid (OB.out.next b29)
          replace OX := Lib.hid (OX.out.next b29)
          replace KB := Lib.hid (KB.out.next b29)
          replace KX := Lib.hid (KX.out.next b29)
          replace KC := Lib.hid (KC.out.next b29)
          clear b29
          obtain ⟨kB0, kB1, kB2, kB3, -⟩ := id KB.out
          obtain ⟨kX0, kX1, kX2, kX3, -⟩ := id KX.out
          obtain ⟨⟨kC0, kC1, kC2, kC3, kC4⟩, ⟨kC5, kC6, kC7, kC8, kC9⟩, -⟩ := id KC.out
          have b30 := bel1 w29 (.cells #[.string c.r, .string c.b, .int .i64 c.t, .int .i64 c.v, .bool c.g] 33)
          have B30 := Lib.hid (bel_tr B29.out b30 (Nat.le_refl _))
          replace OB := Lib.hid (OB.out.next b30)
          replace OX := Lib.hid (OX.out.next b30)
          replace KB := Lib.hid (KB.out.next b30)
          replace KX := Lib.hid (KX.out.next b30)
          replace KC := Lib.hid (KC.out.next b30)
          have BEL30 := b30; clear b30
          have KF := Lib.hid (Cb.made c w29 33)
          obtain ⟨mB0, mB1, mB2, mB3, -⟩ := id KB.out
          obtain ⟨mX0, mX1, mX2, mX3, -⟩ := id KX.out
          obtain ⟨⟨mC0, mC1, mC2, mC3, mC4⟩, ⟨mC5, mC6, mC7, mC8, mC9⟩, -⟩ := id KC.out
          go_wp2_with fail
          clear kB0 kB1 kB2 kB3 kX0 kX1 kX2 kX3 kC0 kC1 kC2 kC3 kC4 kC5 kC6 kC7 kC8 kC9 mB0 mB1 mB2 mB3 mX0 mX1 mX2 mX3 mC0 mC1 mC2 mC3 mC4 mC5 mC6 mC7 mC8 mC9
          generalize w29.alloc (.cells #[.string c.r, .string c.b, .int .i64 c.t, .int .i64 c.v, .bool c.g] 33) = w30 at B30 KF OB OX KB KX KC ⊢
          refine (bI HP3.out w30 OX.out.own HLX.out).mono ?_; rintro e w31 ⟨rfl, b31⟩
          have B31 := Lib.hid (bel_tr B30.out b31 (Nat.le_refl _))
          replace OB := Lib.hid (OB.out.next b31)
          replace OX := Lib.hid (OX.out.next b31)
          replace KB := Lib.hid (KB.out.next b31)
          replace KX := Lib.hid (KX.out.next b31)
          replace KC := Lib.hid (KC.out.next b31)
          replace KF := Lib.hid (KF.out.next b31)
          clear b31
          obtain ⟨kB0, kB1, kB2, kB3, -⟩ := id KB.out
          obtain ⟨kX0, kX1, kX2, kX3, -⟩ := id KX.out
          obtain ⟨⟨kC0, kC1, kC2, kC3, kC4⟩, ⟨kC5, kC6, kC7, kC8, kC9⟩, -⟩ := id KC.out
          obtain ⟨⟨kF0, kF1, kF2, kF3, kF4⟩, ⟨kF5, kF6, kF7, kF8, kF9⟩, -⟩ := id KF.out
          go_wp2_with fail
          clear kB0 kB1 kB2 kB3 kX0 kX1 kX2 kX3 kC0 kC1 kC2 kC3 kC4 kC5 kC6 kC7 kC8 kC9 kF0 kF1 kF2 kF3 kF4 kF5 kF6 kF7 kF8 kF9
          go_ret
          exact ⟨rfl, B31.out⟩
end Go.Proofs.Ytcloejmakjdgcaa.Cl
