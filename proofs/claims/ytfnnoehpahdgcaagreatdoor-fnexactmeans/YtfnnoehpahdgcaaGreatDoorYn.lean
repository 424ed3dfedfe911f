/-
  The value of an expression by the program: contract of impl.SumOf. (Made by gen_yn.py.)
-/
import Derived.Test.YtfnnoehpahdgcaaGreatDoorYm
namespace Go.Proofs.YtfnnoehpahdgcaaGreatDoor.Cl
open Go.RowKit Wd Rp Kp Ra Go.Shelf
set_option linter.unusedVariables false
theorem foV_stk {R : Type} (f : Tk → R) (g : Nat → R → R → R) (z : R) {l : List Tk} {k m : Nat} {r : R} (he : enA l (k : Int) = some m) (h : stk f g ((l.drop k).take m) = [r]) : foV f g z l (k : Int) = r := by
  unfold foV; rw [he]
  show (stk f g ((l.drop k).take m)).headD z = r
  rw [h]; rfl
set_option maxHeartbeats 8000000 in
set_option maxRecDepth 100000 in
theorem implSum_any (w : World) (a : Option Addr) (cap : Nat) (l : List Tk) (n : Nat) (i : Int) (hi : I64 i) (hn : l.length = n) (hv : V1 w a cap (txL l)) (hl : n ≤ 4194304) (hm : ∀ s ∈ l, s.length ≤ 4194304) (hL : Lib3 w)
    (ba : Option Addr) (bc bn : Nat) (bs : List Bi) (hbl : bs.length = bn) (hbv : VwI w ba bc bs) (hb4 : bn ≤ 4194304) (ga : Option Addr) (gc gn : Nat) (gs : List Int) (hgl : gs.length = gn) (hgv : V1 w ga gc (inL gs)) (hg4 : gn ≤ 4194304) :
    Calls Tryz.prog 123 #[.slice a n cap, .int .i64 i, .slice ba bn bc, .slice ga gn gc] w fun e w' => e = .returned (.tuple #[.int .i64 (vlV l i bs gs).1, .bool (vlV l i bs gs).2]) ∧ Below w.heap.size w w' := by
  have hb0 := bel2 w (.cells #[.slice ba bn bc] 25) (.cells #[.slice ga gn gc] 26)
  have HB0 := Lib.hid hb0
  have hx1 := new_of (w.alloc (.cells #[.slice ba bn bc] 25)) (.cells #[.slice ga gn gc] 26)
  have hx0 := ((bel1 (w.alloc (.cells #[.slice ba bn bc] 25)) (.cells #[.slice ga gn gc] 26)).block w.heap.size (by simp)).trans (new_of w (.cells #[.slice ba bn bc] 25))
  have hsz : ((w.alloc (.cells #[.slice ba bn bc] 25)).alloc (.cells #[.slice ga gn gc] 26)).heap.size = w.heap.size + 2 := by simp
  simp only [World.size_alloc] at hx1
  have HX0 := Lib.hid (Bq.of hx0)
  have HX1 := Lib.hid (Bq.of hx1)
  have hn5 := (HX0.out).1
  have hn6 := (HX1.out).1
  have HK := Lib.hid (implKind_any ((w.alloc (.cells #[.slice ba bn bc] 25)).alloc (.cells #[.slice ga gn gc] 26)) a cap l n i hi hn (hv.below hb0) hl hm (lib3_below hL hb0))
  have HBO := Lib.hid (fun w' (hb : Below w.heap.size w w') => implBins_any w' ba bc bs bn hbl (hbv.below hb) hb4)
  have HTH := Lib.hid (fun w' (hb : Below w.heap.size w w') => givenOk_any w' ga gc gs gn hgl (hgv.below hb) hg4)
  have HVV := Lib.hid hv
  have HLL := Lib.hid hL
  clear hb0 hx0 hx1 hn5 hn6 hv hL
  generalize hq : w.heap.size = q at *
  generalize hw2 : (w.alloc (.cells #[.slice ba bn bc] 25)).alloc (.cells #[.slice ga gn gc] 26) = w2 at *
  by_cases hk : kdV l i = 0
  · have HE := Lib.hid (vlV_0 (bs := bs) (gs := gs) hk)
    rw [hk] at HK
    generalize vlV l i bs gs = vv at *
    go_enter Tryz.func123, Tryz.ntmps123
    go_wp2_with fail
    refine HK.out.mono ?_; rintro e w3 ⟨rfl, b3⟩
    have B3 := Lib.hid (HB0.out.trans (b3.mono (by omega))); clear b3
    go_wp2_with fail
    go_ret2
    exact ⟨by rw [HE.out]; rfl, B3.out⟩
  have hk2 : (kdV l i == 0) = false := by rw [beq_eq_false_iff_ne]; exact hk
  have HK0 := Lib.hid hk; clear hk
  cases hb : okI bs
  · have HE := Lib.hid (vlV_1 (l := l) (i := i) (gs := gs) hb)
    rw [hb] at HBO
    generalize vlV l i bs gs = vv at *
    generalize kdV l i = kv at *
    go_enter Tryz.func123, Tryz.ntmps123
    go_wp2_with fail
    refine HK.out.mono ?_; rintro e w3 ⟨rfl, b3⟩
    have B3 := Lib.hid (HB0.out.trans (b3.mono (by omega)))
    have n5 := (HX0.out.next b3).1; clear b3
    have HBO2 := Lib.hid (HBO.out w3 B3.out)
    go_wp2_with fail
    refine HBO2.out.mono ?_; rintro e w4 ⟨rfl, b4⟩
    have B4 := Lib.hid (bel_tr B3.out b4 (by omega)); clear b4
    go_wp2_with fail
    go_ret2
    exact ⟨by rw [HE.out]; rfl, B4.out⟩
  rw [hb] at HBO
  cases ht : thB gs
  · have HE := Lib.hid (vlV_2 (l := l) (i := i) (bs := bs) ht)
    rw [ht] at HTH
    generalize vlV l i bs gs = vv at *
    generalize kdV l i = kv at *
    go_enter Tryz.func123, Tryz.ntmps123
    go_wp2_with fail
    refine HK.out.mono ?_; rintro e w3 ⟨rfl, b3⟩
    have B3 := Lib.hid (HB0.out.trans (b3.mono (by omega)))
    have n5 := (HX0.out.next b3).1
    have X1 := Lib.hid (HX1.out.next b3); clear b3
    have HBO2 := Lib.hid (HBO.out w3 B3.out)
    go_wp2_with fail
    refine HBO2.out.mono ?_; rintro e w4 ⟨rfl, b4⟩
    have B4 := Lib.hid (bel_tr B3.out b4 (by omega))
    have n6 := (X1.out.next b4).1; clear b4 n5
    have HTH2 := Lib.hid (HTH.out w4 B4.out)
    go_wp2_with fail
    refine HTH2.out.mono ?_; rintro e w5 ⟨rfl, rfl⟩
    go_wp2_with fail
    go_ret2
    exact ⟨by rw [HE.out]; rfl, B4.out⟩
  · have hg3 := thB_len ht
    obtain rfl : gn = 3 := by omega
    obtain ⟨m, he⟩ := kdV_some HK0.out
    obtain ⟨k, rfl, hkm, hlen, hent, hm1⟩ := enA_piece he
    have HE := Lib.hid (vlV_3 HK0.out hb ht)
    have HFV := Lib.hid (fun r h => foV_stk (r := r) (vlF gs bs) vlG (0, false) he h)
    rw [ht] at HTH
    have HS := Lib.hid (fun w1 (hb : Below q w w1) => sumAt_some w1 a cap l n k m hi hn (HVV.out.below (by rw [hq]; exact hb)) hl hm (lib3_below HLL.out (by rw [hq]; exact hb)) he (by omega))
    have HF := Lib.hid (fun w1 b cb (hb : Below q w w1) (h0 : Bq q (.slice ba bn bc) w1) (h1 : Bq (q + 1) (.slice ga (3 : Nat) gc) w1) (hvb : V1 w1 b cb (txL ((l.drop k).take m))) => foldedOut_any (vlF gs bs) vlG w1 b cb m ((l.drop k).take m) hlen hvb (by omega) (fun s hs => hm s (mem_piece hs)) (lib3_below HLL.out (by rw [hq]; exact hb)) (by rw [hlen]; exact hent)
      134 137 #[.pointer (some ⟨q, 0, none⟩), .pointer (some ⟨q + 1, 0, none⟩)] (enters_of Tryz.func134 (by kernel_rfl) rfl) (enters_of Tryz.func137 (by kernel_rfl) rfl)
      (fun s W _ hsl hW => oneOut_any s hsl W q (q + 1) ba bc bn bs ga gc gs ⟨hbl, hbv.below (by rw [hq]; exact hb.trans (hW.mono (by have := hb.size; have := h1.2.2; omega))), hb4, hgv.below (by rw [hq]; exact hb.trans (hW.mono (by have := h1.2.2; omega))), hg3⟩ (h0.next hW).1 (h1.next hW).1)
      (fun o x y W _ _ => outcome_any o x y W))
    clear hent he hlen hb ht HK0
    generalize vlV l (k : Int) bs gs = vv at *
    generalize kdV l (k : Int) = kv at *
    go_enter Tryz.func123, Tryz.ntmps123
    go_wp2_with fail
    refine HK.out.mono ?_; rintro e w3 ⟨rfl, b3⟩
    have B3 := Lib.hid (HB0.out.trans (b3.mono (by omega)))
    have n5 := (HX0.out.next b3).1
    have X0 := Lib.hid (HX0.out.next b3)
    have X1 := Lib.hid (HX1.out.next b3); clear b3
    have HBO2 := Lib.hid (HBO.out w3 B3.out)
    go_wp2_with fail
    refine HBO2.out.mono ?_; rintro e w4 ⟨rfl, b4⟩
    have B4 := Lib.hid (bel_tr B3.out b4 (by omega))
    have X04 := Lib.hid (X0.out.next b4)
    have X14 := Lib.hid (X1.out.next b4); clear b4 n5
    have n6 := X14.out.1
    have HTH2 := Lib.hid (HTH.out w4 B4.out)
    go_wp2_with fail
    refine HTH2.out.mono ?_; rintro e w5 ⟨rfl, rfl⟩
    have HS2 := Lib.hid (HS.out w4 B4.out)
    go_wp2_with fail
    refine HS2.out.mono ?_; rintro e w5 ⟨b, cb, rfl, hvb, b5⟩
    have B5 := Lib.hid (bel_tr B4.out b5 (by omega))
    have HF2 := Lib.hid (HF.out w5 b cb B5.out (X04.out.next b5) (X14.out.next b5) hvb); clear b5 hvb n6
    go_wp2_with fail
    refine HF2.out.mono ?_; rintro e w6 ⟨r, hr, rfl, b6⟩
    have HR := Lib.hid (HE.out.trans (HFV.out r hr)); clear hr
    have B6 := Lib.hid (bel_tr B5.out b6 (by omega)); clear b6
    have hb7 := bel1 w6 (.cells #[.int .i64 r.1, .bool r.2] 144)
    have B7 := Lib.hid (bel_tr B6.out hb7 (by omega))
    obtain ⟨z0, z1, f0, f1⟩ := two_cells (new_of w6 (.cells #[.int .i64 r.1, .bool r.2] 144))
    clear hb7
    go_wp2_with fail
    go_quiet (fail)
    go_wp2_with fail
    go_ret2
    exact ⟨by rw [HR.out]; rfl, bel_drewN B7.out _⟩
end Go.Proofs.YtfnnoehpahdgcaaGreatDoor.Cl
