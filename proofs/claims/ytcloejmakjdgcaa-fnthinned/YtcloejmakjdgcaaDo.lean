/-
  The draw of spec.DrawThinned: a list of small cells, a number to keep, a time. (Made by gen_do.py.)
-/
import Derived.Test.YtcloejmakjdgcaaDf
namespace Go.Proofs.Ytcloejmakjdgcaa.Cl
open Go.RowKit Wd Rp Cu Kp
set_option linter.unusedVariables false
set_option maxRecDepth 100000 in
set_option maxHeartbeats 1000000 in
theorem from_any (B b : Nat) (lo hi : Int) (w : World) (hc : Cur B b w) (h0 : 0 ≤ lo) (h1 : lo ≤ hi) (h2 : hi ≤ 1000000) : Calls Try.prog 70 #[.pointer (some ⟨b, 0, none⟩), .int .i64 lo, .int .i64 hi] w (Draws B b w lo hi) := by
  go_enter Try.func70, Try.ntmps70
  go_wp2_with fail
  refine (below_any B b (hi - lo + 1) w hc (by omega) (by omega)).mono ?_; rintro e w1 ⟨y, rfl, y0, y1, hc1, hw1⟩
  have H1 := Lib.hid (And.intro hc1 hw1); clear hc1 hw1
  go_wp2_with fail
  go_ret
  exact ⟨lo + y, rfl, by omega, by omega, H1.out.1, H1.out.2⟩
def DrewTh (w : World) (e : Ending) (w' : World) : Prop := ∃ (x : Value) (l : List Cel) (k f : Int), e = .returned (.tuple #[x, .int .i64 k, .int .i64 f]) ∧ OwC w.heap.size w' x l ∧ l.length ≤ 260 ∧ Smalls l ∧ 0 ≤ k ∧ k ≤ 10 ∧ -1 ≤ f ∧ f ≤ 20 ∧ Below w.heap.size w w'
set_option maxRecDepth 100000 in
set_option maxHeartbeats 4000000 in
theorem drawThinned_any (w : World) (a : Option Addr) (len cap : Nat) (hb : IsBytes w a len) (hl : len ≤ 4096) : Calls Try.prog 15 #[.slice a len cap] w (DrewTh w) := by
  have HB := Lib.hid hb; clear hb
  go_enter Try.func15, Try.ntmps15
  go_wp2_with fail
  refine (new_any w a len cap HB.out hl).mono ?_; rintro e w1 ⟨b, rfl, hc1, hw1⟩
  have hbw : w.heap.size ≤ b := hc1.le
  have hlt : b < w1.heap.size := hc1.lt
  have B1 := Lib.hid hw1
  have HS1 := Lib.hid (show St w1 _ b w1 from ⟨But.refl b w1, hc1, hlt⟩); clear hw1 hc1
  go_wp2_with fail
  refine (drawCells_any _ b _ HS1.out.cur).mono ?_; rintro e w2 ⟨x, l, rfl, o2, hl2, hs2, hc2, hw2⟩
  have HX := Lib.hid o2
  have HM := Lib.hid hs2
  have HS := Lib.hid (HS1.out.draws hw2 hc2); clear o2 hs2 hc2 hw2 HS1
  obtain ⟨xa, xc, rfl, -, -⟩ := HX.out.view
  generalize hn : l.length = n at *
  have HN := Lib.hid hn; clear hn
  by_cases h20 : n < 20
  · have z0 : (n : Int) < 20 := by omega
    go_wp2_with fail
    refine (once_any _ b _ _ HS.out.cur (by decide) (by decide)).mono ?_; rintro e w3 ⟨t3, rfl, hc3, hw3⟩
    have HX3 := Lib.hid (HX.out.but hw3 hlt)
    have HS3 := Lib.hid (HS.out.draws hw3 hc3); clear hw3 hc3 HX HS
    cases t3
    · have HX := Lib.hid HX3.out
      have HS := Lib.hid HS3.out; clear HX3 HS3
      have hll : l.length ≤ 260 := by rw [HN.out]; omega
      go_wp2_with fail
      refine (from_any _ b 0 4 _ HS.out.cur (by decide) (by decide) (by decide)).mono ?_; rintro e w5 ⟨k5, rfl, k50, k51, hc5, hw5⟩
      have HX5 := Lib.hid (HX.out.but hw5 hlt)
      have HS5 := Lib.hid (HS.out.draws hw5 hc5); clear hw5 hc5 HX HS
      go_wp2_with fail
      refine (once_any _ b _ _ HS5.out.cur (by decide) (by decide)).mono ?_; rintro e w6 ⟨t6, rfl, hc6, hw6⟩
      have HX6 := Lib.hid (HX5.out.but hw6 hlt)
      have HS6 := Lib.hid (HS5.out.draws hw6 hc6); clear hw6 hc6 HX5 HS5
      cases t6
      · go_wp2_with fail
        refine (below_any _ b _ _ HS6.out.cur (by decide) (by decide)).mono ?_; rintro e w7 ⟨y7, rfl, y70, y71, hc7, hw7⟩
        have HX7 := Lib.hid (HX6.out.but hw7 hlt)
        have HS7 := Lib.hid (HS6.out.draws hw7 hc7); clear hw7 hc7
        go_wp2_with fail
        go_ret3
        exact ⟨_, l, k5, y7 - 1, rfl, HX7.out.mono B1.out.size, hll, HM.out, by omega, by omega, by omega, by omega, B1.out.trans (HS7.out.but.below (B := w.heap.size) hbw B1.out.size)⟩
      · go_wp2_with fail
        refine (from_any _ b 9 10 _ HS6.out.cur (by decide) (by decide) (by decide)).mono ?_; rintro e w7 ⟨k7, rfl, k70, k71, hc7, hw7⟩
        have HX7 := Lib.hid (HX6.out.but hw7 hlt)
        have HS7 := Lib.hid (HS6.out.draws hw7 hc7); clear hw7 hc7 HX6 HS6
        go_wp2_with fail
        refine (below_any _ b _ _ HS7.out.cur (by decide) (by decide)).mono ?_; rintro e w8 ⟨y8, rfl, y80, y81, hc8, hw8⟩
        have HX8 := Lib.hid (HX7.out.but hw8 hlt)
        have HS8 := Lib.hid (HS7.out.draws hw8 hc8); clear hw8 hc8
        go_wp2_with fail
        go_ret3
        exact ⟨_, l, k7, y8 - 1, rfl, HX8.out.mono B1.out.size, hll, HM.out, by omega, by omega, by omega, by omega, B1.out.trans (HS8.out.but.below (B := w.heap.size) hbw B1.out.size)⟩
    · go_wp2_with fail
      refine (below_any _ b _ _ HS3.out.cur (by decide) (by decide)).mono ?_; rintro e w4 ⟨y4, rfl, y40, y41, hc4, hw4⟩
      have HX4 := Lib.hid (HX3.out.but hw4 hlt)
      have HS4 := Lib.hid (HS3.out.draws hw4 hc4); clear hw4 hc4 HX3 HS3
      obtain ⟨m, rfl⟩ := Int.eq_ofNat_of_zero_le y40
      go_wp2_with fail
      go_loopw [6, 7] (fun s6 s7 wr => ∃ (k : Nat) (l' : List Cel), s7 = .int .i64 (k : Int) ∧ l'.length + k ≤ 30 ∧ OwC w1.heap.size wr s6 l' ∧ Smalls l' ∧ St w1 _ b wr) (fun _ s7 _ => intV s7)
      case atStart => exact ⟨m, l, rfl, by rw [HN.out]; omega, HX4.out, HM.out, HS4.out⟩
      case round =>
        clear HX4 HS4 HM HN
        obtain ⟨k, l, rfl, hk, ho, hs, hst⟩ := hrel
        have HX := Lib.hid ho; clear ho
        have HM := Lib.hid hs; clear hs
        have HS := Lib.hid hst; clear hst
        by_cases hp : 0 < k
        · have i1 : (0 : Int) < (k : Int) := by omega
          go_wp2_with fail
          refine (below_any _ b _ _ HS.out.cur (by decide) (by decide)).mono ?_; rintro e w5 ⟨t, rfl, t0, t1, hc5, hw5⟩
          have HX5 := Lib.hid (HX.out.but hw5 hlt)
          have HS5 := Lib.hid (HS.out.draws hw5 hc5); clear hw5 hc5 HX HS
          go_wp2_with fail
          refine (once_any _ b _ _ HS5.out.cur (by decide) (by decide)).mono ?_; rintro e w6 ⟨g, rfl, hc6, hw6⟩
          have HX6 := Lib.hid (HX5.out.but hw6 hlt)
          have HS6 := Lib.hid (HS5.out.draws hw6 hc6); clear hw6 hc6 HX5 HS5
          have hsz := HS6.out.size
          go_wp2_with fail
          refine (l4Put_own w6 (c := ⟨⟨#[97]⟩, ⟨#[98]⟩, t, 0, g⟩) HX6.out (by omega)).mono ?_; rintro e w7 ⟨v7, rfl, o7, b7⟩
          have HX7 := Lib.hid (o7.mono hsz)
          have HS7 := Lib.hid (st_next HS6.out b7); clear o7 b7
          have i2 : (k : Int) - 1 = ((k - 1 : Nat) : Int) := by omega
          go_wp2_with fail
          go_roundw
          case rel => exact ⟨k - 1, _, by go_num, by have := putL_le l ⟨⟨#[97]⟩, ⟨#[98]⟩, t, 0, g⟩; omega, HX7.out, HM.out.put ⟨(show (⟨#[97]⟩ : ByteArray).size ≤ 9 by decide), (show (⟨#[98]⟩ : ByteArray).size ≤ 9 by decide), by show -1 ≤ t; omega, by show t ≤ 1000001; omega⟩, HS7.out⟩
          case measure => simp [intV]; omega
        · have i1 : ¬ (0 : Int) < (k : Int) := by omega
          have hll : l.length ≤ 260 := by omega
          go_wp2_with fail
          refine (from_any _ b 0 4 _ HS.out.cur (by decide) (by decide) (by decide)).mono ?_; rintro e w5 ⟨k5, rfl, k50, k51, hc5, hw5⟩
          have HX5 := Lib.hid (HX.out.but hw5 hlt)
          have HS5 := Lib.hid (HS.out.draws hw5 hc5); clear hw5 hc5 HX HS
          go_wp2_with fail
          refine (once_any _ b _ _ HS5.out.cur (by decide) (by decide)).mono ?_; rintro e w6 ⟨t6, rfl, hc6, hw6⟩
          have HX6 := Lib.hid (HX5.out.but hw6 hlt)
          have HS6 := Lib.hid (HS5.out.draws hw6 hc6); clear hw6 hc6 HX5 HS5
          cases t6
          · go_wp2_with fail
            refine (below_any _ b _ _ HS6.out.cur (by decide) (by decide)).mono ?_; rintro e w7 ⟨y7, rfl, y70, y71, hc7, hw7⟩
            have HX7 := Lib.hid (HX6.out.but hw7 hlt)
            have HS7 := Lib.hid (HS6.out.draws hw7 hc7); clear hw7 hc7
            go_wp2_with fail
            go_ret3
            exact ⟨_, l, k5, y7 - 1, rfl, HX7.out.mono B1.out.size, hll, HM.out, by omega, by omega, by omega, by omega, B1.out.trans (HS7.out.but.below (B := w.heap.size) hbw B1.out.size)⟩
          · go_wp2_with fail
            refine (from_any _ b 9 10 _ HS6.out.cur (by decide) (by decide) (by decide)).mono ?_; rintro e w7 ⟨k7, rfl, k70, k71, hc7, hw7⟩
            have HX7 := Lib.hid (HX6.out.but hw7 hlt)
            have HS7 := Lib.hid (HS6.out.draws hw7 hc7); clear hw7 hc7 HX6 HS6
            go_wp2_with fail
            refine (below_any _ b _ _ HS7.out.cur (by decide) (by decide)).mono ?_; rintro e w8 ⟨y8, rfl, y80, y81, hc8, hw8⟩
            have HX8 := Lib.hid (HX7.out.but hw8 hlt)
            have HS8 := Lib.hid (HS7.out.draws hw8 hc8); clear hw8 hc8
            go_wp2_with fail
            go_ret3
            exact ⟨_, l, k7, y8 - 1, rfl, HX8.out.mono B1.out.size, hll, HM.out, by omega, by omega, by omega, by omega, B1.out.trans (HS8.out.but.below (B := w.heap.size) hbw B1.out.size)⟩
  · have z0 : ¬ (n : Int) < 20 := by omega
    have hll : l.length ≤ 260 := by rw [HN.out]; omega
    go_wp2_with fail
    refine (from_any _ b 0 4 _ HS.out.cur (by decide) (by decide) (by decide)).mono ?_; rintro e w5 ⟨k5, rfl, k50, k51, hc5, hw5⟩
    have HX5 := Lib.hid (HX.out.but hw5 hlt)
    have HS5 := Lib.hid (HS.out.draws hw5 hc5); clear hw5 hc5 HX HS
    go_wp2_with fail
    refine (once_any _ b _ _ HS5.out.cur (by decide) (by decide)).mono ?_; rintro e w6 ⟨t6, rfl, hc6, hw6⟩
    have HX6 := Lib.hid (HX5.out.but hw6 hlt)
    have HS6 := Lib.hid (HS5.out.draws hw6 hc6); clear hw6 hc6 HX5 HS5
    cases t6
    · go_wp2_with fail
      refine (below_any _ b _ _ HS6.out.cur (by decide) (by decide)).mono ?_; rintro e w7 ⟨y7, rfl, y70, y71, hc7, hw7⟩
      have HX7 := Lib.hid (HX6.out.but hw7 hlt)
      have HS7 := Lib.hid (HS6.out.draws hw7 hc7); clear hw7 hc7
      go_wp2_with fail
      go_ret3
      exact ⟨_, l, k5, y7 - 1, rfl, HX7.out.mono B1.out.size, hll, HM.out, by omega, by omega, by omega, by omega, B1.out.trans (HS7.out.but.below (B := w.heap.size) hbw B1.out.size)⟩
    · go_wp2_with fail
      refine (from_any _ b 9 10 _ HS6.out.cur (by decide) (by decide) (by decide)).mono ?_; rintro e w7 ⟨k7, rfl, k70, k71, hc7, hw7⟩
      have HX7 := Lib.hid (HX6.out.but hw7 hlt)
      have HS7 := Lib.hid (HS6.out.draws hw7 hc7); clear hw7 hc7 HX6 HS6
      go_wp2_with fail
      refine (below_any _ b _ _ HS7.out.cur (by decide) (by decide)).mono ?_; rintro e w8 ⟨y8, rfl, y80, y81, hc8, hw8⟩
      have HX8 := Lib.hid (HX7.out.but hw8 hlt)
      have HS8 := Lib.hid (HS7.out.draws hw8 hc8); clear hw8 hc8
      go_wp2_with fail
      go_ret3
      exact ⟨_, l, k7, y8 - 1, rfl, HX8.out.mono B1.out.size, hll, HM.out, by omega, by omega, by omega, by omega, B1.out.trans (HS8.out.but.below (B := w.heap.size) hbw B1.out.size)⟩
end Go.Proofs.Ytcloejmakjdgcaa.Cl
