/-
  Draws of FnSwept: a store, a number and a time (spec.DrawSwept).
-/
import Derived.Test.YtcloejmakjdgcaaEf
namespace Go.Proofs.Ytcloejmakjdgcaa.Cl
open Go.RowKit Wd Rp Cu Kp Ra
set_option linter.unusedVariables false
/-- A store, a number and a time. -/
def DrewSW (w : World) (e : Ending) (w' : World) : Prop := ∃ (a : Option Addr) (n c : Nat) (sa : Option Addr) (m sc : Nat) (h : List Cel) (ss : List (List Cel)) (k f : Int), e = .returned (.tuple #[.agg #[.slice a n c, .slice sa m sc], .int .i64 k, .int .i64 f]) ∧ OwB w.heap.size w' (.slice a n c) (.slice sa m sc) h ss ∧ h.length = n ∧ ss.length = m ∧ Stor h ss ∧ 0 ≤ k ∧ k ≤ 10 ∧ -1 ≤ f ∧ f ≤ 22 ∧ Below w.heap.size w w'
set_option maxRecDepth 100000 in
set_option maxHeartbeats 8000000 in
theorem drawSwept_any (w : World) (a : Option Addr) (len cap : Nat) (hb : IsBytes w a len) (hl : len ≤ 4096) : Calls Try.prog 36 #[.slice a len cap] w (DrewSW w) := by
  have HB := Lib.hid hb; clear hb
  have HF := Lib.hid (Bb.made (.slice none 0 0) (.slice none 0 0) w 38)
  have HA := Lib.hid (bel1 w (.cells #[.slice none 0 0, .slice none 0 0] 38))
  go_enter Try.func36, Try.ntmps36
  go_wp2_with fail
  refine (new_any _ a len cap (isBytes_nx HB.out HA.out) hl).mono ?_; rintro e w1 ⟨b, rfl, hc1, hw1⟩
  have hbw : w.heap.size + 1 ≤ b := by have := hc1.le; simpa using this
  have HF1 := Lib.hid (HF.out.next hw1)
  have B1 := Lib.hid (bel_tr HA.out hw1 (Nat.le_refl _))
  have HS := Lib.hid (show St w1 _ b w1 from ⟨But.refl b w1, hc1, hc1.lt⟩); clear hw1 hc1
  have hlt1 : b < w1.heap.size := HS.out.lt
  clear HF HA
  go_wp2_with fail
  refine (drawAnyS_any _ b _ HS.out.cur).mono ?_; rintro e w2 ⟨hv, sv, h, ss, rfl, o2, s2, -, hc2, hw2⟩
  have hw12 : w1.heap.size ≤ w2.heap.size := hw2.size
  have HF2 := Lib.hid ((HF1.out.but hw2 (by omega)).next (bel1 w2 (.cells #[hv, sv] 38)))
  have HO2 := Lib.hid (o2.next (bel1 w2 (.cells #[hv, sv] 38)))
  have HS2 := Lib.hid ((HS.out.draws hw2 hc2).alloc (.cells #[hv, sv] 38))
  have HX2 := Lib.hid (Bb.made hv sv w2 38)
  have HM := Lib.hid s2
  obtain ⟨ha, hcp, sa, sc, hds, rfl, rfl, -, -⟩ := o2.view
  clear o2 s2 hc2 hw2 HS HF1
  generalize hnH : h.length = nH at *
  generalize hnS : ss.length = nS at *
  have HNN := Lib.hid (And.intro hnH hnS); clear hnH hnS
  go_wp2_with fail
  generalize hp2 : w2.heap.size = p2 at *
  generalize w2.alloc (Obj.cells #[Value.slice ha nH hcp, Value.slice sa nS sc] 38) = w3 at *
  clear hp2
  refine (below_any _ b _ _ HS2.out.cur (by decide) (by decide)).mono ?_; rintro e w4 ⟨y4, rfl, y40, y41, hc4, hw4⟩
  have HF4 := Lib.hid (HF2.out.but hw4 (by omega))
  have HO4 := Lib.hid (HO2.out.but hw4 (by omega))
  have HS4 := Lib.hid (HS2.out.draws hw4 hc4)
  have HX4 := Lib.hid (HX2.out.but hw4 (by omega))
  have i1 : IntKind.i64.wrap (1 + y4) = 1 + y4 := by rw [IntKind.wrap_i64]; omega
  clear hw4 hc4 HF2 HO2 HS2 HX2
  go_wp2_with fail
  refine (once_any _ b _ _ HS4.out.cur (by decide) (by decide)).mono ?_; rintro e w5 ⟨t5, rfl, hc5, hw5⟩
  have HF5 := Lib.hid (HF4.out.but hw5 (by omega))
  have HO5 := Lib.hid (HO4.out.but hw5 (by omega))
  have HS5 := Lib.hid (HS4.out.draws hw5 hc5)
  have HX5 := Lib.hid (HX4.out.but hw5 (by omega))
  clear hw5 hc5 HF4 HO4 HS4 HX4
  go_upto_if 16 with fail
  go_cut [7] (fun s7 wx => ∃ k : Int, s7 = .int .i64 k ∧ 0 ≤ k ∧ k ≤ 10 ∧ Bb w.heap.size (.slice none 0 0) (.slice none 0 0) wx ∧ OwB w1.heap.size wx (.slice ha nH hcp) (.slice sa nS sc) h ss ∧ St w1 _ b wx ∧ Bb p2 (.slice ha nH hcp) (.slice sa nS sc) wx)
  case first =>
    cases t5
    · go_wp2_with fail
      go_meet
      exact ⟨_, rfl, by omega, by omega, HF5.out, HO5.out, HS5.out, HX5.out⟩
    · have bL := bel1 w5 (.cells #[.int .i64 0, .int .i64 9, .int .i64 10] 2)
      have HF6 := Lib.hid (HF5.out.next bL)
      have HO6 := Lib.hid (HO5.out.next bL)
      have HS6 := Lib.hid (st_next HS5.out bL)
      have HX6 := Lib.hid (HX5.out.next bL)
      have hw5b : w1.heap.size ≤ w5.heap.size := HS5.out.size
      clear bL HF5 HO5 HS5 HX5
      go_wp2_with fail
      refine (below_any _ b _ _ HS6.out.cur (by decide) (by decide)).mono ?_; rintro e w7 ⟨y7, rfl, y70, y71, hc7, hw7⟩
      have L7 : w7.heap[w5.heap.size]? = some (.cells #[.int .i64 0, .int .i64 9, .int .i64 10] 2 (0, 0)) := (hw7.block _ (by simp) (by omega)).trans (World.alloc_heap_new w5 _)
      have l0 : w7.cell? ⟨w5.heap.size, 0, none⟩ = some (.int .i64 0) := by simp only [World.cell?, L7]; rfl
      have l1 : w7.cell? ⟨w5.heap.size, 1, none⟩ = some (.int .i64 9) := by simp only [World.cell?, L7]; rfl
      have l2 : w7.cell? ⟨w5.heap.size, 2, none⟩ = some (.int .i64 10) := by simp only [World.cell?, L7]; rfl
      have EE := Lib.hid (And.intro (HF6.out.but hw7 (by omega)) (And.intro (HO6.out.but hw7 (by omega)) (And.intro (HS6.out.draws hw7 hc7) (HX6.out.but hw7 (by omega)))))
      clear L7 hw7 hc7 HF6 HO6 HS6 HX6
      rcases (show y7 = 0 ∨ y7 = 1 ∨ y7 = 2 by omega) with rfl | rfl | rfl
      all_goals
        go_wp2_with fail
        go_meet
        exact ⟨_, rfl, by decide, by decide, EE.out.1, EE.out.2.1, EE.out.2.2.1, EE.out.2.2.2⟩
  case rest =>
    obtain ⟨k, rfl, k0, k1, f6, o6, s6, x6⟩ := hcut
    obtain ⟨w6, hw6⟩ : ∃ x, x = wc := ⟨_, rfl⟩
    subst hw6
    have HF6 := Lib.hid f6
    have HO6 := Lib.hid o6
    have HS6 := Lib.hid s6
    have HX6 := Lib.hid x6
    clear f6 o6 s6 x6 HF5 HO5 HS5 HX5
    obtain ⟨x0, x1, -, -, -⟩ := id HX6.out
    go_wp2_with fail
    go_region_with (
      go_at_call 68
      refine (below_any _ b 24 _ (by first | exact HS6.out.drew.cur | exact HS6.out.cur) (by decide) (by decide)).mono ?_
      rintro e w7 ⟨y7, rfl, y70, y71, hc7, hw7⟩
      have HX7 := (HX6.out.same' (w' := w6.drew) rfl).but hw7 (by omega)
      obtain ⟨u0, u1, -, -, -⟩ := HX7
      have HF7 := (HF6.out.same' (w' := w6.drew) rfl).but hw7 (by omega)
      have EE := Lib.hid (drew_end HF7 ((HO6.out.next ((Below.refl _ _).drew)).but hw7 (by omega)) (by omega) (B1.out.trans ((HS6.out.drew.but.trans hw7).below (B := w.heap.size) (by omega) B1.out.size)))
      have i7 : IntKind.i64.wrap (y7 - 1) = y7 - 1 := by rw [IntKind.wrap_i64]; omega
      obtain ⟨y0, y1, y2, y3, y4⟩ := HF7
      clear hc7 hw7)
    all_goals
      clear u0 u1 x0 x1
      go_wp2_with fail
      generalize World.setCell (World.setCell _ _ _) _ _ = Z at *
      clear y0 y1 y2 y3 y4
      obtain ⟨e1, e2, -⟩ := id EE.out.1
      refine bodyPost_ret (v := .tuple #[.agg #[.slice ha nH hcp, .slice sa nS sc], .int .i64 k, .int .i64 (y7 - 1)]) (by simp [results, Try.results36, go_sem, e1, e2]) rfl ⟨ha, nH, hcp, sa, nS, sc, h, ss, k, y7 - 1, rfl, EE.out.2.1, HNN.out.1, HNN.out.2, HM.out, k0, k1, by omega, by omega, EE.out.2.2⟩
end Go.Proofs.Ytcloejmakjdgcaa.Cl
