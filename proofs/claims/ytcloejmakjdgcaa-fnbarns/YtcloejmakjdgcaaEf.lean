/-
  Draws of FnBarns: a store (spec.DrawBarnOk, DrawLaid, DrawAllCells), a store and a cell (DrawPutBarn).
-/
import Derived.Test.YtcloejmakjdgcaaEb
namespace Go.Proofs.Ytcloejmakjdgcaa.Cl
open Go.RowKit Wd Rp Cu Kp Ra
set_option linter.unusedVariables false
def DrewS (w : World) (e : Ending) (w' : World) : Prop := ∃ (hv sv : Value) (h : List Cel) (ss : List (List Cel)), e = .returned (.agg #[hv, sv]) ∧ OwB w.heap.size w' hv sv h ss ∧ Stor h ss ∧ Below w.heap.size w w'
theorem drew_end {w w5 : World} {hv sv u v : Value} {h : List Cel} {ss : List (List Cel)} {C : Nat} (f : Bb w.heap.size u v w5) (o : OwB C w5 hv sv h ss) (hC : w.heap.size < C) (hb : Below w.heap.size w w5) :
    Bb w.heap.size hv sv ((w5.setCell ⟨w.heap.size, 0, none⟩ hv).setCell ⟨w.heap.size, 1, none⟩ sv) ∧ OwB w.heap.size ((w5.setCell ⟨w.heap.size, 0, none⟩ hv).setCell ⟨w.heap.size, 1, none⟩ sv) hv sv h ss ∧ Below w.heap.size w ((w5.setCell ⟨w.heap.size, 0, none⟩ hv).setCell ⟨w.heap.size, 1, none⟩ sv) :=
  ⟨(f.set0 _).set1 _, ((o.put (p := ⟨w.heap.size, 0, none⟩) hC _).put (p := ⟨w.heap.size, 1, none⟩) hC _).mono (Nat.le_of_lt hC), (hb.setCell (p := ⟨w.heap.size, 0, none⟩) (Nat.le_refl _) _).setCell (p := ⟨w.heap.size, 1, none⟩) (Nat.le_refl _) _⟩
theorem OwB.put5 {C q : Nat} {w : World} {hv sv : Value} {h : List Cel} {ss : List (List Cel)} {c : Cel} (o : OwB C w hv sv h ss) (hq : q < C) : OwB C (put5 w q c) hv sv h ss := by
  unfold Cl.put5
  exact ((((o.put (p := ⟨q, 0, none⟩) hq _).put (p := ⟨q, 1, none⟩) hq _).put (p := ⟨q, 2, none⟩) hq _).put (p := ⟨q, 3, none⟩) hq _).put (p := ⟨q, 4, none⟩) hq _
theorem drew_end2 {w Z : World} {hv sv : Value} {h : List Cel} {ss : List (List Cel)} {c d : Cel} {C : Nat} (f : Bb w.heap.size hv sv Z) (k : Cb (w.heap.size + 1) d Z) (o : OwB C Z hv sv h ss) (hC : w.heap.size + 1 < C) (hb : Below w.heap.size w Z) :
    Bb w.heap.size hv sv (((((Z.setCell ⟨w.heap.size + 1, 0, none⟩ (.string c.r)).setCell ⟨w.heap.size + 1, 1, none⟩ (.string c.b)).setCell ⟨w.heap.size + 1, 2, none⟩ (.int .i64 c.t)).setCell ⟨w.heap.size + 1, 3, none⟩ (.int .i64 c.v)).setCell ⟨w.heap.size + 1, 4, none⟩ (.bool c.g)) ∧ Cb (w.heap.size + 1) c (((((Z.setCell ⟨w.heap.size + 1, 0, none⟩ (.string c.r)).setCell ⟨w.heap.size + 1, 1, none⟩ (.string c.b)).setCell ⟨w.heap.size + 1, 2, none⟩ (.int .i64 c.t)).setCell ⟨w.heap.size + 1, 3, none⟩ (.int .i64 c.v)).setCell ⟨w.heap.size + 1, 4, none⟩ (.bool c.g)) ∧ OwB w.heap.size (((((Z.setCell ⟨w.heap.size + 1, 0, none⟩ (.string c.r)).setCell ⟨w.heap.size + 1, 1, none⟩ (.string c.b)).setCell ⟨w.heap.size + 1, 2, none⟩ (.int .i64 c.t)).setCell ⟨w.heap.size + 1, 3, none⟩ (.int .i64 c.v)).setCell ⟨w.heap.size + 1, 4, none⟩ (.bool c.g)) hv sv h ss ∧ Below w.heap.size w (((((Z.setCell ⟨w.heap.size + 1, 0, none⟩ (.string c.r)).setCell ⟨w.heap.size + 1, 1, none⟩ (.string c.b)).setCell ⟨w.heap.size + 1, 2, none⟩ (.int .i64 c.t)).setCell ⟨w.heap.size + 1, 3, none⟩ (.int .i64 c.v)).setCell ⟨w.heap.size + 1, 4, none⟩ (.bool c.g)) :=
  ⟨f.same' (put5_other Z (w.heap.size + 1) w.heap.size c (by omega)), k.put5, (OwB.put5 (c := c) o hC).mono (by omega), put5_below (c := c) hb (by omega)⟩
set_option maxRecDepth 100000 in
set_option maxHeartbeats 4000000 in
theorem drawBarnOk_any (w : World) (a : Option Addr) (len cap : Nat) (hb : IsBytes w a len) (hl : len ≤ 4096) : Calls Try.prog 89 #[.slice a len cap] w (DrewS w) := by
  have HB := Lib.hid hb; clear hb
  have HF := Lib.hid (Bb.made (.slice none 0 0) (.slice none 0 0) w 38)
  have HA := Lib.hid (bel1 w (.cells #[.slice none 0 0, .slice none 0 0] 38))
  go_enter Try.func89, Try.ntmps89
  go_wp2_with fail
  refine (new_any _ a len cap (isBytes_nx HB.out HA.out) hl).mono ?_; rintro e w1 ⟨b, rfl, hc1, hw1⟩
  have hbw : w.heap.size + 1 ≤ b := by have := hc1.le; simpa using this
  have HF1 := Lib.hid (HF.out.next hw1)
  have B1 := Lib.hid (bel_tr HA.out hw1 (Nat.le_refl _))
  have hlt1 : b < w1.heap.size := hc1.lt
  have HC := Lib.hid hc1; clear hw1 hc1 HF HA
  go_wp2_with fail
  refine (drawAnyS_any _ b _ HC.out).mono ?_; rintro e w2 ⟨hv, sv, h, ss, rfl, o2, s2, -, hc2, hw2⟩
  have EE := Lib.hid (drew_end (HF1.out.but hw2 (by omega)) o2 (by omega) (B1.out.trans (hw2.below (B := w.heap.size) (by omega) B1.out.size)))
  have HM := Lib.hid s2
  obtain ⟨y0, y1, y2, y3, y4⟩ := HF1.out.but hw2 (by omega)
  obtain ⟨ha, hcp, sa, sc, hds, rfl, rfl, -, -⟩ := o2.view
  clear o2 s2 hc2 hw2 HF1 HC B1
  generalize h.length = nH at *
  generalize ss.length = nS at *
  go_wp2_with fail
  generalize (w2.setCell ⟨w.heap.size, 0, none⟩ (.slice ha nH hcp)).setCell ⟨w.heap.size, 1, none⟩ (.slice sa nS sc) = Z at *
  clear y0 y1 y2 y3 y4
  obtain ⟨e1, e2, -⟩ := id EE.out.1
  refine bodyPost_ret (v := .agg #[.slice ha nH hcp, .slice sa nS sc]) (by simp [results, Try.results89, go_sem, e1, e2]) rfl ⟨_, _, h, ss, rfl, EE.out.2.1, HM.out, EE.out.2.2⟩
set_option maxRecDepth 100000 in
set_option maxHeartbeats 4000000 in
theorem drawLaid_any (w : World) (a : Option Addr) (len cap : Nat) (hb : IsBytes w a len) (hl : len ≤ 4096) : Calls Try.prog 25 #[.slice a len cap] w (DrewS w) := by
  have HB := Lib.hid hb; clear hb
  have HF := Lib.hid (Bb.made (.slice none 0 0) (.slice none 0 0) w 38)
  have HA := Lib.hid (bel1 w (.cells #[.slice none 0 0, .slice none 0 0] 38))
  go_enter Try.func25, Try.ntmps25
  go_wp2_with fail
  refine (drawBarnOk_any _ a len cap (isBytes_nx HB.out HA.out) hl).mono ?_; rintro e w2 ⟨hv, sv, h, ss, rfl, o2, s2, hw2⟩
  have EE := Lib.hid (drew_end (HF.out.next hw2) o2 (by simp) (bel_tr HA.out hw2 (Nat.le_refl _)))
  have HM := Lib.hid s2
  obtain ⟨y0, y1, y2, y3, y4⟩ := HF.out.next hw2
  obtain ⟨ha, hcp, sa, sc, hds, rfl, rfl, -, -⟩ := o2.view
  clear o2 s2 hw2 HF HA
  generalize h.length = nH at *
  generalize ss.length = nS at *
  go_wp2_with fail
  generalize (w2.setCell ⟨w.heap.size, 0, none⟩ (.slice ha nH hcp)).setCell ⟨w.heap.size, 1, none⟩ (.slice sa nS sc) = Z at *
  clear y0 y1 y2 y3 y4
  obtain ⟨e1, e2, -⟩ := id EE.out.1
  refine bodyPost_ret (v := .agg #[.slice ha nH hcp, .slice sa nS sc]) (by simp [results, Try.results25, go_sem, e1, e2]) rfl ⟨_, _, h, ss, rfl, EE.out.2.1, HM.out, EE.out.2.2⟩
set_option maxRecDepth 100000 in
set_option maxHeartbeats 4000000 in
theorem drawAllCells_any (w : World) (a : Option Addr) (len cap : Nat) (hb : IsBytes w a len) (hl : len ≤ 4096) : Calls Try.prog 27 #[.slice a len cap] w (DrewS w) := by
  have HB := Lib.hid hb; clear hb
  have HF := Lib.hid (Bb.made (.slice none 0 0) (.slice none 0 0) w 38)
  have HA := Lib.hid (bel1 w (.cells #[.slice none 0 0, .slice none 0 0] 38))
  go_enter Try.func27, Try.ntmps27
  go_wp2_with fail
  refine (drawBarnOk_any _ a len cap (isBytes_nx HB.out HA.out) hl).mono ?_; rintro e w2 ⟨hv, sv, h, ss, rfl, o2, s2, hw2⟩
  have EE := Lib.hid (drew_end (HF.out.next hw2) o2 (by simp) (bel_tr HA.out hw2 (Nat.le_refl _)))
  have HM := Lib.hid s2
  obtain ⟨y0, y1, y2, y3, y4⟩ := HF.out.next hw2
  obtain ⟨ha, hcp, sa, sc, hds, rfl, rfl, -, -⟩ := o2.view
  clear o2 s2 hw2 HF HA
  generalize h.length = nH at *
  generalize ss.length = nS at *
  go_wp2_with fail
  generalize (w2.setCell ⟨w.heap.size, 0, none⟩ (.slice ha nH hcp)).setCell ⟨w.heap.size, 1, none⟩ (.slice sa nS sc) = Z at *
  clear y0 y1 y2 y3 y4
  obtain ⟨e1, e2, -⟩ := id EE.out.1
  refine bodyPost_ret (v := .agg #[.slice ha nH hcp, .slice sa nS sc]) (by simp [results, Try.results27, go_sem, e1, e2]) rfl ⟨_, _, h, ss, rfl, EE.out.2.1, HM.out, EE.out.2.2⟩
/-- A store and a cell. -/
def DrewSC (w : World) (e : Ending) (w' : World) : Prop := ∃ (hv sv : Value) (h : List Cel) (ss : List (List Cel)) (c : Cel), e = .returned (.tuple #[.agg #[hv, sv], .agg #[.string c.r, .string c.b, .int .i64 c.t, .int .i64 c.v, .bool c.g]]) ∧ OwB w.heap.size w' hv sv h ss ∧ Stor h ss ∧ c.small ∧ Below w.heap.size w w'
set_option maxRecDepth 100000 in
set_option maxHeartbeats 4000000 in
theorem drawPutBarn_any (w : World) (a : Option Addr) (len cap : Nat) (hb : IsBytes w a len) (hl : len ≤ 4096) : Calls Try.prog 23 #[.slice a len cap] w (DrewSC w) := by
  have HB := Lib.hid hb; clear hb
  have HA := Lib.hid (bel2 w (.cells #[.slice none 0 0, .slice none 0 0] 38) (.cells #[.string ⟨#[]⟩, .string ⟨#[]⟩, .int .i64 0, .int .i64 0, .bool false] 33))
  have HF := Lib.hid ((Bb.made (.slice none 0 0) (.slice none 0 0) w 38).next (bel1 _ (.cells #[.string ⟨#[]⟩, .string ⟨#[]⟩, .int .i64 0, .int .i64 0, .bool false] 33)))
  have HZ := Lib.hid (show Cb (w.heap.size + 1) zz ((w.alloc (.cells #[.slice none 0 0, .slice none 0 0] 38)).alloc (.cells #[.string ⟨#[]⟩, .string ⟨#[]⟩, .int .i64 0, .int .i64 0, .bool false] 33)) from by have := Cb.made zz (w.alloc (.cells #[.slice none 0 0, .slice none 0 0] 38)) 33; rwa [World.size_alloc] at this)
  go_enter Try.func23, Try.ntmps23
  go_wp2_with fail
  refine (new_any _ a len cap (isBytes_nx HB.out HA.out) hl).mono ?_; rintro e w1 ⟨b, rfl, hc1, hw1⟩
  have hbw : w.heap.size + 2 ≤ b := by have := hc1.le; simpa using this
  have HF1 := Lib.hid (HF.out.next hw1)
  have HZ1 := Lib.hid (HZ.out.next hw1)
  have B1 := Lib.hid (bel_tr HA.out hw1 (Nat.le_refl _))
  have hlt1 : b < w1.heap.size := hc1.lt
  have HS := Lib.hid (show St w1 _ b w1 from ⟨But.refl b w1, hc1, hc1.lt⟩); clear hw1 hc1 HF HA HZ
  go_wp2_with fail
  refine (drawAnyS_any _ b _ HS.out.cur).mono ?_; rintro e w2 ⟨hv, sv, h, ss, rfl, o2, s2, -, hc2, hw2⟩
  have hw12 : w1.heap.size ≤ w2.heap.size := hw2.size
  have HF2 := Lib.hid ((HF1.out.but hw2 (by omega)).next (bel1 w2 (.cells #[hv, sv] 38)))
  have HZ2 := Lib.hid ((HZ1.out.but hw2 (by omega)).next (bel1 w2 (.cells #[hv, sv] 38)))
  have HO2 := Lib.hid (o2.next (bel1 w2 (.cells #[hv, sv] 38)))
  have HS2 := Lib.hid ((HS.out.draws hw2 hc2).alloc (.cells #[hv, sv] 38))
  have HX2 := Lib.hid (Bb.made hv sv w2 38)
  have HM := Lib.hid s2
  obtain ⟨ha, hcp, sa, sc, hds, rfl, rfl, -, -⟩ := o2.view
  clear o2 s2 hc2 hw2 HS HF1 HZ1
  generalize h.length = nH at *
  generalize ss.length = nS at *
  go_wp2_with fail
  generalize hp2 : w2.heap.size = p2 at *
  generalize w2.alloc (Obj.cells #[Value.slice ha nH hcp, Value.slice sa nS sc] 38) = w3 at *
  clear hp2
  obtain ⟨x0, x1, -, -, -⟩ := id HX2.out
  go_region_with (
    go_at_call 86
    refine (drawAnyC_any _ b _ (by first | exact HS2.out.drew.cur | exact HS2.out.cur)).mono ?_
    rintro e w5 ⟨r, s, t, v, g, rfl, hn, hc5, hw5⟩
    have HX5 := (HX2.out.same' (w' := w3.drew) rfl).but hw5 (by omega)
    obtain ⟨u0, u1, -, -, -⟩ := HX5
    have HF5 := (HF2.out.same' (w' := w3.drew) rfl).but hw5 (by omega)
    have HZ5 := HZ2.out.drew.but hw5 (by omega)
    have EE := Lib.hid (drew_end HF5 ((HO2.out.next ((Below.refl _ _).drew)).but hw5 (by omega)) (by omega) (B1.out.trans ((HS2.out.drew.but.trans hw5).below (B := w.heap.size) (by omega) B1.out.size)))
    have HZ6 := Lib.hid ((HZ5.same (w' := (w5.setCell ⟨w.heap.size, 0, none⟩ (.slice ha nH hcp)).setCell ⟨w.heap.size, 1, none⟩ (.slice sa nS sc)) ((Below.heap_setCell _ _ _ _ (by show w.heap.size + 1 ≠ w.heap.size; omega)).trans (Below.heap_setCell _ _ _ _ (by show w.heap.size + 1 ≠ w.heap.size; omega)))))
    have EO := Lib.hid ((((HO2.out.next ((Below.refl _ _).drew)).but hw5 (by omega)).put (p := ⟨w.heap.size, 0, none⟩) (by show w.heap.size < w1.heap.size; omega) (.slice ha nH hcp)).put (p := ⟨w.heap.size, 1, none⟩) (by show w.heap.size < w1.heap.size; omega) (.slice sa nS sc))
    have HN := Lib.hid (near_small (g := g) hn)
    obtain ⟨y0, y1, y2, y3, y4⟩ := HF5
    obtain ⟨⟨z0, z1, z2, z3, z4⟩, ⟨f0, f1, f2, f3, f4⟩, -⟩ := id HZ5
    clear hc5 hw5 hn HZ5)
  all_goals
    have FF := Lib.hid (drew_end2 (c := ⟨r, s, t, v, g⟩) EE.out.1 HZ6.out EO.out (by omega) EE.out.2.2)
    clear EE HZ6 EO u0 u1 x0 x1
    go_wp2_with fail
    generalize World.setCell (World.setCell (World.setCell (World.setCell (World.setCell _ _ _) _ _) _ _) _ _) _ _ = Z at *
    clear y0 y1 y2 y3 y4 z0 z1 z2 z3 z4 f0 f1 f2 f3 f4
    obtain ⟨e1, e2, -⟩ := id FF.out.1
    obtain ⟨⟨g0, g1, g2, g3, g4⟩, -, -⟩ := id FF.out.2.1
    refine bodyPost_ret (v := .tuple #[.agg #[.slice ha nH hcp, .slice sa nS sc], .agg #[.string r, .string s, .int .i64 t, .int .i64 v, .bool g]]) (by simp [results, Try.results23, go_sem, e1, e2, g0, g1, g2, g3, g4]) rfl ⟨_, _, h, ss, ⟨r, s, t, v, g⟩, rfl, FF.out.2.2.1, HM.out, HN.out, FF.out.2.2.2⟩
end Go.Proofs.Ytcloejmakjdgcaa.Cl
