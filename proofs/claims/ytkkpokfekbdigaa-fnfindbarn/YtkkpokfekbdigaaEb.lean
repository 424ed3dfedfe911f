/-
  A store and a place drawn (spec.DrawFindBarn); the walk of FnFindBarn at a code that is not too long.
-/
import Derived.Test.YtkkpokfekbdigaaDr
import Derived.Test.YtkkpokfekbdigaaDj
import Derived.Test.YtkkpokfekbdigaaEa
namespace Go.Proofs.Ytkkpokfekbdigaa.Cl
open Go.RowKit Wd Rp Cu Kp Ra
set_option linter.unusedVariables false
theorem tott_le {m : Nat} : ∀ {ss : List (List Cel)}, (∀ l ∈ ss, l.length ≤ m) → tott ss ≤ ss.length * m
  | [], _ => by simp [tott]
  | l :: ss, h => by
    have h1 := tott_le (ss := ss) fun x hx => h x (by simp [hx])
    have h2 := h l (by simp)
    rw [tott_cons, List.length_cons, Nat.succ_mul]; omega
theorem Stor.tot {h : List Cel} {ss : List (List Cel)} (s : Stor h ss) : tott ss ≤ 2600 := by
  have h1 := tott_le (m := 260) (ss := ss) fun l hl => (s.2.2.2 l hl).1
  have h2 := s.2.1
  have h3 := Nat.mul_le_mul_right 260 h2
  omega
theorem Stor.smalls {h : List Cel} {ss : List (List Cel)} (s : Stor h ss) : Smalls (mgA h ss) := fun c hc => by
  rcases mgA_sub ss h c hc with hc | ⟨l, hl, hc⟩
  · exact s.2.2.1 c hc
  · exact (s.2.2.2 l hl).2 c hc
theorem Stor.all_len {h : List Cel} {ss : List (List Cel)} (s : Stor h ss) : (mgA h ss).length ≤ 3000 := by
  have h1 := mgA_len ss h
  have h2 := s.tot
  have h3 := s.1
  omega
theorem l6AllO {B : Nat} {hv sv : Value} {h : List Cel} {ss : List (List Cel)} (w : World) (o : OwB B w hv sv h ss) (s : Stor h ss) : Calls Try.prog 75 #[.agg #[hv, sv]] w (AlPost (mgA h ss) w) := by
  obtain ⟨a, c, sa, sc, hs, rfl, rfl, h1, h2⟩ := o.view
  exact l6All_any w a sa c sc _ _ h hs ss rfl rfl h1 h2 (by have := s.1; omega) (by have := s.tot; omega) (fun l hl => by have := (s.2.2.2 l hl).1; omega) (by have := s.2.1; omega)
/-- A store and a place, in a world that has only grown. -/
def DrewSF (w : World) (e : Ending) (w' : World) : Prop := ∃ (hv sv : Value) (h : List Cel) (ss : List (List Cel)) (r s : ByteArray) (t : Int), e = .returned (.tuple #[.agg #[hv, sv], .string r, .string s, .int .i64 t]) ∧ OwB w.heap.size w' hv sv h ss ∧ Stor h ss ∧ r.size ≤ 9 ∧ s.size ≤ 9 ∧ Below w.heap.size w w'
set_option maxRecDepth 100000 in
set_option maxHeartbeats 4000000 in
theorem drawFindB_any (w : World) (a : Option Addr) (len cap : Nat) (hb : IsBytes w a len) (hl : len ≤ 4096) : Calls Try.prog 31 #[.slice a len cap] w (DrewSF w) := by
  have HB := Lib.hid hb; clear hb
  have HF := Lib.hid (Bb.made (.slice none 0 0) (.slice none 0 0) w 45)
  have HA := Lib.hid (bel1 w (.cells #[.slice none 0 0, .slice none 0 0] 45))
  go_enter Try.func31, Try.ntmps31
  go_wp2_with fail
  refine (new_any _ a len cap (isBytes_nx HB.out HA.out) hl).mono ?_; rintro e w1 ⟨b, rfl, hc1, hw1⟩
  have hbw : w.heap.size + 1 ≤ b := by have := hc1.le; simpa using this
  have HF1 := Lib.hid (HF.out.next hw1)
  have B1 := Lib.hid (bel_tr HA.out hw1 (Nat.le_refl _))
  have HS := Lib.hid (show St w1 _ b w1 from ⟨But.refl b w1, hc1, hc1.lt⟩); clear hw1 hc1
  have hlt1 : b < w1.heap.size := HS.out.lt
  clear HF HA
  go_wp2_with fail
  refine (drawAnyS_any _ b _ HS.out.cur).mono ?_; rintro e w2 ⟨hv, sv, h, ss, rfl, o2, s2, -, hc2, hw2⟩
  have hw12 : w1.heap.size ≤ w2.heap.size := hw2.size
  have HF2 := Lib.hid ((HF1.out.but hw2 (by omega)).next (bel1 w2 (.cells #[hv, sv] 45)))
  have HO2 := Lib.hid (o2.next (bel1 w2 (.cells #[hv, sv] 45)))
  have HS2 := Lib.hid ((HS.out.draws hw2 hc2).alloc (.cells #[hv, sv] 45))
  have HX2 := Lib.hid (Bb.made hv sv w2 45)
  have HM := Lib.hid s2
  obtain ⟨ha, hcp, sa, sc, hds, rfl, rfl, -, -⟩ := o2.view
  clear o2 s2 hc2 hw2 HS HF1
  generalize h.length = nH at *
  generalize ss.length = nS at *
  go_wp2_with fail
  generalize hp2 : w2.heap.size = p2 at *
  generalize w2.alloc (Obj.cells #[Value.slice ha nH hcp, Value.slice sa nS sc] 45) = w3 at *
  clear hp2
  refine (l6AllO _ HO2.out HM.out).mono ?_; rintro e w4 ⟨v4, rfl, o4, b4⟩
  have HF4 := Lib.hid (HF2.out.next b4)
  have HO4 := Lib.hid (HO2.out.next b4)
  have HS4 := Lib.hid (st_next HS2.out b4)
  have HX4 := Lib.hid (HX2.out.next b4)
  have hw3 : w1.heap.size ≤ w3.heap.size := HS2.out.size
  have HV4 := Lib.hid o4
  clear o4 b4 HF2 HO2 HS2 HX2
  go_wp2_with fail
  refine (drawAt_any _ b w4 v4 _ HS4.out.cur HV4.out (by omega) (by have := HM.out.all_len; omega) HM.out.smalls).mono ?_; rintro e w5 ⟨r, s, t, rfl, hr, hs, hc5, hw5⟩
  have HF5 := Lib.hid (HF4.out.but hw5 (by omega))
  have HO5 := Lib.hid (HO4.out.but hw5 (by omega))
  have HS5 := Lib.hid (HS4.out.draws hw5 hc5)
  obtain ⟨x0, x1, -, -, -⟩ := HX4.out.but hw5 (by omega)
  have EB := Lib.hid (show Bb w.heap.size (.slice ha nH hcp) (.slice sa nS sc) ((w5.setCell ⟨w.heap.size, 0, none⟩ (.slice ha nH hcp)).setCell ⟨w.heap.size, 1, none⟩ (.slice sa nS sc)) from (HF5.out.set0 _).set1 _)
  have EO := Lib.hid (show OwB w.heap.size ((w5.setCell ⟨w.heap.size, 0, none⟩ (.slice ha nH hcp)).setCell ⟨w.heap.size, 1, none⟩ (.slice sa nS sc)) (.slice ha nH hcp) (.slice sa nS sc) h ss from ((HO5.out.put (p := ⟨w.heap.size, 0, none⟩) (by show w.heap.size < w1.heap.size; omega) _).put (p := ⟨w.heap.size, 1, none⟩) (by show w.heap.size < w1.heap.size; omega) _).mono (by omega))
  have EW := Lib.hid (show Below w.heap.size w ((w5.setCell ⟨w.heap.size, 0, none⟩ (.slice ha nH hcp)).setCell ⟨w.heap.size, 1, none⟩ (.slice sa nS sc)) from ((B1.out.trans (HS5.out.but.below (B := w.heap.size) (by omega) B1.out.size)).setCell (p := ⟨w.heap.size, 0, none⟩) (Nat.le_refl _) _).setCell (p := ⟨w.heap.size, 1, none⟩) (Nat.le_refl _) _)
  obtain ⟨y0, y1, y2, y3, y4⟩ := HF5.out
  clear HF4 HO4 HS4 HX4 hc5 hw5 HO5 HS5 HV4 HF5 B1
  go_wp2_with fail
  generalize (w5.setCell ⟨w.heap.size, 0, none⟩ (.slice ha nH hcp)).setCell ⟨w.heap.size, 1, none⟩ (.slice sa nS sc) = Z at *
  clear x0 x1 y0 y1 y2 y3 y4
  obtain ⟨e1, e2, -⟩ := id EB.out
  refine bodyPost_ret (v := .tuple #[.agg #[.slice ha nH hcp, .slice sa nS sc], .string r, .string s, .int .i64 t]) (by simp [results, Try.results31, go_sem, e1, e2]) rfl ⟨_, _, h, ss, r, s, t, rfl, EO.out, HM.out, hr, hs, EW.out⟩
end Go.Proofs.Ytkkpokfekbdigaa.Cl
