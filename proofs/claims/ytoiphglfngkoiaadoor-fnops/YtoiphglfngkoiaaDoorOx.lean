/-
  ReadOp: contracts of spec.ReadOp, impl.ReadOp: 'rdO' of the text. (Made by gen_ox.py.)
-/
import Derived.Test.YtoiphglfngkoiaaDoorOw
import Derived.Test.YtoiphglfngkoiaaDoorSp
import Derived.Deep.DeepCutAuto
namespace Go.Proofs.YtoiphglfngkoiaaDoor.Cl
open Go.RowKit Wd Rp Kp Go.ChangeShapes
set_option linter.unusedVariables false
set_option linter.unusedSimpArgs false
theorem ofq {p i j : Nat} (h : i ≠ j) : (⟨p, i, none⟩ : Addr) ≠ ⟨p, j, none⟩ := fun e => h (congrArg Addr.off e)
def putQ3 (w : World) (q : Nat) (x y z : Value) : World := ((w.setCell ⟨q, 0, none⟩ x).setCell ⟨q, 1, none⟩ y).setCell ⟨q, 2, none⟩ z
theorem Q3.put {q : Nat} {k n k' n' : Int} {m m' : Tk} {w : World} (h : Q3 q k n m w) : Q3 q k' n' m' (putQ3 w q (.int .i64 k') (.int .i64 n') (.string (tx m'))) := by
  obtain ⟨h0, h1, h2, f0, f1, f2, hl⟩ := h
  unfold putQ3
  refine ⟨?_, ?_, ?_, by simp only [World.frozen?_setCell]; exact f0, by simp only [World.frozen?_setCell]; exact f1, by simp only [World.frozen?_setCell]; exact f2, by rw [World.size_setCell, World.size_setCell, World.size_setCell]; exact hl⟩
  · rw [World.cell?_setCell_other _ _ _ _ (ofq (by decide)), World.cell?_setCell_other _ _ _ _ (ofq (by decide))]
    exact World.cell?_setCell_same' _ _ _ (by rw [h0]; rfl)
  · rw [World.cell?_setCell_other _ _ _ _ (ofq (by decide))]
    exact World.cell?_setCell_same' _ _ _ (by rw [World.cell?_setCell_other _ _ _ _ (ofq (by decide)), h1]; rfl)
  · exact World.cell?_setCell_same' _ _ _ (by rw [World.cell?_setCell_other _ _ _ _ (ofq (by decide)), World.cell?_setCell_other _ _ _ _ (ofq (by decide)), h2]; rfl)
theorem Q3.put1 {q : Nat} {k n n' : Int} {m : Tk} {w : World} (h : Q3 q k n m w) : Q3 q k n' m (w.setCell ⟨q, 1, none⟩ (.int .i64 n')) := by
  obtain ⟨h0, h1, h2, f0, f1, f2, hl⟩ := h
  refine ⟨?_, ?_, ?_, by simp only [World.frozen?_setCell]; exact f0, by simp only [World.frozen?_setCell]; exact f1, by simp only [World.frozen?_setCell]; exact f2, by rw [World.size_setCell]; exact hl⟩
  · rw [World.cell?_setCell_other _ _ _ _ (ofq (by decide))]; exact h0
  · exact World.cell?_setCell_same' _ _ _ (by rw [h1]; rfl)
  · rw [World.cell?_setCell_other _ _ _ _ (ofq (by decide))]; exact h2
theorem Q3.put2 {q : Nat} {k n : Int} {m m' : Tk} {w : World} (h : Q3 q k n m w) : Q3 q k n m' (w.setCell ⟨q, 2, none⟩ (.string (tx m'))) := by
  obtain ⟨h0, h1, h2, f0, f1, f2, hl⟩ := h
  refine ⟨?_, ?_, ?_, by simp only [World.frozen?_setCell]; exact f0, by simp only [World.frozen?_setCell]; exact f1, by simp only [World.frozen?_setCell]; exact f2, by rw [World.size_setCell]; exact hl⟩
  · rw [World.cell?_setCell_other _ _ _ _ (ofq (by decide))]; exact h0
  · rw [World.cell?_setCell_other _ _ _ _ (ofq (by decide))]; exact h1
  · exact World.cell?_setCell_same' _ _ _ (by rw [h2]; rfl)
theorem putQ3_block (w : World) (q k : Nat) (x y z : Value) (h : k ≠ q) : (putQ3 w q x y z).heap[k]? = w.heap[k]? := by
  unfold putQ3
  exact ((Below.heap_setCell _ _ _ k h).trans (Below.heap_setCell _ _ _ k h)).trans (Below.heap_setCell _ _ _ k h)
theorem putQ3_size (w : World) (q : Nat) (x y z : Value) : (putQ3 w q x y z).heap.size = w.heap.size := by
  unfold putQ3
  rw [World.size_setCell, World.size_setCell, World.size_setCell]
theorem putQ3_below {B q : Nat} {a w : World} {x y z : Value} (h : Below B a w) (hq : B ≤ q) : Below B a (putQ3 w q x y z) := by
  unfold putQ3
  exact ((h.setCell (p := ⟨q, 0, none⟩) hq _).setCell (p := ⟨q, 1, none⟩) hq _).setCell (p := ⟨q, 2, none⟩) hq _
theorem Q3.oput {q p : Nat} {k n : Int} {m : Tk} {x y z : Value} {w : World} (h : Q3 q k n m w) (hn : q ≠ p) : Q3 q k n m (putQ3 w p x y z) := h.same (putQ3_block w p q x y z hn) (by rw [putQ3_size]; exact Nat.le_refl _)
theorem Q3.oset {q p i : Nat} {k n : Int} {m : Tk} {x : Value} {w : World} (h : Q3 q k n m w) (hn : q ≠ p) : Q3 q k n m (w.setCell ⟨p, i, none⟩ x) := h.same (Below.heap_setCell _ _ _ _ hn) (by rw [World.size_setCell]; exact Nat.le_refl _)
theorem Q3.alloc {q : Nat} {k n : Int} {m : Tk} {o : Obj} {w : World} (h : Q3 q k n m w) : Q3 q k n m (w.alloc o) := h.next (bel1 w o)
def roV (o : Option Ov) : Value := match o with | some o => .tuple #[.agg #[.int .i64 o.k, .int .i64 o.n, .string (tx o.m)], .bool true] | none => .tuple #[.agg #[.int .i64 0, .int .i64 0, .string ⟨#[]⟩], .bool false]
theorem od_three (k : Int) : odK k = 1 ∨ odK k = 2 ∨ odK k = 0 := by
  unfold odK
  split
  · exact Or.inr (Or.inl rfl)
  · split
    · exact Or.inl rfl
    · exact Or.inr (Or.inr rfl)
theorem libT3 {W : World} (h : Lib3 W) : LibT W := ⟨h.2.2.1, h.2.2.2.2.2⟩
theorem rdV_range (s : Tk) : -2147483648 ≤ rdV s ∧ rdV s ≤ 2147483647 := by
  unfold rdV
  cases h : rd s with
  | none => exact ⟨by decide, by decide⟩
  | some n => exact (isW_iff n).1 ((rd_iff s n).1 h).1
def McO (w : World) : Prop := (∃ m : Int, w.cell? ⟨2, 0, none⟩ = some (.int .i64 m)) ∧ 2 < w.heap.size
theorem McO.next {w w' : World} (h : McO w) (hb : Below w.heap.size w w') : McO w' := by
  obtain ⟨⟨m, h3⟩, h6⟩ := h
  have e : w'.heap[2]? = w.heap[2]? := hb.block _ h6
  exact ⟨⟨m, (World.cell?_of_block (w := w) e).trans h3⟩, Nat.lt_of_lt_of_le h6 hb.size⟩
theorem cutO_any (s : Tk) (w : World) (hs : s.length ≤ 4194304) (hL : McO w) :
    Calls Tryd.prog 25 #[.string (tx s), .string ⟨#[32]⟩] w fun e w' => (∃ f, e = .returned (.tuple #[.string (tx (Lib.cut s [32]).1), .string (tx (Lib.cut s [32]).2.1), .bool f])) ∧ Below w.heap.size w w' := by
  obtain ⟨m, hm⟩ := hL.1
  refine (Tryd.strings_Cut (tx s) ⟨#[32]⟩ m w (by rw [tx_size]; omega) hm).mono ?_
  rintro e w' ⟨rfl, n, rfl⟩
  rw [tx_data]
  exact ⟨⟨_, rfl⟩, bel_drewN (Below.refl _ _) n⟩
set_option maxHeartbeats 16000000 in
set_option maxRecDepth 100000 in
theorem implReadOp_any (s : Tk) (w : World) (hs : s.length ≤ 4194304) (hL : Lib3 w) (hH : HdO w) (hM : McO w) :
    Calls Tryd.prog 10 #[.string (tx s)] w fun e w' => e = .returned (roV (rdO s)) ∧ Below w.heap.size w w' := by
  have HL := Lib.hid hL; clear hL
  have HH := Lib.hid hH; clear hH
  have HM := Lib.hid hM; clear hM
  have hcl := cut_len s [32]
  have HCU := Lib.hid (fun w h => cutO_any s w (by omega) h)
  have HIC := Lib.hid (show icP s = icO (Lib.cut s [32]).1 (Lib.cut s [32]).2.1 from rfl)
  generalize (Lib.cut s [32]).1 = hh at *
  generalize (Lib.cut s [32]).2.1 = rr at *
  have HKO := Lib.hid (fun w h => kindOfOp_any hh w h)
  have HI2 := Lib.hid (show icP s = ⟨atI wdO hh + 1, if odK (atI wdO hh + 1) = 1 then rdV rr else 0, if odK (atI wdO hh + 1) = 2 then rr else []⟩ from HIC.out)
  clear HIC
  generalize atI wdO hh + 1 = K at *
  have HP := Lib.hid (fun w => operandOf_any K w)
  have HQ := Lib.hid (Q3.made 0 0 [] w 25)
  have HB := Lib.hid (bel1 w (.cells #[.int .i64 0, .int .i64 0, .string ⟨#[]⟩] 25))
  have HR := Lib.hid (fun w h => rdI_any rr w h (by omega))
  have hrl : rr.length ≤ 4194304 := by omega
  generalize hq : w.heap.size = q at *
  rcases od_three K with hod | hod | hod
  · have HI := Lib.hid (show icP s = ⟨K, rdV rr, []⟩ by rw [HI2.out]; simp [hod])
    rw [hod] at HP
    clear HI2 hod
    obtain ⟨ok, hok⟩ : ∃ ok, opB ⟨K, (rdV rr), []⟩ = ok := ⟨_, rfl⟩
    have HOK := Lib.hid (fun w => implOp_any K (rdV rr) [] w (by first | omega | simp))
    have HSH := Lib.hid (fun w h h2 => implShowOp_any K (rdV rr) [] w (by first | omega | simp) h h2)
    rw [hok] at HOK
    go_enter Tryd.func10, Tryd.ntmps10
    go_wp2_with fail
    refine (HCU.out _ (HM.out.next (by rw [hq]; exact HB.out))).mono ?_; rintro e w1 ⟨⟨f, rfl⟩, b1⟩
    have B1 := Lib.hid (bel_tr HB.out b1 (by omega))
    have Q1 := Lib.hid (HQ.out.next b1); clear b1
    go_wp2_with fail
    refine (HKO.out _ (HH.out.next (by rw [hq]; exact B1.out))).mono ?_; rintro e w2 ⟨rfl, rfl⟩
    have hq1 : q < w1.heap.size := Q1.out.lt
    have HY2 := Lib.hid (Q3.made K 0 [] w1 25)
    have B2 := Lib.hid (bel_tr B1.out (bel1 w1 (.cells #[.int .i64 K, .int .i64 0, .string (tx [])] 25)) (by omega))
    have Q2 := Lib.hid (Q1.out.alloc (o := .cells #[.int .i64 K, .int .i64 0, .string (tx [])] 25))
    go_wp2_with fail
    rw [show (⟨#[]⟩ : ByteArray) = tx [] from rfl]
    generalize hw2 : w1.alloc (.cells #[.int .i64 K, .int .i64 0, .string (tx [])] 25) = w2 at *
    clear hw2
    generalize hp : w1.heap.size = p at *
    refine (HP.out _).mono ?_; rintro e w3 ⟨rfl, rfl⟩
    obtain ⟨y0, y1, y2, g0, g1, g2, -⟩ := id HY2.out
    go_wp2_with fail
    refine (HR.out _ (lib3_below HL.out (by rw [hq]; exact B2.out))).mono ?_; rintro e w3 ⟨rfl, b3⟩
    have B3 := Lib.hid (show Below q w (w3.setCell ⟨p, 1, none⟩ (.int .i64 (rdV rr))) from (bel_tr B2.out b3 (by omega)).setCell (p := ⟨p, 1, none⟩) (by show q ≤ p; omega) _)
    have HY3 := Lib.hid (show Q3 p K (rdV rr) [] (w3.setCell ⟨p, 1, none⟩ (.int .i64 (rdV rr))) from (HY2.out.next b3).put1)
    have Q3 := Lib.hid (show Q3 q 0 0 [] (w3.setCell ⟨p, 1, none⟩ (.int .i64 (rdV rr))) from (Q2.out.next b3).oset (by omega))
    clear y0 y1 y2 g0 g1 g2
    obtain ⟨y0, y1, y2, g0, g1, g2, -⟩ := HY2.out.next b3
    clear b3
    go_wp2_with fail
    clear y0 y1 y2 g0 g1 g2
    generalize w3.setCell ⟨p, 1, none⟩ (.int .i64 (rdV rr)) = w4 at *
    refine (HOK.out _).mono ?_; rintro e w5 ⟨rfl, b5⟩
    have B5 := Lib.hid (bel_tr B3.out b5 (by omega))
    have Y5 := Lib.hid (HY3.out.next b5)
    have Q5 := Lib.hid (Q3.out.next b5)
    clear b5
    cases ok
    · have HE := Lib.hid (ic_no HI.out (Or.inl hok))
      obtain ⟨z0, z1, z2, f0, f1, f2, -⟩ := id Q5.out
      go_wp2_with fail
      refine bodyPost_ret (v := roV none) (by simp [results, Tryd.results10, go_sem, z0, z1, z2, roV]) rfl ⟨by rw [HE.out], ?_⟩
      exact putQ3_below B5.out (Nat.le_refl _)
    · obtain ⟨y0, y1, y2, g0, g1, g2, -⟩ := id Y5.out
      obtain ⟨z, hz⟩ : ∃ z, tx (shO ⟨K, (rdV rr), []⟩) = z := ⟨_, rfl⟩
      rw [hz] at HSH
      go_wp2_with fail
      refine (HSH.out _ (HL.out |> fun h => libT3 (lib3_below h (by rw [hq]; exact B5.out))) (HH.out.next (by rw [hq]; exact B5.out))).mono ?_; rintro e w6 ⟨rfl, b6⟩
      have B6 := Lib.hid (bel_tr B5.out b6 (by omega))
      have Q6 := Lib.hid (Q5.out.next b6)
      clear y0 y1 y2 g0 g1 g2
      obtain ⟨y0, y1, y2, g0, g1, g2, -⟩ := Y5.out.next b6
      clear b6
      obtain ⟨z0, z1, z2, f0, f1, f2, -⟩ := id Q6.out
      by_cases he : shO ⟨K, (rdV rr), []⟩ = s
      · have HE := Lib.hid (ic_yes HI.out hok he)
        have q1 : (!(z.toList == (tx s).toList)) = false := by rw [← hz, he]; simp
        have q2 : (z.toList == (tx s).toList) = true := by rw [← hz, he]; simp
        clear he hz
        go_wp2_with fail
        refine bodyPost_ret (v := roV (some ⟨K, (rdV rr), []⟩)) (by simp [results, Tryd.results10, go_sem, z0, z1, z2, roV]) rfl ⟨by rw [HE.out], ?_⟩
        exact putQ3_below B6.out (Nat.le_refl _)
      · have HE := Lib.hid (ic_no HI.out (Or.inr he))
        have q2 : (z.toList == (tx s).toList) = false := by rw [← hz]; exact tx_ne he
        clear he hz
        go_wp2_with fail
        refine bodyPost_ret (v := roV none) (by simp [results, Tryd.results10, go_sem, z0, z1, z2, roV]) rfl ⟨by rw [HE.out], ?_⟩
        exact putQ3_below B6.out (Nat.le_refl _)
  · have HI := Lib.hid (show icP s = ⟨K, 0, rr⟩ by rw [HI2.out]; simp [hod])
    rw [hod] at HP
    clear HI2 hod
    obtain ⟨ok, hok⟩ : ∃ ok, opB ⟨K, 0, rr⟩ = ok := ⟨_, rfl⟩
    have HOK := Lib.hid (fun w => implOp_any K 0 rr w (by first | omega | simp))
    have HSH := Lib.hid (fun w h h2 => implShowOp_any K 0 rr w (by first | omega | simp) h h2)
    rw [hok] at HOK
    go_enter Tryd.func10, Tryd.ntmps10
    go_wp2_with fail
    refine (HCU.out _ (HM.out.next (by rw [hq]; exact HB.out))).mono ?_; rintro e w1 ⟨⟨f, rfl⟩, b1⟩
    have B1 := Lib.hid (bel_tr HB.out b1 (by omega))
    have Q1 := Lib.hid (HQ.out.next b1); clear b1
    go_wp2_with fail
    refine (HKO.out _ (HH.out.next (by rw [hq]; exact B1.out))).mono ?_; rintro e w2 ⟨rfl, rfl⟩
    have hq1 : q < w1.heap.size := Q1.out.lt
    have HY2 := Lib.hid (Q3.made K 0 [] w1 25)
    have B2 := Lib.hid (bel_tr B1.out (bel1 w1 (.cells #[.int .i64 K, .int .i64 0, .string (tx [])] 25)) (by omega))
    have Q2 := Lib.hid (Q1.out.alloc (o := .cells #[.int .i64 K, .int .i64 0, .string (tx [])] 25))
    go_wp2_with fail
    rw [show (⟨#[]⟩ : ByteArray) = tx [] from rfl]
    generalize hw2 : w1.alloc (.cells #[.int .i64 K, .int .i64 0, .string (tx [])] 25) = w2 at *
    clear hw2
    generalize hp : w1.heap.size = p at *
    refine (HP.out _).mono ?_; rintro e w3 ⟨rfl, rfl⟩
    obtain ⟨y0, y1, y2, g0, g1, g2, -⟩ := id HY2.out
    have B3 := Lib.hid (show Below q w (w2.setCell ⟨p, 2, none⟩ (.string (tx rr))) from B2.out.setCell (p := ⟨p, 2, none⟩) (by show q ≤ p; omega) _)
    have HY3 := Lib.hid (show Q3 p K 0 rr (w2.setCell ⟨p, 2, none⟩ (.string (tx rr))) from HY2.out.put2)
    have Q3 := Lib.hid (show Q3 q 0 0 [] (w2.setCell ⟨p, 2, none⟩ (.string (tx rr))) from Q2.out.oset (by omega))
    go_wp2_with fail
    clear y0 y1 y2 g0 g1 g2
    generalize w2.setCell ⟨p, 2, none⟩ (.string (tx rr)) = w4 at *
    refine (HOK.out _).mono ?_; rintro e w5 ⟨rfl, b5⟩
    have B5 := Lib.hid (bel_tr B3.out b5 (by omega))
    have Y5 := Lib.hid (HY3.out.next b5)
    have Q5 := Lib.hid (Q3.out.next b5)
    clear b5
    cases ok
    · have HE := Lib.hid (ic_no HI.out (Or.inl hok))
      obtain ⟨z0, z1, z2, f0, f1, f2, -⟩ := id Q5.out
      go_wp2_with fail
      refine bodyPost_ret (v := roV none) (by simp [results, Tryd.results10, go_sem, z0, z1, z2, roV]) rfl ⟨by rw [HE.out], ?_⟩
      exact putQ3_below B5.out (Nat.le_refl _)
    · obtain ⟨y0, y1, y2, g0, g1, g2, -⟩ := id Y5.out
      obtain ⟨z, hz⟩ : ∃ z, tx (shO ⟨K, 0, rr⟩) = z := ⟨_, rfl⟩
      rw [hz] at HSH
      go_wp2_with fail
      refine (HSH.out _ (HL.out |> fun h => libT3 (lib3_below h (by rw [hq]; exact B5.out))) (HH.out.next (by rw [hq]; exact B5.out))).mono ?_; rintro e w6 ⟨rfl, b6⟩
      have B6 := Lib.hid (bel_tr B5.out b6 (by omega))
      have Q6 := Lib.hid (Q5.out.next b6)
      clear y0 y1 y2 g0 g1 g2
      obtain ⟨y0, y1, y2, g0, g1, g2, -⟩ := Y5.out.next b6
      clear b6
      obtain ⟨z0, z1, z2, f0, f1, f2, -⟩ := id Q6.out
      by_cases he : shO ⟨K, 0, rr⟩ = s
      · have HE := Lib.hid (ic_yes HI.out hok he)
        have q1 : (!(z.toList == (tx s).toList)) = false := by rw [← hz, he]; simp
        have q2 : (z.toList == (tx s).toList) = true := by rw [← hz, he]; simp
        clear he hz
        go_wp2_with fail
        refine bodyPost_ret (v := roV (some ⟨K, 0, rr⟩)) (by simp [results, Tryd.results10, go_sem, z0, z1, z2, roV]) rfl ⟨by rw [HE.out], ?_⟩
        exact putQ3_below B6.out (Nat.le_refl _)
      · have HE := Lib.hid (ic_no HI.out (Or.inr he))
        have q2 : (z.toList == (tx s).toList) = false := by rw [← hz]; exact tx_ne he
        clear he hz
        go_wp2_with fail
        refine bodyPost_ret (v := roV none) (by simp [results, Tryd.results10, go_sem, z0, z1, z2, roV]) rfl ⟨by rw [HE.out], ?_⟩
        exact putQ3_below B6.out (Nat.le_refl _)
  · have HI := Lib.hid (show icP s = ⟨K, 0, []⟩ by rw [HI2.out]; simp [hod])
    rw [hod] at HP
    clear HI2 hod
    obtain ⟨ok, hok⟩ : ∃ ok, opB ⟨K, 0, []⟩ = ok := ⟨_, rfl⟩
    have HOK := Lib.hid (fun w => implOp_any K 0 [] w (by first | omega | simp))
    have HSH := Lib.hid (fun w h h2 => implShowOp_any K 0 [] w (by first | omega | simp) h h2)
    rw [hok] at HOK
    go_enter Tryd.func10, Tryd.ntmps10
    go_wp2_with fail
    refine (HCU.out _ (HM.out.next (by rw [hq]; exact HB.out))).mono ?_; rintro e w1 ⟨⟨f, rfl⟩, b1⟩
    have B1 := Lib.hid (bel_tr HB.out b1 (by omega))
    have Q1 := Lib.hid (HQ.out.next b1); clear b1
    go_wp2_with fail
    refine (HKO.out _ (HH.out.next (by rw [hq]; exact B1.out))).mono ?_; rintro e w2 ⟨rfl, rfl⟩
    have hq1 : q < w1.heap.size := Q1.out.lt
    have HY2 := Lib.hid (Q3.made K 0 [] w1 25)
    have B2 := Lib.hid (bel_tr B1.out (bel1 w1 (.cells #[.int .i64 K, .int .i64 0, .string (tx [])] 25)) (by omega))
    have Q2 := Lib.hid (Q1.out.alloc (o := .cells #[.int .i64 K, .int .i64 0, .string (tx [])] 25))
    go_wp2_with fail
    rw [show (⟨#[]⟩ : ByteArray) = tx [] from rfl]
    generalize hw2 : w1.alloc (.cells #[.int .i64 K, .int .i64 0, .string (tx [])] 25) = w2 at *
    clear hw2
    generalize hp : w1.heap.size = p at *
    refine (HP.out _).mono ?_; rintro e w3 ⟨rfl, rfl⟩
    obtain ⟨y0, y1, y2, g0, g1, g2, -⟩ := id HY2.out
    have B3 := B2
    have HY3 := HY2
    have Q3 := Q2
    go_wp2_with fail
    clear y0 y1 y2 g0 g1 g2
    generalize w2 = w4 at *
    refine (HOK.out _).mono ?_; rintro e w5 ⟨rfl, b5⟩
    have B5 := Lib.hid (bel_tr B3.out b5 (by omega))
    have Y5 := Lib.hid (HY3.out.next b5)
    have Q5 := Lib.hid (Q3.out.next b5)
    clear b5
    cases ok
    · have HE := Lib.hid (ic_no HI.out (Or.inl hok))
      obtain ⟨z0, z1, z2, f0, f1, f2, -⟩ := id Q5.out
      go_wp2_with fail
      refine bodyPost_ret (v := roV none) (by simp [results, Tryd.results10, go_sem, z0, z1, z2, roV]) rfl ⟨by rw [HE.out], ?_⟩
      exact putQ3_below B5.out (Nat.le_refl _)
    · obtain ⟨y0, y1, y2, g0, g1, g2, -⟩ := id Y5.out
      obtain ⟨z, hz⟩ : ∃ z, tx (shO ⟨K, 0, []⟩) = z := ⟨_, rfl⟩
      rw [hz] at HSH
      go_wp2_with fail
      refine (HSH.out _ (HL.out |> fun h => libT3 (lib3_below h (by rw [hq]; exact B5.out))) (HH.out.next (by rw [hq]; exact B5.out))).mono ?_; rintro e w6 ⟨rfl, b6⟩
      have B6 := Lib.hid (bel_tr B5.out b6 (by omega))
      have Q6 := Lib.hid (Q5.out.next b6)
      clear y0 y1 y2 g0 g1 g2
      obtain ⟨y0, y1, y2, g0, g1, g2, -⟩ := Y5.out.next b6
      clear b6
      obtain ⟨z0, z1, z2, f0, f1, f2, -⟩ := id Q6.out
      by_cases he : shO ⟨K, 0, []⟩ = s
      · have HE := Lib.hid (ic_yes HI.out hok he)
        have q1 : (!(z.toList == (tx s).toList)) = false := by rw [← hz, he]; simp
        have q2 : (z.toList == (tx s).toList) = true := by rw [← hz, he]; simp
        clear he hz
        go_wp2_with fail
        refine bodyPost_ret (v := roV (some ⟨K, 0, []⟩)) (by simp [results, Tryd.results10, go_sem, z0, z1, z2, roV]) rfl ⟨by rw [HE.out], ?_⟩
        exact putQ3_below B6.out (Nat.le_refl _)
      · have HE := Lib.hid (ic_no HI.out (Or.inr he))
        have q2 : (z.toList == (tx s).toList) = false := by rw [← hz]; exact tx_ne he
        clear he hz
        go_wp2_with fail
        refine bodyPost_ret (v := roV none) (by simp [results, Tryd.results10, go_sem, z0, z1, z2, roV]) rfl ⟨by rw [HE.out], ?_⟩
        exact putQ3_below B6.out (Nat.le_refl _)
/-- What the reader of an instruction keeps while it builds: its result's block, the words of the text. -/
def Rq (w0 : World) (q g : Nat) (c0 : Tk) (c1 : Option Tk) (z : World) : Prop := Q3 q 0 0 [] z ∧ z.cell? ⟨g, 0, none⟩ = some (.string (tx c0)) ∧ (∀ x, c1 = some x → z.cell? ⟨g, 1, none⟩ = some (.string (tx x))) ∧ g < z.heap.size ∧ Below q w0 z ∧ q ≤ w0.heap.size
theorem Rq.next {w0 z z' : World} {q g : Nat} {c0 : Tk} {c1 : Option Tk} (h : Rq w0 q g c0 c1 z) (hb : Below z.heap.size z z') : Rq w0 q g c0 c1 z' := by
  obtain ⟨h1, h2, h3, h4, h5, h6⟩ := h
  have e := hb.block g h4
  exact ⟨h1.next hb, (World.cell?_of_block (w := z) e).trans h2, fun x hx => (World.cell?_of_block (w := z) e).trans (h3 x hx), Nat.lt_of_lt_of_le h4 hb.size, bel_tr h5 hb h6, h6⟩
theorem Rq.oput {w0 z : World} {q g p : Nat} {c0 : Tk} {c1 : Option Tk} {x y v : Value} (h : Rq w0 q g c0 c1 z) (hq : q ≠ p) (hg : g ≠ p) (hp : q ≤ p) : Rq w0 q g c0 c1 (putQ3 z p x y v) := by
  obtain ⟨h1, h2, h3, h4, h5, h6⟩ := h
  have e := putQ3_block z p g x y v hg
  exact ⟨h1.oput hq, (World.cell?_of_block (w := z) e).trans h2, fun x hx => (World.cell?_of_block (w := z) e).trans (h3 x hx), by rw [putQ3_size]; exact h4, putQ3_below h5 hp, h6⟩
theorem Rq.oset {w0 z : World} {q g p i : Nat} {c0 : Tk} {c1 : Option Tk} {x : Value} (h : Rq w0 q g c0 c1 z) (hq : q ≠ p) (hg : g ≠ p) (hp : q ≤ p) : Rq w0 q g c0 c1 (z.setCell ⟨p, i, none⟩ x) := by
  obtain ⟨h1, h2, h3, h4, h5, h6⟩ := h
  have e : (z.setCell ⟨p, i, none⟩ x).heap[g]? = z.heap[g]? := Below.heap_setCell _ _ _ _ hg
  exact ⟨h1.oset hq, (World.cell?_of_block (w := z) e).trans h2, fun y hy => (World.cell?_of_block (w := z) e).trans (h3 y hy), by rw [World.size_setCell]; exact h4, h5.setCell (p := ⟨p, i, none⟩) hp _, h6⟩
theorem atI_low (s : Tk) : 0 ≤ atI wdO s + 1 ∧ atI wdO s + 1 ≤ 11 := by
  unfold atI
  cases h : at? wdO s with
  | none => exact ⟨by decide, by decide⟩
  | some k =>
    have := (at?_lt h).1
    have h2 : wdO.length = 11 := rfl
    dsimp only
    omega
theorem spl_cons (s : Tk) : ∃ c0 r, spl 32 s = c0 :: r := by
  cases h : spl 32 s with
  | nil => exact absurd h (splAt_ne 32 s [])
  | cons c r => exact ⟨c, r, rfl⟩
theorem splAt_small (d : UInt8) : ∀ (l cur : List UInt8), (splAt d cur l).length ≤ l.length + 1 ∧ ∀ s ∈ splAt d cur l, s.length ≤ cur.length + l.length
  | [], cur => ⟨by simp [splAt], fun s hs => by simp [splAt] at hs; subst hs; simp⟩
  | c :: r, cur => by
    unfold splAt
    split
    · obtain ⟨h1, h2⟩ := splAt_small d r []
      refine ⟨by simp; omega, fun s hs => ?_⟩
      rcases List.mem_cons.1 hs with rfl | hs
      · simp
      · have := h2 s hs; simp at this ⊢; omega
    · obtain ⟨h1, h2⟩ := splAt_small d r (cur ++ [c])
      refine ⟨by simp; omega, fun s hs => ?_⟩
      have := h2 s hs
      simp at this ⊢; omega
set_option maxHeartbeats 32000000 in
set_option maxRecDepth 100000 in
theorem specReadOp_any (s : Tk) (w : World) (hs : s.length ≤ 4194300) :
    Calls Tryd.prog 11 #[.string (tx s)] w fun e w' => e = .returned (roV (rdO s)) ∧ Below w.heap.size w w' := by
  have HSP := Lib.hid (fun w => split_any (tx s) 32 w (by rw [tx_size]; omega))
  rw [tx_data] at HSP
  obtain ⟨hsl, hsm⟩ := splAt_small 32 s []
  obtain ⟨c0, rr, hl⟩ := spl_cons s
  have hsl' : (spl 32 s).length ≤ s.length + 1 := hsl
  have hsm' : ∀ x ∈ spl 32 s, x.length ≤ 4194304 := fun x hx => by have := hsm x hx; simp at this; omega
  have HRP := Lib.hid (show rdP s = ⟨atI wdO ((spl 32 s).headD []) + 1, if isNu (atI wdO ((spl 32 s).headD []) + 1) && decide ((spl 32 s).length = 2) then rdV ((spl 32 s).getD 1 []) else 0, if isNm (atI wdO ((spl 32 s).headD []) + 1) && decide ((spl 32 s).length = 2) then (spl 32 s).getD 1 [] else []⟩ from rfl)
  clear hsl hsm
  rw [hl] at HSP HRP hsl' hsm'
  have HAT := Lib.hid (fun w a cap hv => l1At_any w a cap wdO 11 c0 rfl hv (by decide))
  obtain ⟨hlo, hhi⟩ := atI_low c0
  rw [show (c0 :: rr).headD [] = c0 from rfl] at HRP
  generalize atI wdO c0 = A at *
  have HT := Lib.hid (fun w => l11Tells_any (A + 1) w)
  obtain ⟨c1, hc1⟩ : ∃ c1, c1 = rr[0]? := ⟨_, rfl⟩
  have HQ := Lib.hid (Q3.made 0 0 [] w 25)
  have HB := Lib.hid (bel1 w (.cells #[.int .i64 0, .int .i64 0, .string ⟨#[]⟩] 25))
  have hq0 : w.heap.size ≤ w.heap.size := Nat.le_refl _
  generalize hq : w.heap.size = q at *
  go_enter Tryd.func11, Tryd.ntmps11
  go_wp2_with fail
  refine (HSP.out _).mono ?_; rintro e w1 ⟨x1, rfl, o1, b1⟩
  obtain ⟨g, cap, rfl⟩ := o1.any
  obtain ⟨-, hg0, hg1, hcap, hcs⟩ := o1.cell
  have R0 := Lib.hid (show Rq w q g c0 c1 w1.drew from ⟨(HQ.out.next b1).next (belD w1), hcs 0 (by simp), fun x hx => by
    rw [hc1] at hx
    have h1 := (List.getElem?_eq_some_iff.1 hx)
    obtain ⟨h2, h3⟩ := h1
    have h4 := hcs 1 (by simp; omega)
    rw [show (c0 :: rr)[1]'(by simp; omega) = x from h3] at h4
    exact h4, hg1, bel_tr (bel_tr HB.out b1 (by omega)) (belD w1) (by omega), by omega⟩)
  have hll : (c0 :: rr).length ≤ 4194304 := by omega
  clear o1 hcs b1
  have hwk : IntKind.i64.wrap (A + 1) = A + 1 := by rw [IntKind.wrap_i64]; omega
  go_upto_region 2 with fail
  go_cut [5] (fun so wx => ∃ p, so = .pointer (some ⟨p, 0, none⟩) ∧ Q3 p (A + 1) 0 [] wx ∧ Rq w q g c0 c1 wx ∧ q < p ∧ g < p)
  case first =>
    refine wp_region_held_drew (S := fun z => Rq w q g c0 c1 z) (by kernel_rfl) R0.out (fun hHeld => ?_)
    refine wpAnyH_take (i := 1) (v := ?v1r) rfl (by kernel_rfl) (by kernel_rfl) (by kernel_rfl) (fun _ _ _ h => h) (Or.inl ⟨by rfl, ?hy1r⟩) (by assumption) ?rest1r
    case hy1r => (intro zz hSw; (try dsimp only at hSw); go_simp; (try with_reducible rfl))
    change wpAnyH _ _ _ _ _ _ _ (Act.put _ (some 11) _) _
    simp only [Act.put, List.setIfInBounds_toArray, List.set_cons_zero, List.set_cons_succ]
    refine wpAnyH_take (i := 2) (v := ?v2r) rfl (by kernel_rfl) (by kernel_rfl) (by kernel_rfl) (fun _ _ _ h => h) (Or.inl ⟨by rfl, ?hy2r⟩) (by assumption) ?rest2r
    case hy2r => (intro zz hSw; (try dsimp only at hSw); go_simp; (try with_reducible rfl))
    change wpAnyH _ _ _ _ _ _ _ (Act.put _ (some 12) _) _
    simp only [Act.put, List.setIfInBounds_toArray, List.set_cons_zero, List.set_cons_succ]
    refine wpAnyH_take (i := 3) (v := ?v3r) rfl (by kernel_rfl) (by kernel_rfl) (by kernel_rfl) (fun _ _ _ h => h) (Or.inl ⟨by rfl, ?hy3r⟩) (by assumption) ?rest3r
    case hy3r => (intro zz hSw; (try dsimp only at hSw); obtain ⟨-, hc0, -⟩ := hSw; go_simp; (try with_reducible rfl))
    change wpAnyH _ _ _ _ _ _ _ (Act.put _ (some 13) _) _
    simp only [Act.put, List.setIfInBounds_toArray, List.set_cons_zero, List.set_cons_succ]
    refine wpAnyH_ready (rs := [0, 7]) (by kernel_rfl) (by simp) (AllReadyH.cons rfl (fun K hK => ?_) (AllReadyH.cons rfl (fun K hK => ?_) (AllReadyH.nil)))
    · skip
      go_simp
      refine (l11Words_any _).mono ?_; rintro e v0 ⟨b, rfl, -, hv3, -, b3⟩
      have R1 := Lib.hid (R0.out.next b3)
      have V1 := Lib.hid hv3; clear hv3 b3
      refine hK.out _ _ R1.out (fun hHeld => ?_)
      clear hK K
      refine wpAnyH_ready (rs := [4, 7]) (by kernel_rfl) (by simp) (AllReadyH.cons rfl (fun K hK => ?_) (AllReadyH.cons rfl (fun K hK => ?_) (AllReadyH.nil)))
      · skip
        go_simp
        refine (HAT.out _ _ _ V1.out).mono ?_; rintro e v1 ⟨rfl, rfl⟩
        have R2 := R1
        refine hK.out _ _ R2.out (fun hHeld => ?_)
        clear hK K
        refine wpAnyH_take (i := 5) (v := ?v5rxx) rfl (by kernel_rfl) (by kernel_rfl) (by kernel_rfl) (fun _ _ _ h => h) (Or.inl ⟨by rfl, ?hy5rxx⟩) (by assumption) ?rest5rxx
        case hy5rxx => (intro zz hSw; (try dsimp only at hSw); go_simp; (try with_reducible rfl))
        change wpAnyH _ _ _ _ _ _ _ (Act.put _ (some 15) _) _
        simp only [Act.put, List.setIfInBounds_toArray, List.set_cons_zero, List.set_cons_succ]
        refine wpAnyH_take (i := 6) (v := ?v6rxx) rfl (by kernel_rfl) (by kernel_rfl) (by kernel_rfl) (fun _ _ _ h => h) (Or.inl ⟨by rfl, ?hy6rxx⟩) (by assumption) ?rest6rxx
        case hy6rxx => (intro zz hSw; (try dsimp only at hSw); go_simp; (try with_reducible rfl))
        change wpAnyH _ _ _ _ _ _ _ (Act.put _ (some 16) _) _
        simp only [Act.put, List.setIfInBounds_toArray, List.set_cons_zero, List.set_cons_succ]
        refine wpAnyH_ready (rs := [7]) (by kernel_rfl) (by simp) (AllReadyH.cons rfl (fun K hK => ?_) (AllReadyH.nil))
        go_simp
        have R3 := Lib.hid (show Rq w q g c0 c1 (v0.alloc (.cells #[.int .i64 0, .int .i64 0, .string ⟨#[]⟩] 25)) from R2.out.next (bel1 v0 (.cells #[.int .i64 0, .int .i64 0, .string ⟨#[]⟩] 25)))
        have Y3 := Lib.hid (show Q3 (v0.heap.size) 0 0 [] (v0.alloc (.cells #[.int .i64 0, .int .i64 0, .string ⟨#[]⟩] 25)) from Q3.made 0 0 [] v0 _)
        have hgp : g < v0.heap.size := R2.out.2.2.2.1
        have hqp : q < v0.heap.size := R2.out.1.lt
        refine hK.out _ _ R3.out (fun hHeld => ?_)
        clear hK K
        generalize hu : v0.alloc (.cells #[.int .i64 0, .int .i64 0, .string ⟨#[]⟩] 25) = u at *
        clear hu
        generalize v0.heap.size = p at *
        refine wpAnyH_ready (rs := [8]) (by kernel_rfl) (by simp) (AllReadyH.cons rfl (fun K hK => ?_) (AllReadyH.nil))
        obtain ⟨y0, y1, y2, g0, g1, g2, -⟩ := id Y3.out
        have RF := Lib.hid (show Rq w q g c0 c1 (putQ3 _ p (.int .i64 (A + 1)) (.int .i64 0) (.string (tx []))) from R3.out.oput (by omega) (by omega) (by omega))
        have YF := Lib.hid (show Q3 p (A + 1) 0 [] (putQ3 _ p (.int .i64 (A + 1)) (.int .i64 0) (.string (tx []))) from Y3.out.put)
        go_simp
        refine hK.out _ _ RF.out (fun hHeld => ?_)
        clear hK K y0 y1 y2 g0 g1 g2
        refine wpAnyH_done (by kernel_rfl) ?_ _
        go_wp2_with fail
        go_meet
        exact ⟨p, rfl, YF.out, RF.out, hqp, hgp⟩
      · skip
        go_simp
        have R2 := Lib.hid (show Rq w q g c0 c1 (v0.alloc (.cells #[.int .i64 0, .int .i64 0, .string ⟨#[]⟩] 25)) from R1.out.next (bel1 v0 (.cells #[.int .i64 0, .int .i64 0, .string ⟨#[]⟩] 25)))
        have Y2 := Lib.hid (show Q3 (v0.heap.size) 0 0 [] (v0.alloc (.cells #[.int .i64 0, .int .i64 0, .string ⟨#[]⟩] 25)) from Q3.made 0 0 [] v0 _)
        have hgp : g < v0.heap.size := R1.out.2.2.2.1
        have hqp : q < v0.heap.size := R1.out.1.lt
        have V2 := Lib.hid (V1.out.below (bel1 v0 (.cells #[.int .i64 0, .int .i64 0, .string ⟨#[]⟩] 25)))
        refine hK.out _ _ R2.out (fun hHeld => ?_)
        clear hK K
        generalize hu : v0.alloc (.cells #[.int .i64 0, .int .i64 0, .string ⟨#[]⟩] 25) = u at *
        clear hu
        generalize v0.heap.size = p at *
        refine wpAnyH_ready (rs := [4]) (by kernel_rfl) (by simp) (AllReadyH.cons rfl (fun K hK => ?_) (AllReadyH.nil))
        go_simp
        refine (HAT.out _ _ _ V2.out).mono ?_; rintro e v2 ⟨rfl, rfl⟩
        have R3 := R2
        have Y3 := Y2
        refine hK.out _ _ R3.out (fun hHeld => ?_)
        clear hK K
        refine wpAnyH_take (i := 5) (v := ?v5rxy) rfl (by kernel_rfl) (by kernel_rfl) (by kernel_rfl) (fun _ _ _ h => h) (Or.inl ⟨by rfl, ?hy5rxy⟩) (by assumption) ?rest5rxy
        case hy5rxy => (intro zz hSw; (try dsimp only at hSw); go_simp; (try with_reducible rfl))
        change wpAnyH _ _ _ _ _ _ _ (Act.put _ (some 15) _) _
        simp only [Act.put, List.setIfInBounds_toArray, List.set_cons_zero, List.set_cons_succ]
        refine wpAnyH_take (i := 6) (v := ?v6rxy) rfl (by kernel_rfl) (by kernel_rfl) (by kernel_rfl) (fun _ _ _ h => h) (Or.inl ⟨by rfl, ?hy6rxy⟩) (by assumption) ?rest6rxy
        case hy6rxy => (intro zz hSw; (try dsimp only at hSw); go_simp; (try with_reducible rfl))
        change wpAnyH _ _ _ _ _ _ _ (Act.put _ (some 16) _) _
        simp only [Act.put, List.setIfInBounds_toArray, List.set_cons_zero, List.set_cons_succ]
        refine wpAnyH_ready (rs := [8]) (by kernel_rfl) (by simp) (AllReadyH.cons rfl (fun K hK => ?_) (AllReadyH.nil))
        obtain ⟨y0, y1, y2, g0, g1, g2, -⟩ := id Y3.out
        have RF := Lib.hid (show Rq w q g c0 c1 (putQ3 _ p (.int .i64 (A + 1)) (.int .i64 0) (.string (tx []))) from R3.out.oput (by omega) (by omega) (by omega))
        have YF := Lib.hid (show Q3 p (A + 1) 0 [] (putQ3 _ p (.int .i64 (A + 1)) (.int .i64 0) (.string (tx []))) from Y3.out.put)
        go_simp
        refine hK.out _ _ RF.out (fun hHeld => ?_)
        clear hK K y0 y1 y2 g0 g1 g2
        refine wpAnyH_done (by kernel_rfl) ?_ _
        go_wp2_with fail
        go_meet
        exact ⟨p, rfl, YF.out, RF.out, hqp, hgp⟩
    · skip
      go_simp
      have R1 := Lib.hid (show Rq w q g c0 c1 ((w1.alloc (.cells #[.int .i64 0, .int .i64 0, .string ⟨#[]⟩] 25)).drew) from R0.out.next (bel1 w1.drew (.cells #[.int .i64 0, .int .i64 0, .string ⟨#[]⟩] 25)))
      have Y1 := Lib.hid (show Q3 (w1.heap.size) 0 0 [] ((w1.alloc (.cells #[.int .i64 0, .int .i64 0, .string ⟨#[]⟩] 25)).drew) from Q3.made 0 0 [] w1.drew _)
      have hgp : g < w1.heap.size := R0.out.2.2.2.1
      have hqp : q < w1.heap.size := R0.out.1.lt
      refine hK.out _ _ R1.out (fun hHeld => ?_)
      clear hK K
      generalize hu : (w1.alloc (.cells #[.int .i64 0, .int .i64 0, .string ⟨#[]⟩] 25)).drew = u at *
      clear hu
      generalize w1.heap.size = p at *
      refine wpAnyH_ready (rs := [0]) (by kernel_rfl) (by simp) (AllReadyH.cons rfl (fun K hK => ?_) (AllReadyH.nil))
      go_simp
      refine (l11Words_any _).mono ?_; rintro e v1 ⟨b, rfl, -, hv3, -, b3⟩
      have R2 := Lib.hid (R1.out.next b3)
      have Y2 := Lib.hid (Y1.out.next b3)
      have V2 := Lib.hid hv3; clear hv3 b3
      refine hK.out _ _ R2.out (fun hHeld => ?_)
      clear hK K
      refine wpAnyH_ready (rs := [4]) (by kernel_rfl) (by simp) (AllReadyH.cons rfl (fun K hK => ?_) (AllReadyH.nil))
      go_simp
      refine (HAT.out _ _ _ V2.out).mono ?_; rintro e v2 ⟨rfl, rfl⟩
      have R3 := R2
      have Y3 := Y2
      refine hK.out _ _ R3.out (fun hHeld => ?_)
      clear hK K
      refine wpAnyH_take (i := 5) (v := ?v5ry) rfl (by kernel_rfl) (by kernel_rfl) (by kernel_rfl) (fun _ _ _ h => h) (Or.inl ⟨by rfl, ?hy5ry⟩) (by assumption) ?rest5ry
      case hy5ry => (intro zz hSw; (try dsimp only at hSw); go_simp; (try with_reducible rfl))
      change wpAnyH _ _ _ _ _ _ _ (Act.put _ (some 15) _) _
      simp only [Act.put, List.setIfInBounds_toArray, List.set_cons_zero, List.set_cons_succ]
      refine wpAnyH_take (i := 6) (v := ?v6ry) rfl (by kernel_rfl) (by kernel_rfl) (by kernel_rfl) (fun _ _ _ h => h) (Or.inl ⟨by rfl, ?hy6ry⟩) (by assumption) ?rest6ry
      case hy6ry => (intro zz hSw; (try dsimp only at hSw); go_simp; (try with_reducible rfl))
      change wpAnyH _ _ _ _ _ _ _ (Act.put _ (some 16) _) _
      simp only [Act.put, List.setIfInBounds_toArray, List.set_cons_zero, List.set_cons_succ]
      refine wpAnyH_ready (rs := [8]) (by kernel_rfl) (by simp) (AllReadyH.cons rfl (fun K hK => ?_) (AllReadyH.nil))
      obtain ⟨y0, y1, y2, g0, g1, g2, -⟩ := id Y3.out
      have RF := Lib.hid (show Rq w q g c0 c1 (putQ3 _ p (.int .i64 (A + 1)) (.int .i64 0) (.string (tx []))) from R3.out.oput (by omega) (by omega) (by omega))
      have YF := Lib.hid (show Q3 p (A + 1) 0 [] (putQ3 _ p (.int .i64 (A + 1)) (.int .i64 0) (.string (tx []))) from Y3.out.put)
      go_simp
      refine hK.out _ _ RF.out (fun hHeld => ?_)
      clear hK K y0 y1 y2 g0 g1 g2
      refine wpAnyH_done (by kernel_rfl) ?_ _
      go_wp2_with fail
      go_meet
      exact ⟨p, rfl, YF.out, RF.out, hqp, hgp⟩
  case rest =>
    obtain ⟨p, rfl, hy, hr, hqp, hgp⟩ := hcut
    have Y0 := Lib.hid hy; clear hy
    have R0' := Lib.hid hr; clear hr
    have hsh : ∀ x ∈ c0 :: rr, x.length ≤ 4194304 := hsm'
    clear HAT HSP hsm' R0
    rw [show (c0 :: rr).length = rr.length + 1 from rfl] at HRP
    generalize hLL : rr.length + 1 = L at *
    by_cases hL2 : L = 2
    · subst hL2
      obtain ⟨d1, rfl⟩ : ∃ d1, rr = [d1] := by
        match rr, hLL with
        | [d], _ => exact ⟨d, rfl⟩
      have hd1 : d1.length ≤ 4194304 := hsh d1 (by simp)
      have hcc : c1 = some d1 := hc1
      rw [show (c0 :: [d1]).getD 1 [] = d1 from rfl] at HRP
      clear hsh hll hLL hc1 hsl'
      cases hu : isNu (A + 1)
      · cases hm : isNm (A + 1)
        · rw [hu, hm] at HT HRP
          have HR := Lib.hid (show rdP s = ⟨A + 1, 0, []⟩ from HRP.out)
          have hk0 : A + 1 ≠ 0 := fun e => by rw [e] at hu; exact absurd hu (by decide)
          clear hu hm HRP hl
          obtain ⟨y0, y1, y2, g0, g1, g2, -⟩ := id Y0.out
          obtain ⟨-, hx0, hx1, -, -, -⟩ := id R0'.out
          skip
          clear hx1
          go_wp2_with fail
          refine (HT.out _).mono ?_; rintro e w4 ⟨rfl, rfl⟩
          have YW := Y0
          have RW := R0'
          have HSH := Lib.hid (fun w => specShowOp_any (A + 1) 0 [] w (by first | omega | simp))
          obtain ⟨z, hz⟩ : ∃ z, tx (shO ⟨A + 1, 0, []⟩) = z := ⟨_, rfl⟩
          rw [hz] at HSH
          have qk : (A + 1 == 0) = false := beq_eq_false_iff_ne.2 hk0
          go_wp2_with fail
          clear y0 y1 y2 g0 g1 g2 hx0
          generalize hW : wc = W at *
          clear hW
          refine (HSH.out _).mono ?_; rintro e w6 ⟨rfl, b6⟩
          obtain ⟨y0, y1, y2, g0, g1, g2, -⟩ := YW.out.next b6
          obtain ⟨⟨z0, z1, z2, f0, f1, f2, -⟩, -, -, -, hB6, -⟩ := RW.out.next b6
          have B6 := Lib.hid hB6
          clear b6 hB6
          by_cases he : shO ⟨A + 1, 0, []⟩ = s
          · have HE := Lib.hid (rdP_yes HR.out hk0 he)
            have q2 : (z.toList == (tx s).toList) = true := by rw [← hz, he]; simp
            clear he hz
            go_wp2_with fail
            refine bodyPost_ret (v := roV (some ⟨A + 1, 0, []⟩)) (by simp [results, Tryd.results11, go_sem, z0, z1, z2, roV]) rfl ⟨by rw [HE.out], ?_⟩
            exact putQ3_below B6.out (Nat.le_refl _)
          · have HE := Lib.hid (rdP_no HR.out (Or.inr he))
            have q2 : (z.toList == (tx s).toList) = false := by rw [← hz]; exact tx_ne he
            clear he hz
            go_wp2_with fail
            refine bodyPost_ret (v := roV none) (by simp [results, Tryd.results11, go_sem, z0, z1, z2, roV]) rfl ⟨by rw [HE.out], ?_⟩
            exact putQ3_below B6.out (Nat.le_refl _)
        · rw [hu, hm] at HT HRP
          have HR := Lib.hid (show rdP s = ⟨A + 1, 0, d1⟩ from HRP.out)
          have hk0 : A + 1 ≠ 0 := fun e => by rw [e] at hm; exact absurd hm (by decide)
          clear hu hm HRP hl
          obtain ⟨y0, y1, y2, g0, g1, g2, -⟩ := id Y0.out
          obtain ⟨-, hx0, hx1, -, -, -⟩ := id R0'.out
          have hxd := hx1 d1 hcc
          clear hx1
          go_wp2_with fail
          refine (HT.out _).mono ?_; rintro e w4 ⟨rfl, rfl⟩
          have YW := Lib.hid (show Q3 p (A + 1) 0 d1 (wc.setCell ⟨p, 2, none⟩ (.string (tx d1))) from Y0.out.put2)
          have RW := Lib.hid (show Rq w q g c0 c1 (wc.setCell ⟨p, 2, none⟩ (.string (tx d1))) from R0'.out.oset (by omega) (by omega) (by omega))
          have HSH := Lib.hid (fun w => specShowOp_any (A + 1) 0 d1 w (by first | omega | simp))
          obtain ⟨z, hz⟩ : ∃ z, tx (shO ⟨A + 1, 0, d1⟩) = z := ⟨_, rfl⟩
          rw [hz] at HSH
          have qk : (A + 1 == 0) = false := beq_eq_false_iff_ne.2 hk0
          have YV := Lib.hid (YW.out.c0)
          have yv0 := YW.out.c0
          have yv1 := YW.out.c1
          have yv2 := YW.out.c2
          go_wp2_with fail
          clear YV yv0 yv1 yv2
          clear y0 y1 y2 g0 g1 g2 hx0
          try clear hxd
          generalize hW : wc.setCell ⟨p, 2, none⟩ (.string (tx d1)) = W at *
          clear hW
          refine (HSH.out _).mono ?_; rintro e w6 ⟨rfl, b6⟩
          obtain ⟨y0, y1, y2, g0, g1, g2, -⟩ := YW.out.next b6
          obtain ⟨⟨z0, z1, z2, f0, f1, f2, -⟩, -, -, -, hB6, -⟩ := RW.out.next b6
          have B6 := Lib.hid hB6
          clear b6 hB6
          by_cases he : shO ⟨A + 1, 0, d1⟩ = s
          · have HE := Lib.hid (rdP_yes HR.out hk0 he)
            have q2 : (z.toList == (tx s).toList) = true := by rw [← hz, he]; simp
            clear he hz
            go_wp2_with fail
            refine bodyPost_ret (v := roV (some ⟨A + 1, 0, d1⟩)) (by simp [results, Tryd.results11, go_sem, z0, z1, z2, roV]) rfl ⟨by rw [HE.out], ?_⟩
            exact putQ3_below B6.out (Nat.le_refl _)
          · have HE := Lib.hid (rdP_no HR.out (Or.inr he))
            have q2 : (z.toList == (tx s).toList) = false := by rw [← hz]; exact tx_ne he
            clear he hz
            go_wp2_with fail
            refine bodyPost_ret (v := roV none) (by simp [results, Tryd.results11, go_sem, z0, z1, z2, roV]) rfl ⟨by rw [HE.out], ?_⟩
            exact putQ3_below B6.out (Nat.le_refl _)
      · have hm : isNm (A + 1) = false := by unfold isNu at hu; cases h : isNm (A + 1) with
          | false => rfl
          | true => rw [h] at hu; cases hu
        rw [hu, hm] at HT HRP
        have HR := Lib.hid (show rdP s = ⟨A + 1, rdV d1, []⟩ from HRP.out)
        clear hu hm HRP hl
        obtain ⟨y0, y1, y2, g0, g1, g2, -⟩ := id Y0.out
        obtain ⟨-, hx0, hx1, -, -, -⟩ := id R0'.out
        have hxd := hx1 d1 hcc
        clear hx1
        go_wp2_with fail
        refine (HT.out _).mono ?_; rintro e w4 ⟨rfl, rfl⟩
        have YW := Lib.hid (show Q3 p (A + 1) (rdV d1) [] (wc.setCell ⟨p, 1, none⟩ (.int .i64 (rdV d1))) from Y0.out.put1)
        have RW := Lib.hid (show Rq w q g c0 c1 (wc.setCell ⟨p, 1, none⟩ (.int .i64 (rdV d1))) from R0'.out.oset (by omega) (by omega) (by omega))
        have HRD := Lib.hid (fun w => rdS_any d1 w (by omega))
        go_wp2_with fail
        refine (HRD.out _).mono ?_; rintro e w4 ⟨rfl, rfl⟩
        by_cases hk0 : A + 1 = 0
        · have HE := Lib.hid (rdP_no HR.out (Or.inl hk0))
          have qk : (A + 1 == 0) = true := by simp [hk0]
          obtain ⟨⟨z0, z1, z2, f0, f1, f2, -⟩, -, -, -, hB6, -⟩ := id RW.out
          have B6 := Lib.hid hB6; clear hB6
          have yv0 := YW.out.c0
          go_wp2_with fail
          refine bodyPost_ret (v := roV none) (by simp [results, Tryd.results11, go_sem, z0, z1, z2, roV]) rfl ⟨by rw [HE.out], ?_⟩
          exact putQ3_below B6.out (Nat.le_refl _)
        · skip
          have HSH := Lib.hid (fun w => specShowOp_any (A + 1) (rdV d1) [] w (by first | omega | simp))
          obtain ⟨z, hz⟩ : ∃ z, tx (shO ⟨A + 1, (rdV d1), []⟩) = z := ⟨_, rfl⟩
          rw [hz] at HSH
          have qk : (A + 1 == 0) = false := beq_eq_false_iff_ne.2 hk0
          have YV := Lib.hid (YW.out.c0)
          have yv0 := YW.out.c0
          have yv1 := YW.out.c1
          have yv2 := YW.out.c2
          go_wp2_with fail
          clear YV yv0 yv1 yv2
          clear y0 y1 y2 g0 g1 g2 hx0
          try clear hxd
          generalize hW : wc.setCell ⟨p, 1, none⟩ (.int .i64 (rdV d1)) = W at *
          clear hW
          refine (HSH.out _).mono ?_; rintro e w6 ⟨rfl, b6⟩
          obtain ⟨y0, y1, y2, g0, g1, g2, -⟩ := YW.out.next b6
          obtain ⟨⟨z0, z1, z2, f0, f1, f2, -⟩, -, -, -, hB6, -⟩ := RW.out.next b6
          have B6 := Lib.hid hB6
          clear b6 hB6
          by_cases he : shO ⟨A + 1, (rdV d1), []⟩ = s
          · have HE := Lib.hid (rdP_yes HR.out hk0 he)
            have q2 : (z.toList == (tx s).toList) = true := by rw [← hz, he]; simp
            clear he hz
            go_wp2_with fail
            refine bodyPost_ret (v := roV (some ⟨A + 1, (rdV d1), []⟩)) (by simp [results, Tryd.results11, go_sem, z0, z1, z2, roV]) rfl ⟨by rw [HE.out], ?_⟩
            exact putQ3_below B6.out (Nat.le_refl _)
          · have HE := Lib.hid (rdP_no HR.out (Or.inr he))
            have q2 : (z.toList == (tx s).toList) = false := by rw [← hz]; exact tx_ne he
            clear he hz
            go_wp2_with fail
            refine bodyPost_ret (v := roV none) (by simp [results, Tryd.results11, go_sem, z0, z1, z2, roV]) rfl ⟨by rw [HE.out], ?_⟩
            exact putQ3_below B6.out (Nat.le_refl _)
    · have hR2 := Lib.hid (show rdP s = ⟨A + 1, 0, []⟩ by rw [HRP.out]; simp [hL2])
      have qL : ((L : Int) == 2) = false := beq_eq_false_iff_ne.2 (by omega)
      clear HRP hl hsh hll hLL hc1 hsl'
      have HR := hR2
      cases hu : isNu (A + 1)
      · cases hm : isNm (A + 1)
        · rw [hu, hm] at HT
          have hk0 : A + 1 ≠ 0 := fun e => by rw [e] at hu; exact absurd hu (by decide)
          clear hu hm
          obtain ⟨y0, y1, y2, g0, g1, g2, -⟩ := id Y0.out
          obtain ⟨-, hx0, hx1, -, -, -⟩ := id R0'.out
          skip
          clear hx1
          go_wp2_with fail
          refine (HT.out _).mono ?_; rintro e w4 ⟨rfl, rfl⟩
          have YW := Y0
          have RW := R0'
          have HSH := Lib.hid (fun w => specShowOp_any (A + 1) 0 [] w (by first | omega | simp))
          obtain ⟨z, hz⟩ : ∃ z, tx (shO ⟨A + 1, 0, []⟩) = z := ⟨_, rfl⟩
          rw [hz] at HSH
          have qk : (A + 1 == 0) = false := beq_eq_false_iff_ne.2 hk0
          go_wp2_with fail
          clear y0 y1 y2 g0 g1 g2 hx0
          generalize hW : wc = W at *
          clear hW
          refine (HSH.out _).mono ?_; rintro e w6 ⟨rfl, b6⟩
          obtain ⟨y0, y1, y2, g0, g1, g2, -⟩ := YW.out.next b6
          obtain ⟨⟨z0, z1, z2, f0, f1, f2, -⟩, -, -, -, hB6, -⟩ := RW.out.next b6
          have B6 := Lib.hid hB6
          clear b6 hB6
          by_cases he : shO ⟨A + 1, 0, []⟩ = s
          · have HE := Lib.hid (rdP_yes HR.out hk0 he)
            have q2 : (z.toList == (tx s).toList) = true := by rw [← hz, he]; simp
            clear he hz
            go_wp2_with fail
            refine bodyPost_ret (v := roV (some ⟨A + 1, 0, []⟩)) (by simp [results, Tryd.results11, go_sem, z0, z1, z2, roV]) rfl ⟨by rw [HE.out], ?_⟩
            exact putQ3_below B6.out (Nat.le_refl _)
          · have HE := Lib.hid (rdP_no HR.out (Or.inr he))
            have q2 : (z.toList == (tx s).toList) = false := by rw [← hz]; exact tx_ne he
            clear he hz
            go_wp2_with fail
            refine bodyPost_ret (v := roV none) (by simp [results, Tryd.results11, go_sem, z0, z1, z2, roV]) rfl ⟨by rw [HE.out], ?_⟩
            exact putQ3_below B6.out (Nat.le_refl _)
        · rw [hu, hm] at HT
          have hk0 : A + 1 ≠ 0 := fun e => by rw [e] at hm; exact absurd hm (by decide)
          clear hu hm
          obtain ⟨y0, y1, y2, g0, g1, g2, -⟩ := id Y0.out
          obtain ⟨-, hx0, hx1, -, -, -⟩ := id R0'.out
          skip
          clear hx1
          go_wp2_with fail
          refine (HT.out _).mono ?_; rintro e w4 ⟨rfl, rfl⟩
          have YW := Y0
          have RW := R0'
          have HSH := Lib.hid (fun w => specShowOp_any (A + 1) 0 [] w (by first | omega | simp))
          obtain ⟨z, hz⟩ : ∃ z, tx (shO ⟨A + 1, 0, []⟩) = z := ⟨_, rfl⟩
          rw [hz] at HSH
          have qk : (A + 1 == 0) = false := beq_eq_false_iff_ne.2 hk0
          go_wp2_with fail
          clear y0 y1 y2 g0 g1 g2 hx0
          generalize hW : wc = W at *
          clear hW
          refine (HSH.out _).mono ?_; rintro e w6 ⟨rfl, b6⟩
          obtain ⟨y0, y1, y2, g0, g1, g2, -⟩ := YW.out.next b6
          obtain ⟨⟨z0, z1, z2, f0, f1, f2, -⟩, -, -, -, hB6, -⟩ := RW.out.next b6
          have B6 := Lib.hid hB6
          clear b6 hB6
          by_cases he : shO ⟨A + 1, 0, []⟩ = s
          · have HE := Lib.hid (rdP_yes HR.out hk0 he)
            have q2 : (z.toList == (tx s).toList) = true := by rw [← hz, he]; simp
            clear he hz
            go_wp2_with fail
            refine bodyPost_ret (v := roV (some ⟨A + 1, 0, []⟩)) (by simp [results, Tryd.results11, go_sem, z0, z1, z2, roV]) rfl ⟨by rw [HE.out], ?_⟩
            exact putQ3_below B6.out (Nat.le_refl _)
          · have HE := Lib.hid (rdP_no HR.out (Or.inr he))
            have q2 : (z.toList == (tx s).toList) = false := by rw [← hz]; exact tx_ne he
            clear he hz
            go_wp2_with fail
            refine bodyPost_ret (v := roV none) (by simp [results, Tryd.results11, go_sem, z0, z1, z2, roV]) rfl ⟨by rw [HE.out], ?_⟩
            exact putQ3_below B6.out (Nat.le_refl _)
      · have hm : isNm (A + 1) = false := by unfold isNu at hu; cases h : isNm (A + 1) with
          | false => rfl
          | true => rw [h] at hu; cases hu
        rw [hu, hm] at HT
        clear hu hm
        obtain ⟨y0, y1, y2, g0, g1, g2, -⟩ := id Y0.out
        obtain ⟨-, hx0, hx1, -, -, -⟩ := id R0'.out
        skip
        clear hx1
        go_wp2_with fail
        refine (HT.out _).mono ?_; rintro e w4 ⟨rfl, rfl⟩
        have YW := Y0
        have RW := R0'
        by_cases hk0 : A + 1 = 0
        · have HE := Lib.hid (rdP_no HR.out (Or.inl hk0))
          have qk : (A + 1 == 0) = true := by simp [hk0]
          obtain ⟨⟨z0, z1, z2, f0, f1, f2, -⟩, -, -, -, hB6, -⟩ := id RW.out
          have B6 := Lib.hid hB6; clear hB6
          have yv0 := YW.out.c0
          go_wp2_with fail
          refine bodyPost_ret (v := roV none) (by simp [results, Tryd.results11, go_sem, z0, z1, z2, roV]) rfl ⟨by rw [HE.out], ?_⟩
          exact putQ3_below B6.out (Nat.le_refl _)
        · skip
          have HSH := Lib.hid (fun w => specShowOp_any (A + 1) 0 [] w (by first | omega | simp))
          obtain ⟨z, hz⟩ : ∃ z, tx (shO ⟨A + 1, 0, []⟩) = z := ⟨_, rfl⟩
          rw [hz] at HSH
          have qk : (A + 1 == 0) = false := beq_eq_false_iff_ne.2 hk0
          go_wp2_with fail
          clear y0 y1 y2 g0 g1 g2 hx0
          generalize hW : wc = W at *
          clear hW
          refine (HSH.out _).mono ?_; rintro e w6 ⟨rfl, b6⟩
          obtain ⟨y0, y1, y2, g0, g1, g2, -⟩ := YW.out.next b6
          obtain ⟨⟨z0, z1, z2, f0, f1, f2, -⟩, -, -, -, hB6, -⟩ := RW.out.next b6
          have B6 := Lib.hid hB6
          clear b6 hB6
          by_cases he : shO ⟨A + 1, 0, []⟩ = s
          · have HE := Lib.hid (rdP_yes HR.out hk0 he)
            have q2 : (z.toList == (tx s).toList) = true := by rw [← hz, he]; simp
            clear he hz
            go_wp2_with fail
            refine bodyPost_ret (v := roV (some ⟨A + 1, 0, []⟩)) (by simp [results, Tryd.results11, go_sem, z0, z1, z2, roV]) rfl ⟨by rw [HE.out], ?_⟩
            exact putQ3_below B6.out (Nat.le_refl _)
          · have HE := Lib.hid (rdP_no HR.out (Or.inr he))
            have q2 : (z.toList == (tx s).toList) = false := by rw [← hz]; exact tx_ne he
            clear he hz
            go_wp2_with fail
            refine bodyPost_ret (v := roV none) (by simp [results, Tryd.results11, go_sem, z0, z1, z2, roV]) rfl ⟨by rw [HE.out], ?_⟩
            exact putQ3_below B6.out (Nat.le_refl _)
end Go.Proofs.YtoiphglfngkoiaaDoor.Cl
