/-
  Draws of instructions and of their texts: spec.l11DrawOp, l11DrawAny, DrawOpOk, DrawShowOp, DrawReadOp. (Made by gen_ou.py.)
-/
import Derived.Test.YtoiphglfngkoiaaDoorKs
import Derived.Test.YtoiphglfngkoiaaDoorCz
import Derived.Test.YtoiphglfngkoiaaDoorBo
import Derived.Test.YtoiphglfngkoiaaDoorOx
namespace Go.Proofs.YtoiphglfngkoiaaDoor.Cl
open Go.RowKit Wd Rp Cu Kp
set_option linter.unusedVariables false
set_option linter.unusedSimpArgs false
def NearO (k n : Int) (m : Tk) : Prop := -1 ≤ k ∧ k ≤ 12 ∧ -1 ≤ n ∧ n ≤ 1099511627776 ∧ m.length ≤ 9
def DrawsO (B b : Nat) (w : World) (e : Ending) (w' : World) : Prop := ∃ (k n : Int) (m : Tk), e = .returned (.agg #[.int .i64 k, .int .i64 n, .string (tx m)]) ∧ NearO k n m ∧ Cur B b w' ∧ But b w w'
theorem Q3.but {q b : Nat} {k n : Int} {m : Tk} {w w' : World} (h : Q3 q k n m w) (hb : But b w w') (hn : q ≠ b) : Q3 q k n m w' := h.same (hb.block q h.lt hn) hb.size
theorem as_tx (s : ByteArray) : ∃ m, s = tx m := ⟨s.data.toList, by unfold tx; simp⟩
set_option maxRecDepth 100000 in
theorem fromO_any (B b : Nat) (lo hi : Int) (w : World) (hc : Cur B b w) (h1 : lo ≤ hi) (h2 : -1000000 ≤ lo) (h3 : hi ≤ 100000000) : Calls Tryd.prog 43 #[.pointer (some ⟨b, 0, none⟩), .int .i64 lo, .int .i64 hi] w (Draws B b w lo hi) := by
  have HB := Lib.hid (below_any B b (hi - lo + 1) w hc (by omega) (by omega))
  go_enter Tryd.func43, Tryd.ntmps43
  go_wp2_with fail
  refine HB.out.mono ?_; rintro e w1 ⟨y, rfl, y0, y1, hc1, hw1⟩
  have H1 := Lib.hid (And.intro hc1 hw1); clear hc1 hw1
  go_wp2_with fail
  go_ret
  exact ⟨_, rfl, by omega, by omega, H1.out.1, H1.out.2⟩
set_option maxHeartbeats 16000000 in
set_option maxRecDepth 100000 in
theorem drawOp_any (B b : Nat) (w : World) (hc : Cur B b w) : Calls Tryd.prog 41 #[.pointer (some ⟨b, 0, none⟩)] w (DrawsO B b w) := by
  have hlt := hc.lt
  have HS := Lib.hid (St.alloc ⟨But.refl b w, hc, hlt⟩ : ∀ o, St w B b (w.alloc o)); clear hc
  have HZ := Lib.hid (Q3.made 0 0 [] w 25)
  go_enter Tryd.func41, Tryd.ntmps41
  go_wp2_with fail
  refine (below_any B b _ _ (HS.out _).cur (by decide) (by decide)).mono ?_; rintro e w1 ⟨y, rfl, y0, y1, hc1, hw1⟩
  have HS1 := Lib.hid ((HS.out _).draws hw1 hc1)
  have HZ1 := Lib.hid (HZ.out.but hw1 (by omega))
  clear hw1 hc1
  have hl1 : w.heap.size < w1.heap.size := HZ1.out.lt
  have hy : y = 0 ∨ y = 1 ∨ y = 2 ∨ y = 3 ∨ y = 4 ∨ y = 5 ∨ y = 6 ∨ y = 7 ∨ y = 8 ∨ y = 9 ∨ y = 10 := by omega
  clear y0 y1
  rcases hy with rfl | rfl | rfl | rfl | rfl | rfl | rfl | rfl | rfl | rfl | rfl
  · have HX := Lib.hid (Q3.made 1 0 [] w1 25)
    have HS2 := Lib.hid (HS1.out.alloc (.cells #[.int .i64 1, .int .i64 0, .string (tx [])] 25))
    have HZ2 := Lib.hid (HZ1.out.alloc (o := .cells #[.int .i64 1, .int .i64 0, .string (tx [])] 25))
    go_wp2_with fail
    rw [show (⟨#[]⟩ : ByteArray) = tx [] from rfl]
    generalize hw2 : w1.alloc (.cells #[.int .i64 1, .int .i64 0, .string (tx [])] 25) = w2 at *
    clear hw2
    have HT := Lib.hid (fun w => l11Tells_any 1 w)
    rw [show isNu 1 = true from by decide, show isNm 1 = false from by decide] at HT
    refine (HT.out _).mono ?_; rintro e w3 ⟨rfl, rfl⟩
    obtain ⟨x0, x1, x2, g0, g1, g2, -⟩ := id HX.out
    obtain ⟨z0, z1, z2, f0, f1, f2, -⟩ := id HZ2.out
    go_wp2_with fail
    refine (below_any B b _ _ HS2.out.cur (by decide) (by decide)).mono ?_; rintro e w3 ⟨n, rfl, n0, n1, hc3, hw3⟩
    have HS3 := Lib.hid (HS2.out.draws hw3 hc3)
    have HX3 := Lib.hid (HX.out.but hw3 (by omega))
    have HZ3 := Lib.hid (HZ2.out.but hw3 (by omega))
    clear hw3 hc3 x0 x1 x2 g0 g1 g2 z0 z1 z2 f0 f1 f2
    obtain ⟨x0, x1, x2, g0, g1, g2, -⟩ := id HX3.out
    obtain ⟨z0, z1, z2, f0, f1, f2, -⟩ := id HZ3.out
    have HF := Lib.hid (St.set3 (HS3.out.setNew (p := ⟨w1.heap.size, 1, none⟩) (Nat.le_of_lt hl1) (.int .i64 n)) (Nat.le_refl _) (.int .i64 1) (.int .i64 n) (.string (tx [])))
    go_wp2_with fail
    refine bodyPost_ret (v := .agg #[.int .i64 1, .int .i64 n, .string (tx [])]) (by simp [results, Tryd.results41, go_sem, z0, z1, z2]) rfl ⟨1, n, [], rfl, ⟨by decide, by decide, by omega, by omega, by decide⟩, HF.out.cur, HF.out.but⟩
  · have HX := Lib.hid (Q3.made 2 0 [] w1 25)
    have HS2 := Lib.hid (HS1.out.alloc (.cells #[.int .i64 2, .int .i64 0, .string (tx [])] 25))
    have HZ2 := Lib.hid (HZ1.out.alloc (o := .cells #[.int .i64 2, .int .i64 0, .string (tx [])] 25))
    go_wp2_with fail
    rw [show (⟨#[]⟩ : ByteArray) = tx [] from rfl]
    generalize hw2 : w1.alloc (.cells #[.int .i64 2, .int .i64 0, .string (tx [])] 25) = w2 at *
    clear hw2
    have HT := Lib.hid (fun w => l11Tells_any 2 w)
    rw [show isNu 2 = true from by decide, show isNm 2 = false from by decide] at HT
    refine (HT.out _).mono ?_; rintro e w3 ⟨rfl, rfl⟩
    obtain ⟨x0, x1, x2, g0, g1, g2, -⟩ := id HX.out
    obtain ⟨z0, z1, z2, f0, f1, f2, -⟩ := id HZ2.out
    go_wp2_with fail
    refine (below_any B b _ _ HS2.out.cur (by decide) (by decide)).mono ?_; rintro e w3 ⟨n, rfl, n0, n1, hc3, hw3⟩
    have HS3 := Lib.hid (HS2.out.draws hw3 hc3)
    have HX3 := Lib.hid (HX.out.but hw3 (by omega))
    have HZ3 := Lib.hid (HZ2.out.but hw3 (by omega))
    clear hw3 hc3 x0 x1 x2 g0 g1 g2 z0 z1 z2 f0 f1 f2
    obtain ⟨x0, x1, x2, g0, g1, g2, -⟩ := id HX3.out
    obtain ⟨z0, z1, z2, f0, f1, f2, -⟩ := id HZ3.out
    have HF := Lib.hid (St.set3 (HS3.out.setNew (p := ⟨w1.heap.size, 1, none⟩) (Nat.le_of_lt hl1) (.int .i64 n)) (Nat.le_refl _) (.int .i64 2) (.int .i64 n) (.string (tx [])))
    go_wp2_with fail
    refine bodyPost_ret (v := .agg #[.int .i64 2, .int .i64 n, .string (tx [])]) (by simp [results, Tryd.results41, go_sem, z0, z1, z2]) rfl ⟨2, n, [], rfl, ⟨by decide, by decide, by omega, by omega, by decide⟩, HF.out.cur, HF.out.but⟩
  · have HX := Lib.hid (Q3.made 3 0 [] w1 25)
    have HS2 := Lib.hid (HS1.out.alloc (.cells #[.int .i64 3, .int .i64 0, .string (tx [])] 25))
    have HZ2 := Lib.hid (HZ1.out.alloc (o := .cells #[.int .i64 3, .int .i64 0, .string (tx [])] 25))
    go_wp2_with fail
    rw [show (⟨#[]⟩ : ByteArray) = tx [] from rfl]
    generalize hw2 : w1.alloc (.cells #[.int .i64 3, .int .i64 0, .string (tx [])] 25) = w2 at *
    clear hw2
    have HT := Lib.hid (fun w => l11Tells_any 3 w)
    rw [show isNu 3 = false from by decide, show isNm 3 = true from by decide] at HT
    refine (HT.out _).mono ?_; rintro e w3 ⟨rfl, rfl⟩
    obtain ⟨x0, x1, x2, g0, g1, g2, -⟩ := id HX.out
    obtain ⟨z0, z1, z2, f0, f1, f2, -⟩ := id HZ2.out
    go_wp2_with fail
    refine (drawName_any B b _ HS2.out.cur).mono ?_; rintro e w3 ⟨s, rfl, hs, hc3, hw3⟩
    obtain ⟨m, rfl⟩ := as_tx s
    rw [tx_data] at hs
    have hml := nm_len hs
    have HS3 := Lib.hid (HS2.out.draws hw3 hc3)
    have HX3 := Lib.hid (HX.out.but hw3 (by omega))
    have HZ3 := Lib.hid (HZ2.out.but hw3 (by omega))
    clear hw3 hc3 hs x0 x1 x2 g0 g1 g2 z0 z1 z2 f0 f1 f2
    obtain ⟨x0, x1, x2, g0, g1, g2, -⟩ := id HX3.out
    obtain ⟨z0, z1, z2, f0, f1, f2, -⟩ := id HZ3.out
    have HF := Lib.hid (St.set3 (HS3.out.setNew (p := ⟨w1.heap.size, 2, none⟩) (Nat.le_of_lt hl1) (.string (tx m))) (Nat.le_refl _) (.int .i64 3) (.int .i64 0) (.string (tx m)))
    go_wp2_with fail
    refine bodyPost_ret (v := .agg #[.int .i64 3, .int .i64 0, .string (tx m)]) (by simp [results, Tryd.results41, go_sem, z0, z1, z2]) rfl ⟨3, 0, m, rfl, ⟨by decide, by decide, by decide, by decide, by omega⟩, HF.out.cur, HF.out.but⟩
  · have HX := Lib.hid (Q3.made 4 0 [] w1 25)
    have HS2 := Lib.hid (HS1.out.alloc (.cells #[.int .i64 4, .int .i64 0, .string (tx [])] 25))
    have HZ2 := Lib.hid (HZ1.out.alloc (o := .cells #[.int .i64 4, .int .i64 0, .string (tx [])] 25))
    go_wp2_with fail
    rw [show (⟨#[]⟩ : ByteArray) = tx [] from rfl]
    generalize hw2 : w1.alloc (.cells #[.int .i64 4, .int .i64 0, .string (tx [])] 25) = w2 at *
    clear hw2
    have HT := Lib.hid (fun w => l11Tells_any 4 w)
    rw [show isNu 4 = true from by decide, show isNm 4 = false from by decide] at HT
    refine (HT.out _).mono ?_; rintro e w3 ⟨rfl, rfl⟩
    obtain ⟨x0, x1, x2, g0, g1, g2, -⟩ := id HX.out
    obtain ⟨z0, z1, z2, f0, f1, f2, -⟩ := id HZ2.out
    go_wp2_with fail
    refine (below_any B b _ _ HS2.out.cur (by decide) (by decide)).mono ?_; rintro e w3 ⟨n, rfl, n0, n1, hc3, hw3⟩
    have HS3 := Lib.hid (HS2.out.draws hw3 hc3)
    have HX3 := Lib.hid (HX.out.but hw3 (by omega))
    have HZ3 := Lib.hid (HZ2.out.but hw3 (by omega))
    clear hw3 hc3 x0 x1 x2 g0 g1 g2 z0 z1 z2 f0 f1 f2
    obtain ⟨x0, x1, x2, g0, g1, g2, -⟩ := id HX3.out
    obtain ⟨z0, z1, z2, f0, f1, f2, -⟩ := id HZ3.out
    have HS4 := Lib.hid (HS3.out.setNew (p := ⟨w1.heap.size, 1, none⟩) (Nat.le_of_lt hl1) (.int .i64 n))
    have HX4 := Lib.hid (HX3.out.put1 (n' := n))
    have HZ4 := Lib.hid (HZ3.out.oset (p := w1.heap.size) (i := 1) (x := .int .i64 n) (by omega))
    have xk := HX4.out.c0
    go_wp2_with fail
    clear xk
    generalize hw4 : w3.setCell ⟨w1.heap.size, 1, none⟩ (.int .i64 n) = w4 at *
    clear hw4
    refine (below_any B b _ _ HS4.out.cur (by decide) (by decide)).mono ?_; rintro e w5 ⟨n', rfl, n0', n1', hc5, hw5⟩
    have HS5 := Lib.hid (HS4.out.draws hw5 hc5)
    have HX5 := Lib.hid (HX4.out.but hw5 (by omega))
    have HZ5 := Lib.hid (HZ4.out.but hw5 (by omega))
    clear hw5 hc5 x0 x1 x2 g0 g1 g2 z0 z1 z2 f0 f1 f2
    obtain ⟨x0, x1, x2, g0, g1, g2, -⟩ := id HX5.out
    obtain ⟨z0, z1, z2, f0, f1, f2, -⟩ := id HZ5.out
    have xk := (HX5.out.put1 (n' := 1 + n')).c0
    have HF := Lib.hid (St.set3 (HS5.out.setNew (p := ⟨w1.heap.size, 1, none⟩) (Nat.le_of_lt hl1) (.int .i64 (1 + n'))) (Nat.le_refl _) (.int .i64 4) (.int .i64 (1 + n')) (.string (tx [])))
    go_wp2_with fail
    refine bodyPost_ret (v := .agg #[.int .i64 4, .int .i64 (1 + n'), .string (tx [])]) (by simp [results, Tryd.results41, go_sem, z0, z1, z2]) rfl ⟨4, (1 + n'), [], rfl, ⟨by decide, by decide, by omega, by omega, by decide⟩, HF.out.cur, HF.out.but⟩
  · have HX := Lib.hid (Q3.made 5 0 [] w1 25)
    have HS2 := Lib.hid (HS1.out.alloc (.cells #[.int .i64 5, .int .i64 0, .string (tx [])] 25))
    have HZ2 := Lib.hid (HZ1.out.alloc (o := .cells #[.int .i64 5, .int .i64 0, .string (tx [])] 25))
    go_wp2_with fail
    rw [show (⟨#[]⟩ : ByteArray) = tx [] from rfl]
    generalize hw2 : w1.alloc (.cells #[.int .i64 5, .int .i64 0, .string (tx [])] 25) = w2 at *
    clear hw2
    have HT := Lib.hid (fun w => l11Tells_any 5 w)
    rw [show isNu 5 = false from by decide, show isNm 5 = true from by decide] at HT
    refine (HT.out _).mono ?_; rintro e w3 ⟨rfl, rfl⟩
    obtain ⟨x0, x1, x2, g0, g1, g2, -⟩ := id HX.out
    obtain ⟨z0, z1, z2, f0, f1, f2, -⟩ := id HZ2.out
    go_wp2_with fail
    refine (drawName_any B b _ HS2.out.cur).mono ?_; rintro e w3 ⟨s, rfl, hs, hc3, hw3⟩
    obtain ⟨m, rfl⟩ := as_tx s
    rw [tx_data] at hs
    have hml := nm_len hs
    have HS3 := Lib.hid (HS2.out.draws hw3 hc3)
    have HX3 := Lib.hid (HX.out.but hw3 (by omega))
    have HZ3 := Lib.hid (HZ2.out.but hw3 (by omega))
    clear hw3 hc3 hs x0 x1 x2 g0 g1 g2 z0 z1 z2 f0 f1 f2
    obtain ⟨x0, x1, x2, g0, g1, g2, -⟩ := id HX3.out
    obtain ⟨z0, z1, z2, f0, f1, f2, -⟩ := id HZ3.out
    have HF := Lib.hid (St.set3 (HS3.out.setNew (p := ⟨w1.heap.size, 2, none⟩) (Nat.le_of_lt hl1) (.string (tx m))) (Nat.le_refl _) (.int .i64 5) (.int .i64 0) (.string (tx m)))
    go_wp2_with fail
    refine bodyPost_ret (v := .agg #[.int .i64 5, .int .i64 0, .string (tx m)]) (by simp [results, Tryd.results41, go_sem, z0, z1, z2]) rfl ⟨5, 0, m, rfl, ⟨by decide, by decide, by decide, by decide, by omega⟩, HF.out.cur, HF.out.but⟩
  · have HX := Lib.hid (Q3.made 6 0 [] w1 25)
    have HS2 := Lib.hid (HS1.out.alloc (.cells #[.int .i64 6, .int .i64 0, .string (tx [])] 25))
    have HZ2 := Lib.hid (HZ1.out.alloc (o := .cells #[.int .i64 6, .int .i64 0, .string (tx [])] 25))
    go_wp2_with fail
    rw [show (⟨#[]⟩ : ByteArray) = tx [] from rfl]
    generalize hw2 : w1.alloc (.cells #[.int .i64 6, .int .i64 0, .string (tx [])] 25) = w2 at *
    clear hw2
    have HT := Lib.hid (fun w => l11Tells_any 6 w)
    rw [show isNu 6 = false from by decide, show isNm 6 = true from by decide] at HT
    refine (HT.out _).mono ?_; rintro e w3 ⟨rfl, rfl⟩
    obtain ⟨x0, x1, x2, g0, g1, g2, -⟩ := id HX.out
    obtain ⟨z0, z1, z2, f0, f1, f2, -⟩ := id HZ2.out
    go_wp2_with fail
    refine (drawName_any B b _ HS2.out.cur).mono ?_; rintro e w3 ⟨s, rfl, hs, hc3, hw3⟩
    obtain ⟨m, rfl⟩ := as_tx s
    rw [tx_data] at hs
    have hml := nm_len hs
    have HS3 := Lib.hid (HS2.out.draws hw3 hc3)
    have HX3 := Lib.hid (HX.out.but hw3 (by omega))
    have HZ3 := Lib.hid (HZ2.out.but hw3 (by omega))
    clear hw3 hc3 hs x0 x1 x2 g0 g1 g2 z0 z1 z2 f0 f1 f2
    obtain ⟨x0, x1, x2, g0, g1, g2, -⟩ := id HX3.out
    obtain ⟨z0, z1, z2, f0, f1, f2, -⟩ := id HZ3.out
    have HF := Lib.hid (St.set3 (HS3.out.setNew (p := ⟨w1.heap.size, 2, none⟩) (Nat.le_of_lt hl1) (.string (tx m))) (Nat.le_refl _) (.int .i64 6) (.int .i64 0) (.string (tx m)))
    go_wp2_with fail
    refine bodyPost_ret (v := .agg #[.int .i64 6, .int .i64 0, .string (tx m)]) (by simp [results, Tryd.results41, go_sem, z0, z1, z2]) rfl ⟨6, 0, m, rfl, ⟨by decide, by decide, by decide, by decide, by omega⟩, HF.out.cur, HF.out.but⟩
  · have HX := Lib.hid (Q3.made 7 0 [] w1 25)
    have HS2 := Lib.hid (HS1.out.alloc (.cells #[.int .i64 7, .int .i64 0, .string (tx [])] 25))
    have HZ2 := Lib.hid (HZ1.out.alloc (o := .cells #[.int .i64 7, .int .i64 0, .string (tx [])] 25))
    go_wp2_with fail
    rw [show (⟨#[]⟩ : ByteArray) = tx [] from rfl]
    generalize hw2 : w1.alloc (.cells #[.int .i64 7, .int .i64 0, .string (tx [])] 25) = w2 at *
    clear hw2
    have HT := Lib.hid (fun w => l11Tells_any 7 w)
    rw [show isNu 7 = true from by decide, show isNm 7 = false from by decide] at HT
    refine (HT.out _).mono ?_; rintro e w3 ⟨rfl, rfl⟩
    obtain ⟨x0, x1, x2, g0, g1, g2, -⟩ := id HX.out
    obtain ⟨z0, z1, z2, f0, f1, f2, -⟩ := id HZ2.out
    go_wp2_with fail
    refine (below_any B b _ _ HS2.out.cur (by decide) (by decide)).mono ?_; rintro e w3 ⟨n, rfl, n0, n1, hc3, hw3⟩
    have HS3 := Lib.hid (HS2.out.draws hw3 hc3)
    have HX3 := Lib.hid (HX.out.but hw3 (by omega))
    have HZ3 := Lib.hid (HZ2.out.but hw3 (by omega))
    clear hw3 hc3 x0 x1 x2 g0 g1 g2 z0 z1 z2 f0 f1 f2
    obtain ⟨x0, x1, x2, g0, g1, g2, -⟩ := id HX3.out
    obtain ⟨z0, z1, z2, f0, f1, f2, -⟩ := id HZ3.out
    have HS4 := Lib.hid (HS3.out.setNew (p := ⟨w1.heap.size, 1, none⟩) (Nat.le_of_lt hl1) (.int .i64 n))
    have HX4 := Lib.hid (HX3.out.put1 (n' := n))
    have HZ4 := Lib.hid (HZ3.out.oset (p := w1.heap.size) (i := 1) (x := .int .i64 n) (by omega))
    have xk := HX4.out.c0
    go_wp2_with fail
    clear xk
    generalize hw4 : w3.setCell ⟨w1.heap.size, 1, none⟩ (.int .i64 n) = w4 at *
    clear hw4
    refine (below_any B b _ _ HS4.out.cur (by decide) (by decide)).mono ?_; rintro e w5 ⟨n', rfl, n0', n1', hc5, hw5⟩
    have HS5 := Lib.hid (HS4.out.draws hw5 hc5)
    have HX5 := Lib.hid (HX4.out.but hw5 (by omega))
    have HZ5 := Lib.hid (HZ4.out.but hw5 (by omega))
    clear hw5 hc5 x0 x1 x2 g0 g1 g2 z0 z1 z2 f0 f1 f2
    obtain ⟨x0, x1, x2, g0, g1, g2, -⟩ := id HX5.out
    obtain ⟨z0, z1, z2, f0, f1, f2, -⟩ := id HZ5.out
    have xk := (HX5.out.put1 (n' := n')).c0
    have HF := Lib.hid (St.set3 (HS5.out.setNew (p := ⟨w1.heap.size, 1, none⟩) (Nat.le_of_lt hl1) (.int .i64 n')) (Nat.le_refl _) (.int .i64 7) (.int .i64 n') (.string (tx [])))
    go_wp2_with fail
    refine bodyPost_ret (v := .agg #[.int .i64 7, .int .i64 n', .string (tx [])]) (by simp [results, Tryd.results41, go_sem, z0, z1, z2]) rfl ⟨7, n', [], rfl, ⟨by decide, by decide, by omega, by omega, by decide⟩, HF.out.cur, HF.out.but⟩
  · have HX := Lib.hid (Q3.made 8 0 [] w1 25)
    have HS2 := Lib.hid (HS1.out.alloc (.cells #[.int .i64 8, .int .i64 0, .string (tx [])] 25))
    have HZ2 := Lib.hid (HZ1.out.alloc (o := .cells #[.int .i64 8, .int .i64 0, .string (tx [])] 25))
    go_wp2_with fail
    rw [show (⟨#[]⟩ : ByteArray) = tx [] from rfl]
    generalize hw2 : w1.alloc (.cells #[.int .i64 8, .int .i64 0, .string (tx [])] 25) = w2 at *
    clear hw2
    have HT := Lib.hid (fun w => l11Tells_any 8 w)
    rw [show isNu 8 = true from by decide, show isNm 8 = false from by decide] at HT
    refine (HT.out _).mono ?_; rintro e w3 ⟨rfl, rfl⟩
    obtain ⟨x0, x1, x2, g0, g1, g2, -⟩ := id HX.out
    obtain ⟨z0, z1, z2, f0, f1, f2, -⟩ := id HZ2.out
    go_wp2_with fail
    refine (below_any B b _ _ HS2.out.cur (by decide) (by decide)).mono ?_; rintro e w3 ⟨n, rfl, n0, n1, hc3, hw3⟩
    have HS3 := Lib.hid (HS2.out.draws hw3 hc3)
    have HX3 := Lib.hid (HX.out.but hw3 (by omega))
    have HZ3 := Lib.hid (HZ2.out.but hw3 (by omega))
    clear hw3 hc3 x0 x1 x2 g0 g1 g2 z0 z1 z2 f0 f1 f2
    obtain ⟨x0, x1, x2, g0, g1, g2, -⟩ := id HX3.out
    obtain ⟨z0, z1, z2, f0, f1, f2, -⟩ := id HZ3.out
    have HS4 := Lib.hid (HS3.out.setNew (p := ⟨w1.heap.size, 1, none⟩) (Nat.le_of_lt hl1) (.int .i64 n))
    have HX4 := Lib.hid (HX3.out.put1 (n' := n))
    have HZ4 := Lib.hid (HZ3.out.oset (p := w1.heap.size) (i := 1) (x := .int .i64 n) (by omega))
    have xk := HX4.out.c0
    go_wp2_with fail
    clear xk
    generalize hw4 : w3.setCell ⟨w1.heap.size, 1, none⟩ (.int .i64 n) = w4 at *
    clear hw4
    refine (below_any B b _ _ HS4.out.cur (by decide) (by decide)).mono ?_; rintro e w5 ⟨n', rfl, n0', n1', hc5, hw5⟩
    have HS5 := Lib.hid (HS4.out.draws hw5 hc5)
    have HX5 := Lib.hid (HX4.out.but hw5 (by omega))
    have HZ5 := Lib.hid (HZ4.out.but hw5 (by omega))
    clear hw5 hc5 x0 x1 x2 g0 g1 g2 z0 z1 z2 f0 f1 f2
    obtain ⟨x0, x1, x2, g0, g1, g2, -⟩ := id HX5.out
    obtain ⟨z0, z1, z2, f0, f1, f2, -⟩ := id HZ5.out
    have xk := (HX5.out.put1 (n' := n')).c0
    have HF := Lib.hid (St.set3 (HS5.out.setNew (p := ⟨w1.heap.size, 1, none⟩) (Nat.le_of_lt hl1) (.int .i64 n')) (Nat.le_refl _) (.int .i64 8) (.int .i64 n') (.string (tx [])))
    go_wp2_with fail
    refine bodyPost_ret (v := .agg #[.int .i64 8, .int .i64 n', .string (tx [])]) (by simp [results, Tryd.results41, go_sem, z0, z1, z2]) rfl ⟨8, n', [], rfl, ⟨by decide, by decide, by omega, by omega, by decide⟩, HF.out.cur, HF.out.but⟩
  · have HX := Lib.hid (Q3.made 9 0 [] w1 25)
    have HS2 := Lib.hid (HS1.out.alloc (.cells #[.int .i64 9, .int .i64 0, .string (tx [])] 25))
    have HZ2 := Lib.hid (HZ1.out.alloc (o := .cells #[.int .i64 9, .int .i64 0, .string (tx [])] 25))
    go_wp2_with fail
    rw [show (⟨#[]⟩ : ByteArray) = tx [] from rfl]
    generalize hw2 : w1.alloc (.cells #[.int .i64 9, .int .i64 0, .string (tx [])] 25) = w2 at *
    clear hw2
    have HT := Lib.hid (fun w => l11Tells_any 9 w)
    rw [show isNu 9 = false from by decide, show isNm 9 = false from by decide] at HT
    refine (HT.out _).mono ?_; rintro e w3 ⟨rfl, rfl⟩
    obtain ⟨x0, x1, x2, g0, g1, g2, -⟩ := id HX.out
    obtain ⟨z0, z1, z2, f0, f1, f2, -⟩ := id HZ2.out
    have HF := Lib.hid (St.set3 HS2.out (Nat.le_refl _) (.int .i64 9) (.int .i64 0) (.string (tx [])))
    go_wp2_with fail
    refine bodyPost_ret (v := .agg #[.int .i64 9, .int .i64 0, .string (tx [])]) (by simp [results, Tryd.results41, go_sem, z0, z1, z2]) rfl ⟨9, 0, [], rfl, ⟨by decide, by decide, by decide, by decide, by decide⟩, HF.out.cur, HF.out.but⟩
  · have HX := Lib.hid (Q3.made 10 0 [] w1 25)
    have HS2 := Lib.hid (HS1.out.alloc (.cells #[.int .i64 10, .int .i64 0, .string (tx [])] 25))
    have HZ2 := Lib.hid (HZ1.out.alloc (o := .cells #[.int .i64 10, .int .i64 0, .string (tx [])] 25))
    go_wp2_with fail
    rw [show (⟨#[]⟩ : ByteArray) = tx [] from rfl]
    generalize hw2 : w1.alloc (.cells #[.int .i64 10, .int .i64 0, .string (tx [])] 25) = w2 at *
    clear hw2
    have HT := Lib.hid (fun w => l11Tells_any 10 w)
    rw [show isNu 10 = false from by decide, show isNm 10 = false from by decide] at HT
    refine (HT.out _).mono ?_; rintro e w3 ⟨rfl, rfl⟩
    obtain ⟨x0, x1, x2, g0, g1, g2, -⟩ := id HX.out
    obtain ⟨z0, z1, z2, f0, f1, f2, -⟩ := id HZ2.out
    have HF := Lib.hid (St.set3 HS2.out (Nat.le_refl _) (.int .i64 10) (.int .i64 0) (.string (tx [])))
    go_wp2_with fail
    refine bodyPost_ret (v := .agg #[.int .i64 10, .int .i64 0, .string (tx [])]) (by simp [results, Tryd.results41, go_sem, z0, z1, z2]) rfl ⟨10, 0, [], rfl, ⟨by decide, by decide, by decide, by decide, by decide⟩, HF.out.cur, HF.out.but⟩
  · have HX := Lib.hid (Q3.made 11 0 [] w1 25)
    have HS2 := Lib.hid (HS1.out.alloc (.cells #[.int .i64 11, .int .i64 0, .string (tx [])] 25))
    have HZ2 := Lib.hid (HZ1.out.alloc (o := .cells #[.int .i64 11, .int .i64 0, .string (tx [])] 25))
    go_wp2_with fail
    rw [show (⟨#[]⟩ : ByteArray) = tx [] from rfl]
    generalize hw2 : w1.alloc (.cells #[.int .i64 11, .int .i64 0, .string (tx [])] 25) = w2 at *
    clear hw2
    have HT := Lib.hid (fun w => l11Tells_any 11 w)
    rw [show isNu 11 = false from by decide, show isNm 11 = false from by decide] at HT
    refine (HT.out _).mono ?_; rintro e w3 ⟨rfl, rfl⟩
    obtain ⟨x0, x1, x2, g0, g1, g2, -⟩ := id HX.out
    obtain ⟨z0, z1, z2, f0, f1, f2, -⟩ := id HZ2.out
    have HF := Lib.hid (St.set3 HS2.out (Nat.le_refl _) (.int .i64 11) (.int .i64 0) (.string (tx [])))
    go_wp2_with fail
    refine bodyPost_ret (v := .agg #[.int .i64 11, .int .i64 0, .string (tx [])]) (by simp [results, Tryd.results41, go_sem, z0, z1, z2]) rfl ⟨11, 0, [], rfl, ⟨by decide, by decide, by decide, by decide, by decide⟩, HF.out.cur, HF.out.but⟩
set_option maxHeartbeats 16000000 in
set_option maxRecDepth 100000 in
theorem drawAnyO_any (B b : Nat) (w : World) (hc : Cur B b w) : Calls Tryd.prog 22 #[.pointer (some ⟨b, 0, none⟩)] w (DrawsO B b w) := by
  have hlt := hc.lt
  have HS := Lib.hid (St.alloc ⟨But.refl b w, hc, hlt⟩ : ∀ o, St w B b (w.alloc o)); clear hc
  have HZ := Lib.hid (Q3.made 0 0 [] w 25)
  go_enter Tryd.func22, Tryd.ntmps22
  go_wp2_with fail
  refine (drawOp_any B b _ (HS.out _).cur).mono ?_; rintro e w1 ⟨k, n, m, rfl, hn, hc1, hw1⟩
  have HN := Lib.hid hn; clear hn
  have HS1 := Lib.hid ((HS.out _).draws hw1 hc1)
  have HZ1 := Lib.hid (HZ.out.but hw1 (by omega))
  clear hw1 hc1
  have hl1 : w.heap.size < w1.heap.size := HZ1.out.lt
  have HX2 := Lib.hid (Q3.made k n m w1 25)
  have HS2 := Lib.hid (HS1.out.alloc (.cells #[.int .i64 k, .int .i64 n, .string (tx m)] 25))
  have HZ2 := Lib.hid (HZ1.out.alloc (o := .cells #[.int .i64 k, .int .i64 n, .string (tx m)] 25))
  go_wp2_with fail
  generalize hw2 : w1.alloc (.cells #[.int .i64 k, .int .i64 n, .string (tx m)] 25) = w2 at *
  clear hw2
  refine (once_any B b _ _ HS2.out.cur (by decide) (by decide)).mono ?_; rintro e w3 ⟨t, rfl, hc3, hw3⟩
  have HS3 := Lib.hid (HS2.out.draws hw3 hc3)
  have HX3 := Lib.hid (HX2.out.but hw3 (by omega))
  have HZ3 := Lib.hid (HZ2.out.but hw3 (by omega))
  clear hw3 hc3
  cases t
  · obtain ⟨x0, x1, x2, g0, g1, g2, -⟩ := id HX3.out
    obtain ⟨z0, z1, z2, f0, f1, f2, -⟩ := id HZ3.out
    have HF := Lib.hid (St.set3 HS3.out (Nat.le_refl _) (.int .i64 k) (.int .i64 n) (.string (tx m)))
    go_wp2_with fail
    refine bodyPost_ret (v := .agg #[.int .i64 k, .int .i64 n, .string (tx m)]) (by simp [results, Tryd.results22, go_sem, z0, z1, z2]) rfl ⟨k, n, m, rfl, HN.out, HF.out.cur, HF.out.but⟩
  · go_wp2_with fail
    refine (below_any B b _ _ HS3.out.cur (by decide) (by decide)).mono ?_; rintro e w4 ⟨y, rfl, y0, y1, hc4, hw4⟩
    have HS4 := Lib.hid (HS3.out.draws hw4 hc4)
    have HX4 := Lib.hid (HX3.out.but hw4 (by omega))
    have HZ4 := Lib.hid (HZ3.out.but hw4 (by omega))
    clear hw4 hc4
    have hy : y = 0 ∨ y = 1 ∨ y = 2 := by omega
    clear y0 y1
    rcases hy with rfl | rfl | rfl
    · go_wp2_with fail
      refine (fromO_any B b _ _ _ HS4.out.cur (by decide) (by decide) (by decide)).mono ?_; rintro e w5 ⟨k', rfl, k0, k1, hc5, hw5⟩
      have HS5 := Lib.hid (HS4.out.draws hw5 hc5)
      obtain ⟨x0, x1, x2, g0, g1, g2, -⟩ := HX4.out.but hw5 (by omega)
      obtain ⟨z0, z1, z2, f0, f1, f2, -⟩ := HZ4.out.but hw5 (by omega)
      clear hw5 hc5
      have HF := Lib.hid (St.set3 (HS5.out.setNew (p := ⟨w1.heap.size, 0, none⟩) (Nat.le_of_lt hl1) (.int .i64 k')) (Nat.le_refl _) (.int .i64 k') (.int .i64 n) (.string (tx m)))
      go_wp2_with fail
      refine bodyPost_ret (v := .agg #[.int .i64 k', .int .i64 n, .string (tx m)]) (by simp [results, Tryd.results22, go_sem, z0, z1, z2]) rfl ⟨k', n, m, rfl, ⟨by omega, by omega, HN.out.2.2.1, HN.out.2.2.2.1, HN.out.2.2.2.2⟩, HF.out.cur, HF.out.but⟩
    · have hlt4 : b < w4.heap.size := HS4.out.cur.lt
      have HZa := Lib.hid (fun o => HZ4.out.alloc (o := o))
      have HXa := Lib.hid (fun o => HX4.out.alloc (o := o))
      go_wp2_with fail
      refine (below_any B b _ _ (HS4.out.alloc _).cur (by decide) (by decide)).mono ?_; rintro e w5 ⟨y, rfl, y0', y1', hc5, hw5⟩
      obtain ⟨j, rfl⟩ := Int.eq_ofNat_of_zero_le y0'
      have HS5 := Lib.hid ((HS4.out.alloc _).draws hw5 hc5)
      obtain ⟨x0, x1, x2, g0, g1, g2, -⟩ := (HXa.out _).but hw5 (by omega)
      obtain ⟨z0, z1, z2, f0, f1, f2, -⟩ := (HZa.out _).but hw5 (by omega)
      obtain ⟨t', ht', hb1, hb2⟩ : ∃ t' : Int, w5.cell? ⟨w4.heap.size, j, none⟩ = some (.int .i64 t') ∧ -1 ≤ t' ∧ t' ≤ 1099511627776 := by
        have hp := pick_any hlt4 hw5 j
        have hn : j < 4 := by omega
        match j, hn, hp with
        | 0, _, hp => exact ⟨_, hp, by decide, by decide⟩
        | 1, _, hp => exact ⟨_, hp, by decide, by decide⟩
        | 2, _, hp => exact ⟨_, hp, by decide, by decide⟩
        | 3, _, hp => exact ⟨_, hp, by decide, by decide⟩
      clear hw5 hc5
      have n1 : (j : Int) < 4 := by omega
      have HF := Lib.hid (St.set3 (HS5.out.setNew (p := ⟨w1.heap.size, 1, none⟩) (Nat.le_of_lt hl1) (.int .i64 t')) (Nat.le_refl _) (.int .i64 k) (.int .i64 t') (.string (tx m)))
      go_wp2_with fail
      refine bodyPost_ret (v := .agg #[.int .i64 k, .int .i64 t', .string (tx m)]) (by simp [results, Tryd.results22, go_sem, z0, z1, z2]) rfl ⟨k, t', m, rfl, ⟨HN.out.1, HN.out.2.1, hb1, hb2, HN.out.2.2.2.2⟩, HF.out.cur, HF.out.but⟩
    · go_wp2_with fail
      refine (drawNameAny_any B b _ HS4.out.cur).mono ?_; rintro e w5 ⟨s, rfl, hs, hc5, hw5⟩
      obtain ⟨m', rfl⟩ := as_tx s
      rw [tx_size] at hs
      have HS5 := Lib.hid (HS4.out.draws hw5 hc5)
      obtain ⟨x0, x1, x2, g0, g1, g2, -⟩ := HX4.out.but hw5 (by omega)
      obtain ⟨z0, z1, z2, f0, f1, f2, -⟩ := HZ4.out.but hw5 (by omega)
      clear hw5 hc5
      have HF := Lib.hid (St.set3 (HS5.out.setNew (p := ⟨w1.heap.size, 2, none⟩) (Nat.le_of_lt hl1) (.string (tx m'))) (Nat.le_refl _) (.int .i64 k) (.int .i64 n) (.string (tx m')))
      go_wp2_with fail
      refine bodyPost_ret (v := .agg #[.int .i64 k, .int .i64 n, .string (tx m')]) (by simp [results, Tryd.results22, go_sem, z0, z1, z2]) rfl ⟨k, n, m', rfl, ⟨HN.out.1, HN.out.2.1, HN.out.2.2.1, HN.out.2.2.2.1, hs⟩, HF.out.cur, HF.out.but⟩
/-- A drawn instruction, in a world that has only grown. -/
def DrewO (w : World) (e : Ending) (w' : World) : Prop := ∃ (k n : Int) (m : Tk), e = .returned (.agg #[.int .i64 k, .int .i64 n, .string (tx m)]) ∧ NearO k n m ∧ Below w.heap.size w w'
theorem belQ3 {B q : Nat} {a w : World} (h : Below B a w) (hq : B ≤ q) (x y z : Value) : Below B a (((w.setCell ⟨q, 0, none⟩ x).setCell ⟨q, 1, none⟩ y).setCell ⟨q, 2, none⟩ z) := putQ3_below h hq
set_option maxHeartbeats 2000000 in
theorem drawOpOk_any (w : World) (a : Option Addr) (len cap : Nat) (hb : IsBytes w a len) (hl : len ≤ 4096) : Calls Tryd.prog 18 #[.slice a len cap] w (DrewO w) := by
  have HB := Lib.hid hb; clear hb
  have HZ := Lib.hid (Q3.made 0 0 [] w 25)
  have HA := Lib.hid (bel1 w)
  go_enter Tryd.func18, Tryd.ntmps18
  go_wp2_with fail
  refine (new_any _ a len cap (isBytes_next HB.out (HA.out _)) hl).mono ?_; rintro e w1 ⟨b, rfl, hc1, hw1⟩
  have hbw : w.heap.size + 1 ≤ b := by have := hc1.le; simpa using this
  have HZ1 := Lib.hid (HZ.out.next hw1)
  have B1 := Lib.hid (bel_tr (HA.out _) hw1 (Nat.le_refl _))
  have HC := Lib.hid hc1; clear hw1 hc1
  go_wp2_with fail
  refine (drawAnyO_any _ b _ HC.out).mono ?_; rintro e w2 ⟨k, n, m, rfl, hn, hc2, hw2⟩
  obtain ⟨z0, z1, z2, f0, f1, f2, -⟩ := HZ1.out.but hw2 (by omega)
  have B2 := Lib.hid (B1.out.trans (hw2.below (B := w.heap.size) (by omega) B1.out.size)); clear hw2 hc2
  have HN := Lib.hid hn; clear hn
  generalize hq : w.heap.size = q at *
  have hqB : q ≤ q := Nat.le_refl _
  go_wp2_with fail
  refine bodyPost_ret (v := .agg #[.int .i64 k, .int .i64 n, .string (tx m)]) (by simp [results, Tryd.results18, go_sem, z0, z1, z2]) rfl ⟨k, n, m, rfl, HN.out, ?_⟩
  subst hq
  exact belQ3 B2.out hqB _ _ _
set_option maxHeartbeats 2000000 in
theorem drawShowO_any (w : World) (a : Option Addr) (len cap : Nat) (hb : IsBytes w a len) (hl : len ≤ 4096) : Calls Tryd.prog 7 #[.slice a len cap] w (DrewO w) := by
  have HB := Lib.hid hb; clear hb
  have HZ := Lib.hid (Q3.made 0 0 [] w 25)
  have HA := Lib.hid (bel1 w)
  go_enter Tryd.func7, Tryd.ntmps7
  go_wp2_with fail
  refine (drawOpOk_any _ a len cap (isBytes_next HB.out (HA.out _)) hl).mono ?_; rintro e w2 ⟨k, n, m, rfl, hn, hw2⟩
  obtain ⟨z0, z1, z2, f0, f1, f2, -⟩ := HZ.out.next hw2
  have B2 := Lib.hid (bel_tr (HA.out _) hw2 (Nat.le_refl _)); clear hw2
  have HN := Lib.hid hn; clear hn
  generalize hq : w.heap.size = q at *
  have hqB : q ≤ q := Nat.le_refl _
  go_wp2_with fail
  refine bodyPost_ret (v := .agg #[.int .i64 k, .int .i64 n, .string (tx m)]) (by simp [results, Tryd.results7, go_sem, z0, z1, z2]) rfl ⟨k, n, m, rfl, HN.out, ?_⟩
  subst hq
  exact belQ3 B2.out hqB _ _ _
theorem shO_size (k n : Int) (m : Tk) : (shO ⟨k, n, m⟩).length ≤ 40 := by
  cases h : opB ⟨k, n, m⟩ with
  | false => rw [shO_no h]; simp
  | true =>
    obtain ⟨hk, hw⟩ := op_kind h
    have h1 := wd_len (k - 1).toNat
    rw [shO_yes h, List.length_append]
    dsimp only
    generalize (wdO.getD (k - 1).toNat []).length = L at *
    unfold odO
    dsimp only
    rcases hw with ⟨-, hu, -, n0, n1, -⟩ | ⟨-, hu, hn, -, hm⟩ | ⟨-, hu, hn, -, -⟩
    · rw [if_pos hu]
      have := itoa_size n n0 n1
      rw [tx_size] at this
      simp; omega
    · rw [hu, hn]
      have := nm_len hm
      simp; omega
    · rw [hu, hn]
      simp; omega
set_option maxHeartbeats 2000000 in
theorem drawReadO_any (w : World) (a : Option Addr) (len cap : Nat) (hb : IsBytes w a len) (hl : len ≤ 4096) : Calls Tryd.prog 9 #[.slice a len cap] w (DrewT 102 w) := by
  have HB := Lib.hid hb; clear hb
  go_enter Tryd.func9, Tryd.ntmps9
  go_wp2_with fail
  refine (new_any w a len cap HB.out hl).mono ?_; rintro e w1 ⟨b, rfl, hc1, hw1⟩
  have hbw : w.heap.size ≤ b := hc1.le
  have B1 := Lib.hid hw1
  have HC := Lib.hid hc1; clear hw1 hc1
  go_wp2_with fail
  refine (drawAnyO_any _ b _ HC.out).mono ?_; rintro e w2 ⟨k, n, m, rfl, hn, hc2, hw2⟩
  have S2 := Lib.hid (show St w1 w.heap.size b w2 from ⟨hw2, hc2, HC.out.lt⟩); clear hw2 hc2
  have h5 := hn.2.2.2.2
  clear hn
  have hsz : (tx (shO ⟨k, n, m⟩)).size ≤ 40 := by rw [tx_size]; exact shO_size k n m
  have HSP := Lib.hid (fun w => specShowOp_any k n m w (by omega))
  generalize tx (shO ⟨k, n, m⟩) = o at hsz HSP
  go_wp2_with fail
  refine (HSP.out _).mono ?_; rintro e w3 ⟨rfl, b3⟩
  have S3 := Lib.hid (S2.out.next b3); clear b3
  go_wp2_with fail
  refine (once_any _ b _ _ S3.out.cur (by decide) (by decide)).mono ?_; rintro e w4 ⟨q, rfl, hc4, hw4⟩
  have S4 := Lib.hid (S3.out.draws hw4 hc4); clear hw4 hc4
  cases q
  · go_wp2_with fail
    go_ret
    exact ⟨o, rfl, by omega, B1.out.trans (S4.out.but.below hbw B1.out.size)⟩
  · go_wp2_with fail
    refine (bend_any _ b o ⟨#[97, 48, 32, 116, 101]⟩ _ S4.out.cur (by omega) (by decide) (by decide)).mono ?_; rintro e w5 ⟨y, rfl, hy, hc5, hw5⟩
    have S5 := Lib.hid (S4.out.draws hw5 hc5); clear hw5 hc5
    go_wp2_with fail
    go_ret
    exact ⟨y, rfl, by omega, B1.out.trans (S5.out.but.below hbw B1.out.size)⟩
end Go.Proofs.YtoiphglfngkoiaaDoor.Cl
