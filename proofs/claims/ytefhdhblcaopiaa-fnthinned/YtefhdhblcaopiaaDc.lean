/-
  Draws of cells (spec.l4DrawCell, l4DrawAny): what they give, the cursor still a cursor, nothing else turned; a cell equals itself.
-/
import Derived.Test.YtefhdhblcaopiaaKs
import Derived.Test.YtefhdhblcaopiaaZk
import Derived.Laws.StructEq
namespace Go.Proofs.Ytefhdhblcaopiaa.Cl
open Go.RowKit Wd Rp Cu Kp
set_option linter.unusedVariables false
/-- A drawn cell: short texts, numbers in range. -/
def Near (r s : ByteArray) (t v : Int) : Prop := r.size ≤ 9 ∧ s.size ≤ 9 ∧ -1 ≤ t ∧ t ≤ 1000001 ∧ -4611686018427387904 ≤ v ∧ v ≤ 4611686018427387904
def DrawsC (B b : Nat) (w : World) (e : Ending) (w' : World) : Prop := ∃ (r s : ByteArray) (t v : Int) (g : Bool), e = .returned (.agg #[.string r, .string s, .int .i64 t, .int .i64 v, .bool g]) ∧ Near r s t v ∧ Cur B b w' ∧ But b w w'
theorem Zc.but {q b : Nat} {w w' : World} (h : Zc q w) (hb : But b w w') (hn : q ≠ b) : Zc q w' := by
  obtain ⟨⟨h0, h1, h2, h3, h4⟩, ⟨f0, f1, f2, f3, f4⟩, hl⟩ := h
  have e : w'.heap[q]? = w.heap[q]? := hb.block q hl hn
  exact ⟨⟨(World.cell?_of_block (w := w) e).trans h0, (World.cell?_of_block (w := w) e).trans h1, (World.cell?_of_block (w := w) e).trans h2, (World.cell?_of_block (w := w) e).trans h3, (World.cell?_of_block (w := w) e).trans h4⟩,
    ⟨(World.frozen?_of_block (w := w) e).trans f0, (World.frozen?_of_block (w := w) e).trans f1, (World.frozen?_of_block (w := w) e).trans f2, (World.frozen?_of_block (w := w) e).trans f3, (World.frozen?_of_block (w := w) e).trans f4⟩, Nat.lt_of_lt_of_le hl hb.size⟩
/-- Block q is a cell of the call's own. -/
def Yc (q : Nat) (r s : ByteArray) (t v : Int) (g : Bool) (w : World) : Prop := (w.cell? ⟨q, 0, none⟩ = some (.string r) ∧ w.cell? ⟨q, 1, none⟩ = some (.string s) ∧ w.cell? ⟨q, 2, none⟩ = some (.int .i64 t) ∧ w.cell? ⟨q, 3, none⟩ = some (.int .i64 v) ∧ w.cell? ⟨q, 4, none⟩ = some (.bool g)) ∧
    (w.frozen? ⟨q, 0, none⟩ = false ∧ w.frozen? ⟨q, 1, none⟩ = false ∧ w.frozen? ⟨q, 2, none⟩ = false ∧ w.frozen? ⟨q, 3, none⟩ = false ∧ w.frozen? ⟨q, 4, none⟩ = false) ∧ q < w.heap.size
theorem Yc.made (r s : ByteArray) (t v : Int) (g : Bool) (w : World) (T : Nat) : Yc w.heap.size r s t v g (w.alloc (.cells #[.string r, .string s, .int .i64 t, .int .i64 v, .bool g] T)) := by
  have hp : (w.alloc (.cells #[.string r, .string s, .int .i64 t, .int .i64 v, .bool g] T)).heap[w.heap.size]? = some (.cells #[.string r, .string s, .int .i64 t, .int .i64 v, .bool g] T (0, 0)) := by show (w.heap.push _)[w.heap.size]? = _; simp
  obtain ⟨h0, h1, h2, h3, h4, f0, f1, f2, f3, f4⟩ := five_of hp
  exact ⟨⟨h0, h1, h2, h3, h4⟩, ⟨f0, f1, f2, f3, f4⟩, by simp⟩
theorem Yc.same {q : Nat} {r s : ByteArray} {t v : Int} {g : Bool} {w w' : World} (h : Yc q r s t v g w) (e : w'.heap[q]? = w.heap[q]?) (hs : w.heap.size ≤ w'.heap.size) : Yc q r s t v g w' := by
  obtain ⟨⟨h0, h1, h2, h3, h4⟩, ⟨f0, f1, f2, f3, f4⟩, hl⟩ := h
  exact ⟨⟨(World.cell?_of_block (w := w) e).trans h0, (World.cell?_of_block (w := w) e).trans h1, (World.cell?_of_block (w := w) e).trans h2, (World.cell?_of_block (w := w) e).trans h3, (World.cell?_of_block (w := w) e).trans h4⟩,
    ⟨(World.frozen?_of_block (w := w) e).trans f0, (World.frozen?_of_block (w := w) e).trans f1, (World.frozen?_of_block (w := w) e).trans f2, (World.frozen?_of_block (w := w) e).trans f3, (World.frozen?_of_block (w := w) e).trans f4⟩, Nat.lt_of_lt_of_le hl hs⟩
theorem Yc.but {q b : Nat} {r s : ByteArray} {t v : Int} {g : Bool} {w w' : World} (h : Yc q r s t v g w) (hb : But b w w') (hn : q ≠ b) : Yc q r s t v g w' := h.same (hb.block q h.2.2 hn) hb.size
theorem Yc.next {q : Nat} {r s : ByteArray} {t v : Int} {g : Bool} {w w' : World} (h : Yc q r s t v g w) (hb : Below w.heap.size w w') : Yc q r s t v g w' := h.same (hb.block q h.2.2) hb.size
theorem St.set5 {w0 w : World} {B b n : Nat} (h : St w0 B b w) (hn : w0.heap.size ≤ n) (x0 x1 x2 x3 x4 : Value) : St w0 B b (((((w.setCell ⟨n, 0, none⟩ x0).setCell ⟨n, 1, none⟩ x1).setCell ⟨n, 2, none⟩ x2).setCell ⟨n, 3, none⟩ x3).setCell ⟨n, 4, none⟩ x4) :=
  ((((h.setNew (p := ⟨n, 0, none⟩) hn _).setNew (p := ⟨n, 1, none⟩) hn _).setNew (p := ⟨n, 2, none⟩) hn _).setNew (p := ⟨n, 3, none⟩) hn _).setNew (p := ⟨n, 4, none⟩) hn _
set_option maxRecDepth 100000 in
set_option maxHeartbeats 4000000 in
theorem drawCell_any (B b : Nat) (w : World) (hc : Cur B b w) : Calls Try.prog 106 #[.pointer (some ⟨b, 0, none⟩)] w (DrawsC B b w) := by
  have hlt := hc.lt
  have HS := Lib.hid (St.alloc ⟨But.refl b w, hc, hlt⟩ : ∀ o, St w B b (w.alloc o)); clear hc
  have HZ := Lib.hid (Zc.made w)
  go_enter Try.func106, Try.ntmps106
  go_wp2_with fail
  refine (draw_any B b _ (HS.out _).cur).mono ?_; rintro e w1 ⟨r, s, t, rfl, hk, hc1, hw1⟩
  have HK := Lib.hid hk.near
  have HZ1 := Lib.hid ((HZ.out _).but hw1 (by omega))
  have HS1 := Lib.hid ((HS.out _).draws hw1 hc1); clear hw1 hc1 hk
  go_wp2_with fail
  refine (drawWord_any B b _ HS1.out.cur).mono ?_; rintro e w2 ⟨v, rfl, v0, v1, hc2, hw2⟩
  have HZ2 := Lib.hid (HZ1.out.but hw2 (by omega))
  have HS2 := Lib.hid (HS1.out.draws hw2 hc2); clear hw2 hc2
  have HY := Lib.hid (Yc.made r s t v false w2)
  have HZ2a := Lib.hid (fun o => HZ2.out.next (bel1 w2 o))
  have hl2 : w.heap.size < w2.heap.size := HZ2.out.2.2
  go_wp2_with fail
  refine (once_any B b _ _ (HS2.out.alloc _).cur (by decide) (by decide)).mono ?_; rintro e w3 ⟨q, rfl, hc3, hw3⟩
  have HS3 := Lib.hid ((HS2.out.alloc _).draws hw3 hc3)
  have HY3 := Lib.hid ((HY.out _).but hw3 (by omega))
  have HZ3 := Lib.hid ((HZ2a.out _).but hw3 (by omega)); clear hw3 hc3
  generalize hm : w2.heap.size = m at *
  generalize hq : w.heap.size = p at *
  have nn : p ≠ m := by omega
  have nn' : m ≠ p := by omega
  obtain ⟨⟨y0, y1, y2, y3, y4⟩, ⟨g0, g1, g2, g3, g4⟩, -⟩ := HY3.out
  obtain ⟨⟨z0, z1, z2, z3, z4⟩, ⟨f0, f1, f2, f3, f4⟩, -⟩ := HZ3.out
  cases q
  · go_wp2_with fail
    refine bodyPost_ret (v := .agg #[.string r, .string s, .int .i64 t, .int .i64 v, .bool false]) (by simp [results, Try.results106, go_sem, z0, z1, z2, z3, z4]) rfl ⟨r, s, t, v, false, rfl, ⟨HK.out.1, HK.out.2.1, HK.out.2.2.1, HK.out.2.2.2, by omega, by omega⟩, (St.set5 HS3.out (by omega) _ _ _ _ _).cur, (St.set5 HS3.out (by omega) _ _ _ _ _).but⟩
  · go_wp2_with fail
    refine bodyPost_ret (v := .agg #[.string r, .string s, .int .i64 t, .int .i64 0, .bool true]) (by simp [results, Try.results106, go_sem, z0, z1, z2, z3, z4]) rfl ⟨r, s, t, 0, true, rfl, ⟨HK.out.1, HK.out.2.1, HK.out.2.2.1, HK.out.2.2.2, by omega, by omega⟩, (St.set5 ((HS3.out.setNew (p := ⟨m, 4, none⟩) (by show _ ≤ m; omega) _).setNew (p := ⟨m, 3, none⟩) (by show _ ≤ m; omega) _) (by omega) _ _ _ _ _).cur, (St.set5 ((HS3.out.setNew (p := ⟨m, 4, none⟩) (by show _ ≤ m; omega) _).setNew (p := ⟨m, 3, none⟩) (by show _ ≤ m; omega) _) (by omega) _ _ _ _ _).but⟩
set_option maxRecDepth 100000 in
set_option maxHeartbeats 8000000 in
theorem drawAnyC_any (B b : Nat) (w : World) (hc : Cur B b w) : Calls Try.prog 58 #[.pointer (some ⟨b, 0, none⟩)] w (DrawsC B b w) := by
  have hlt := hc.lt
  have HS := Lib.hid (St.alloc ⟨But.refl b w, hc, hlt⟩ : ∀ o, St w B b (w.alloc o)); clear hc
  have HZ := Lib.hid (Zc.made w)
  go_enter Try.func58, Try.ntmps58
  go_wp2_with fail
  refine (drawCell_any B b _ (HS.out _).cur).mono ?_; rintro e w2 ⟨r, s, t, v, g, rfl, hk, hc2, hw2⟩
  have HK := Lib.hid hk
  have HZ2 := Lib.hid ((HZ.out _).but hw2 (by omega))
  have HS2 := Lib.hid ((HS.out _).draws hw2 hc2); clear hw2 hc2 hk
  have HY := Lib.hid (Yc.made r s t v g w2)
  have HZ2a := Lib.hid (fun o => HZ2.out.next (bel1 w2 o))
  have hl2 : w.heap.size < w2.heap.size := HZ2.out.2.2
  go_wp2_with fail
  refine (once_any B b _ _ (HS2.out.alloc _).cur (by decide) (by decide)).mono ?_; rintro e w3 ⟨q, rfl, hc3, hw3⟩
  have HS3 := Lib.hid ((HS2.out.alloc _).draws hw3 hc3)
  have HY3 := Lib.hid ((HY.out _).but hw3 (by omega))
  have HZ3 := Lib.hid ((HZ2a.out _).but hw3 (by omega)); clear hw3 hc3
  generalize hm : w2.heap.size = m at *
  generalize hq : w.heap.size = p at *
  have nn : p ≠ m := by omega
  have nn' : m ≠ p := by omega
  cases q
  · obtain ⟨⟨y0, y1, y2, y3, y4⟩, ⟨g0, g1, g2, g3, g4⟩, -⟩ := HY3.out
    obtain ⟨⟨z0, z1, z2, z3, z4⟩, ⟨f0, f1, f2, f3, f4⟩, -⟩ := HZ3.out
    go_wp2_with fail
    refine bodyPost_ret (v := .agg #[.string r, .string s, .int .i64 t, .int .i64 v, .bool g]) (by simp [results, Try.results58, go_sem, z0, z1, z2, z3, z4]) rfl ⟨r, s, t, v, g, rfl, HK.out, (St.set5 HS3.out (by omega) _ _ _ _ _).cur, (St.set5 HS3.out (by omega) _ _ _ _ _).but⟩
  · go_wp2_with fail
    refine (below_any B b _ _ HS3.out.cur (by decide) (by decide)).mono ?_; rintro e w4 ⟨y, rfl, y0, y1, hc4, hw4⟩
    have HS4 := Lib.hid (HS3.out.draws hw4 hc4)
    have HY4 := Lib.hid (HY3.out.but hw4 (by omega))
    have HZ4 := Lib.hid (HZ3.out.but hw4 (by omega)); clear hw4 hc4
    by_cases e0 : y = 0
    · subst e0
      go_wp2_with fail
      refine (drawKey_any B b _ HS4.out.cur).mono ?_; rintro e w5 ⟨r', s', t', rfl, hk', hc5, hw5⟩
      have HS5 := Lib.hid (HS4.out.draws hw5 hc5)
      obtain ⟨⟨y0, y1, y2, y3, y4⟩, ⟨g0, g1, g2, g3, g4⟩, -⟩ := HY4.out.but hw5 (by omega)
      obtain ⟨⟨z0, z1, z2, z3, z4⟩, ⟨f0, f1, f2, f3, f4⟩, -⟩ := HZ4.out.but hw5 (by omega)
      have HN := Lib.hid (show Near r' s' t' v from ⟨hk'.1, hk'.2.1, hk'.2.2.1, hk'.2.2.2, HK.out.2.2.2.2⟩)
      clear hw5 hc5 hk'
      have HF := Lib.hid (St.set5 (n := p) (((HS5.out.setNew (p := ⟨m, 0, none⟩) (by show _ ≤ m; omega) (.string r')).setNew (p := ⟨m, 1, none⟩) (by show _ ≤ m; omega) (.string s')).setNew (p := ⟨m, 2, none⟩) (by show _ ≤ m; omega) (.int .i64 t')) (by omega) (.string r') (.string s') (.int .i64 t') (.int .i64 v) (.bool g))
      go_wp2_with fail
      refine bodyPost_ret (v := .agg #[.string r', .string s', .int .i64 t', .int .i64 v, .bool g]) (by simp [results, Try.results58, go_sem, z0, z1, z2, z3, z4]) rfl ⟨r', s', t', v, g, rfl, HN.out, HF.out.cur, HF.out.but⟩
    by_cases e1 : y = 1
    · subst e1
      go_wp2_with fail
      refine (drawAny_any B b _ HS4.out.cur).mono ?_; rintro e w5 ⟨v', rfl, v0', v1', hc5, hw5⟩
      have HS5 := Lib.hid (HS4.out.draws hw5 hc5)
      obtain ⟨⟨y0, y1, y2, y3, y4⟩, ⟨g0, g1, g2, g3, g4⟩, -⟩ := HY4.out.but hw5 (by omega)
      obtain ⟨⟨z0, z1, z2, z3, z4⟩, ⟨f0, f1, f2, f3, f4⟩, -⟩ := HZ4.out.but hw5 (by omega)
      have HN := Lib.hid (show Near r s t v' from ⟨HK.out.1, HK.out.2.1, HK.out.2.2.1, HK.out.2.2.2.1, v0', v1'⟩)
      clear hw5 hc5
      have HF := Lib.hid (St.set5 (n := p) (HS5.out.setNew (p := ⟨m, 3, none⟩) (by show _ ≤ m; omega) (.int .i64 v')) (by omega) (.string r) (.string s) (.int .i64 t) (.int .i64 v') (.bool g))
      go_wp2_with fail
      refine bodyPost_ret (v := .agg #[.string r, .string s, .int .i64 t, .int .i64 v', .bool g]) (by simp [results, Try.results58, go_sem, z0, z1, z2, z3, z4]) rfl ⟨r, s, t, v', g, rfl, HN.out, HF.out.cur, HF.out.but⟩
    · obtain rfl : y = 2 := by omega
      obtain ⟨⟨y0, y1, y2, y3, y4⟩, ⟨g0, g1, g2, g3, g4⟩, -⟩ := HY4.out
      obtain ⟨⟨z0, z1, z2, z3, z4⟩, ⟨f0, f1, f2, f3, f4⟩, -⟩ := HZ4.out
      have HF := Lib.hid (St.set5 (n := p) (HS4.out.setNew (p := ⟨m, 4, none⟩) (by show _ ≤ m; omega) (.bool (!g))) (by omega) (.string r) (.string s) (.int .i64 t) (.int .i64 v) (.bool (!g)))
      go_wp2_with fail
      refine bodyPost_ret (v := .agg #[.string r, .string s, .int .i64 t, .int .i64 v, .bool (!g)]) (by simp [results, Try.results58, go_sem, z0, z1, z2, z3, z4]) rfl ⟨r, s, t, v, !g, rfl, HK.out, HF.out.cur, HF.out.but⟩
theorem str_self (d : Nat) (a : ByteArray) (w : World) : (Op.equalIn (d + 1) 9 (.string a) (.string a)).run Try.prog w = .ok true w := by
  have h : (a == a) = true := by
    obtain ⟨x⟩ := a
    show (x == x) = true
    simp
  rw [Op.equalIn]
  simp only [Sem.run_bind, run_underlying Try.underlying9, Result.andThen_ok]
  show Result.ok (a == a) w = _
  rw [h]
theorem key_self (d : Nat) (r s : ByteArray) (t : Int) (w : World) : (Op.equalIn (d + 2) 29 (.agg #[.string r, .string s, .int .i64 t]) (.agg #[.string r, .string s, .int .i64 t])).run Try.prog w = .ok true w := by
  have u3 := Try.underlying9
  have a3 := Try.isAgg9
  have z3 := Try.sizeOf9
  have u2 := Try.underlying2
  have a2 := Try.isAgg2
  have z2 := Try.sizeOf2
  have s9 := fun a w => str_self d a w
  have hS : Try.prog.underlying 29 = some (.struct (Try.prog.fieldsOf 29)) := by kernel_rfl
  rw [show d + 2 = (d + 1) + 1 from rfl, run_equalIn_struct w (d + 1) 29 _ _ hS (by kernel_rfl)]
  simp only [Program.fieldsOf, Try.underlying29]
  go_simp
theorem cell_self (r s : ByteArray) (t v : Int) (g : Bool) (w : World) : (Op.equalIn 10000 31 (.agg #[.string r, .string s, .int .i64 t, .int .i64 v, .bool g]) (.agg #[.string r, .string s, .int .i64 t, .int .i64 v, .bool g])).run Try.prog w = .ok true w := by
  have u2 := Try.underlying2
  have a2 := Try.isAgg2
  have z2 := Try.sizeOf2
  have u4 := Try.underlying4
  have a4 := Try.isAgg4
  have z4 := Try.sizeOf4
  have aK := Try.isAgg29
  have zK := Try.sizeOf29
  have kk := fun r s t w => key_self 9997 r s t w
  have hS : Try.prog.underlying 31 = some (.struct (Try.prog.fieldsOf 31)) := by kernel_rfl
  rw [show (10000 : Nat) = 9999 + 1 from rfl, run_equalIn_struct w 9999 31 _ _ hS (by kernel_rfl)]
  simp only [Program.fieldsOf, Try.underlying31]
  go_simp
end Go.Proofs.Ytefhdhblcaopiaa.Cl
