/-
  Contracts of the draws of names and keys (spec.l2DrawName, l2DrawAny, l2Draw, l2DrawKey), without l1Bend: what they give, the cursor still a cursor, nothing else turned.
  Draws of cells (spec.l4DrawCell, l4DrawAny): what they give, the cursor still a cursor, nothing else turned; a cell equals itself.
-/
import Derived.Test.YtdalncgbbkeimaaGreatDoorCu
import Derived.Test.YtdalncgbbkeimaaGreatDoorKy
import Derived.Test.YtdalncgbbkeimaaGreatDoorCa
import Derived.Laws.StructEq
namespace Go.Proofs.YtdalncgbbkeimaaGreatDoor.Cl
open Go.RowKit Wd Rp Cu Kp
/-- Block n is a key of this call's own, of value zero. -/
def Zb (n : Nat) (w : World) : Prop := w.cell? ⟨n, 0, none⟩ = some (.string ⟨#[]⟩) ∧ w.cell? ⟨n, 1, none⟩ = some (.string ⟨#[]⟩) ∧ w.cell? ⟨n, 2, none⟩ = some (.int .i64 0) ∧ w.frozen? ⟨n, 0, none⟩ = false ∧ w.frozen? ⟨n, 1, none⟩ = false ∧ w.frozen? ⟨n, 2, none⟩ = false ∧ n < w.heap.size
theorem Zb.made (w : World) (T : Nat) : Zb w.heap.size (w.alloc (.cells #[.string ⟨#[]⟩, .string ⟨#[]⟩, .int .i64 0] T)) := by
  have hp : (w.alloc (.cells #[.string ⟨#[]⟩, .string ⟨#[]⟩, .int .i64 0] T)).heap[w.heap.size]? = some (.cells #[.string ⟨#[]⟩, .string ⟨#[]⟩, .int .i64 0] T) := by show (w.heap.push _)[w.heap.size]? = _; simp
  refine ⟨?_, ?_, ?_, ?_, ?_, ?_, by simp⟩ <;> (first | (simp only [World.cell?, hp]; rfl) | (simp only [World.frozen?, hp]; rfl))
theorem Zb.next {n : Nat} {w w' : World} (h : Zb n w) (hb : Below w.heap.size w w') : Zb n w' := by
  obtain ⟨h0, h1, h2, f0, f1, f2, h3⟩ := h
  have e : w'.heap[n]? = w.heap[n]? := hb.block n h3
  exact ⟨(World.cell?_of_block (w := w) e).trans h0, (World.cell?_of_block (w := w) e).trans h1, (World.cell?_of_block (w := w) e).trans h2, (World.frozen?_of_block (w := w) e).trans f0, (World.frozen?_of_block (w := w) e).trans f1, (World.frozen?_of_block (w := w) e).trans f2, Nat.lt_of_lt_of_le h3 hb.size⟩
/-- A text drawn, of at most n bytes. -/
def DrawsT (B b : Nat) (w : World) (n : Nat) (e : Ending) (w' : World) : Prop := ∃ t : ByteArray, e = .returned (.string t) ∧ t.size ≤ n ∧ Cur B b w' ∧ But b w w'
/-- A slice literal, kept while a cursor draws. -/
theorem pick_any {w w1 : World} {b T : Nat} {vs : Array Value} (hb : b < w.heap.size) (h : But b (w.alloc (.cells vs T)) w1) (k : Nat) : w1.cell? ⟨w.heap.size, k, none⟩ = vs[k]? := by
  have hp : (w.alloc (.cells vs T)).heap[w.heap.size]? = some (.cells vs T) := by show (w.heap.push _)[w.heap.size]? = _; simp
  have hc : (w.alloc (.cells vs T)).cell? ⟨w.heap.size, k, none⟩ = vs[k]? := by simp only [World.cell?, hp]; rfl
  exact (h.cell (p := ⟨w.heap.size, k, none⟩) (by simp) (by show w.heap.size ≠ b; omega)).trans hc
/-- A name drawn. -/
def DrawsN (B b : Nat) (w : World) (e : Ending) (w' : World) : Prop := ∃ s : ByteArray, e = .returned (.string s) ∧ nmB s.data.toList = true ∧ Cur B b w' ∧ But b w w'
set_option maxRecDepth 100000 in
set_option maxHeartbeats 1000000 in
theorem drawName_any (B b : Nat) (w : World) (hc : Cur B b w) : Calls Tryz.prog 86 #[.pointer (some ⟨b, 0, none⟩)] w (DrawsN B b w) := by
  have hlt := hc.lt
  have HC := Lib.hid hc; clear hc
  go_enter Tryz.func86, Tryz.ntmps86
  go_wp2_with fail
  refine (below_any B b _ _ (HC.out.alloc _) (by decide) (by decide)).mono ?_; rintro e w2 ⟨y, rfl, y0, y1, hc2, hw2⟩
  obtain ⟨n, rfl⟩ := Int.eq_ofNat_of_zero_le y0
  have hp := pick_any hlt hw2 n
  obtain ⟨s, hs, hnm⟩ : ∃ s : ByteArray, w2.cell? ⟨w.heap.size, n, none⟩ = some (.string s) ∧ nmB s.data.toList = true := by
    have hn : n < 6 := by omega
    match n, hn, hp with
    | 0, _, hp => exact ⟨_, hp, by decide⟩
    | 1, _, hp => exact ⟨_, hp, by decide⟩
    | 2, _, hp => exact ⟨_, hp, by decide⟩
    | 3, _, hp => exact ⟨_, hp, by decide⟩
    | 4, _, hp => exact ⟨_, hp, by decide⟩
    | 5, _, hp => exact ⟨_, hp, by decide⟩
  clear hp
  have n1 : (n : Int) < 6 := by omega
  have HP := Lib.hid (And.intro hnm (And.intro hc2 (((But.refl b w).alloc _).trans hw2))); clear hnm hc2 hw2
  go_wp2_with fail
  go_ret
  exact ⟨s, rfl, HP.out⟩
set_option maxRecDepth 100000 in
set_option maxHeartbeats 1000000 in
theorem drawNameAny_any (B b : Nat) (w : World) (hc : Cur B b w) : Calls Tryz.prog 94 #[.pointer (some ⟨b, 0, none⟩)] w (DrawsT B b w 9) := by
  have HC := Lib.hid hc; clear hc
  go_enter Tryz.func94, Tryz.ntmps94
  go_wp2_with fail
  refine (once_any B b _ _ HC.out (by decide) (by decide)).mono ?_; rintro e w1 ⟨t, rfl, hc1, hw1⟩
  cases t
  · go_wp2_with fail
    refine (drawName_any B b _ hc1).mono ?_; rintro e w2 ⟨s, rfl, hs, hc2, hw2⟩
    have hl := nm_len hs
    rw [llen] at hl
    go_wp2_with fail
    go_ret
    exact ⟨s, rfl, by omega, hc2, hw1.trans hw2⟩
  · have hlt := hc1.lt
    have HC1 := Lib.hid hc1; clear hc1
    go_wp2_with fail
    refine (below_any B b _ _ (HC1.out.alloc _) (by decide) (by decide)).mono ?_; rintro e w2 ⟨y, rfl, y0, y1, hc2, hw2⟩
    obtain ⟨n, rfl⟩ := Int.eq_ofNat_of_zero_le y0
    have hp := pick_any hlt hw2 n
    obtain ⟨s, hs, hnm⟩ : ∃ s : ByteArray, w2.cell? ⟨w1.heap.size, n, none⟩ = some (.string s) ∧ s.size ≤ 9 := by
      have hn : n < 5 := by omega
      match n, hn, hp with
      | 0, _, hp => exact ⟨_, hp, by decide⟩
      | 1, _, hp => exact ⟨_, hp, by decide⟩
      | 2, _, hp => exact ⟨_, hp, by decide⟩
      | 3, _, hp => exact ⟨_, hp, by decide⟩
      | 4, _, hp => exact ⟨_, hp, by decide⟩
    clear hp
    have n1 : (n : Int) < 5 := by omega
    have HP := Lib.hid (And.intro hnm (And.intro hc2 (hw1.trans (((But.refl b w1).alloc _).trans hw2)))); clear hnm hc2 hw2
    go_wp2_with fail
    go_ret
    exact ⟨s, rfl, HP.out⟩
/-- A key drawn, of which P holds. -/
def DrawsK (P : ByteArray → ByteArray → Int → Prop) (B b : Nat) (w : World) (e : Ending) (w' : World) : Prop := ∃ (r s : ByteArray) (t : Int), e = .returned (.agg #[.string r, .string s, .int .i64 t]) ∧ P r s t ∧ Cur B b w' ∧ But b w w'
def KeyIn (r s : ByteArray) (t : Int) : Prop := nmB r.data.toList = true ∧ nmB s.data.toList = true ∧ 0 ≤ t ∧ t ≤ 19
def KeyNear (r s : ByteArray) (t : Int) : Prop := r.size ≤ 9 ∧ s.size ≤ 9 ∧ -1 ≤ t ∧ t ≤ 1000001
/-- A block of the call's own, which no draw touches: zeros of a key. -/
theorem Zb.but {n b : Nat} {w w' : World} (h : Zb n w) (hb : But b w w') (hn : n ≠ b) : Zb n w' := by
  obtain ⟨h0, h1, h2, f0, f1, f2, h3⟩ := h
  have e : w'.heap[n]? = w.heap[n]? := hb.block n h3 hn
  exact ⟨(World.cell?_of_block (w := w) e).trans h0, (World.cell?_of_block (w := w) e).trans h1, (World.cell?_of_block (w := w) e).trans h2, (World.frozen?_of_block (w := w) e).trans f0, (World.frozen?_of_block (w := w) e).trans f1, (World.frozen?_of_block (w := w) e).trans f2, Nat.lt_of_lt_of_le h3 hb.size⟩
/-- Three stores into a new block. -/
theorem But.set3 {b n : Nat} {x w : World} (h : But b x w) (hn : x.heap.size ≤ n) (u v z : Value) : But b x (((w.setCell ⟨n, 0, none⟩ u).setCell ⟨n, 1, none⟩ v).setCell ⟨n, 2, none⟩ z) :=
  ((h.setNew (p := ⟨n, 0, none⟩) hn u).setNew (p := ⟨n, 1, none⟩) hn v).setNew (p := ⟨n, 2, none⟩) hn z
theorem Cur.set3 {B b n : Nat} {w : World} (h : Cur B b w) (hn : b < n) (u v z : Value) : Cur B b (((w.setCell ⟨n, 0, none⟩ u).setCell ⟨n, 1, none⟩ v).setCell ⟨n, 2, none⟩ z) := by
  have hk : ∀ k, k ≠ n → (((w.setCell ⟨n, 0, none⟩ u).setCell ⟨n, 1, none⟩ v).setCell ⟨n, 2, none⟩ z).heap[k]? = w.heap[k]? := fun k hk => by
    rw [Below.heap_setCell _ _ _ _ (by simpa using hk), Below.heap_setCell _ _ _ _ (by simpa using hk), Below.heap_setCell _ _ _ _ (by simpa using hk)]
  exact h.carry (fun k hB => hk k (by have := h.le; omega)) (hk b (by omega))
set_option maxRecDepth 100000 in
set_option maxHeartbeats 1000000 in
theorem draw_any (B b : Nat) (w : World) (hc : Cur B b w) : Calls Tryz.prog 65 #[.pointer (some ⟨b, 0, none⟩)] w (DrawsK KeyIn B b w) := by
  have hlt := hc.lt
  have HC := Lib.hid hc; clear hc
  have HZ := Lib.hid (Zb.made w)
  go_enter Tryz.func65, Tryz.ntmps65
  go_wp2_with fail
  refine (drawName_any B b _ (HC.out.alloc _)).mono ?_; rintro e w1 ⟨r, rfl, hr, hc1, hw1⟩
  have HZ1 := Lib.hid ((HZ.out _).but hw1 (by omega))
  have HW1 := Lib.hid (((But.refl b w).alloc _).trans hw1); clear hw1
  go_wp2_with fail
  refine (drawName_any B b _ hc1).mono ?_; rintro e w2 ⟨s, rfl, hs, hc2, hw2⟩
  have HZ2 := Lib.hid (HZ1.out.but hw2 (by omega))
  have HW2 := Lib.hid (HW1.out.trans hw2); clear hw2
  go_wp2_with fail
  refine (below_any B b _ _ hc2 (by decide) (by decide)).mono ?_; rintro e w3 ⟨t, rfl, t0, t1, hc3, hw3⟩
  obtain ⟨z0, z1, z2, f0, f1, f2, zl⟩ := HZ2.out.but hw3 (by omega)
  have HW3 := Lib.hid (HW2.out.trans hw3)
  have HP := Lib.hid (show KeyIn r s t from ⟨hr, hs, t0, by omega⟩)
  have HC3 := Lib.hid hc3
  clear hw3 hr hs hc1 hc2 hc3
  go_wp2_with fail
  refine bodyPost_ret (v := .agg #[.string r, .string s, .int .i64 t]) (by simp [results, Tryz.results65, go_sem, z0, z1, z2]) rfl ⟨r, s, t, rfl, HP.out, Cur.set3 HC3.out hlt _ _ _, But.set3 HW3.out (Nat.le_refl _) _ _ _⟩
/-- Block n is a key of this call's own. -/
def Kx (n : Nat) (r s : ByteArray) (t : Int) (w : World) : Prop := w.cell? ⟨n, 0, none⟩ = some (.string r) ∧ w.cell? ⟨n, 1, none⟩ = some (.string s) ∧ w.cell? ⟨n, 2, none⟩ = some (.int .i64 t) ∧ w.frozen? ⟨n, 0, none⟩ = false ∧ w.frozen? ⟨n, 1, none⟩ = false ∧ w.frozen? ⟨n, 2, none⟩ = false ∧ n < w.heap.size
theorem Kx.made (r s : ByteArray) (t : Int) (w : World) (T : Nat) : Kx w.heap.size r s t (w.alloc (.cells #[.string r, .string s, .int .i64 t] T)) := by
  have hp : (w.alloc (.cells #[.string r, .string s, .int .i64 t] T)).heap[w.heap.size]? = some (.cells #[.string r, .string s, .int .i64 t] T) := by show (w.heap.push _)[w.heap.size]? = _; simp
  refine ⟨?_, ?_, ?_, ?_, ?_, ?_, by simp⟩ <;> (first | (simp only [World.cell?, hp]; rfl) | (simp only [World.frozen?, hp]; rfl))
theorem Kx.same {n : Nat} {r s : ByteArray} {t : Int} {w w' : World} (h : Kx n r s t w) (e : w'.heap[n]? = w.heap[n]?) (hs : w.heap.size ≤ w'.heap.size) : Kx n r s t w' := by
  obtain ⟨h0, h1, h2, f0, f1, f2, h3⟩ := h
  exact ⟨(World.cell?_of_block (w := w) e).trans h0, (World.cell?_of_block (w := w) e).trans h1, (World.cell?_of_block (w := w) e).trans h2, (World.frozen?_of_block (w := w) e).trans f0, (World.frozen?_of_block (w := w) e).trans f1, (World.frozen?_of_block (w := w) e).trans f2, Nat.lt_of_lt_of_le h3 hs⟩
theorem Kx.but {n b : Nat} {r s : ByteArray} {t : Int} {w w' : World} (h : Kx n r s t w) (hb : But b w w') (hn : n ≠ b) : Kx n r s t w' := h.same (hb.block n h.2.2.2.2.2.2 hn) hb.size
theorem Kx.next {n : Nat} {r s : ByteArray} {t : Int} {w w' : World} (h : Kx n r s t w) (hb : Below w.heap.size w w') : Kx n r s t w' := h.same (hb.block n h.2.2.2.2.2.2) hb.size
theorem St.set3 {w0 w : World} {B b n : Nat} (h : St w0 B b w) (hn : w0.heap.size ≤ n) (u v z : Value) : St w0 B b (((w.setCell ⟨n, 0, none⟩ u).setCell ⟨n, 1, none⟩ v).setCell ⟨n, 2, none⟩ z) :=
  ((h.setNew (p := ⟨n, 0, none⟩) hn u).setNew (p := ⟨n, 1, none⟩) hn v).setNew (p := ⟨n, 2, none⟩) hn z
theorem KeyIn.near {r s : ByteArray} {t : Int} (h : KeyIn r s t) : KeyNear r s t := by
  have h1 := nm_len h.1
  have h2 := nm_len h.2.1
  rw [llen] at h1 h2
  exact ⟨by omega, by omega, by have := h.2.2; omega, by have := h.2.2; omega⟩
set_option maxRecDepth 100000 in
set_option maxHeartbeats 4000000 in
theorem drawKey_any (B b : Nat) (w : World) (hc : Cur B b w) : Calls Tryz.prog 78 #[.pointer (some ⟨b, 0, none⟩)] w (DrawsK KeyNear B b w) := by
  have hlt := hc.lt
  have HS := Lib.hid (St.alloc ⟨But.refl b w, hc, hlt⟩ : ∀ o, St w B b (w.alloc o)); clear hc
  have HZ := Lib.hid (Zb.made w)
  go_enter Tryz.func78, Tryz.ntmps78
  go_wp2_with fail
  refine (draw_any B b _ (HS.out _).cur).mono ?_; rintro e w1 ⟨r, s, t, rfl, hk, hc1, hw1⟩
  have HN := Lib.hid hk.near
  have HZ1 := Lib.hid ((HZ.out _).but hw1 (by omega))
  have HS1 := Lib.hid ((HS.out _).draws hw1 hc1)
  have hl1 : w.heap.size < w1.heap.size := HZ1.out.2.2.2.2.2.2
  clear hw1 hc1 hk
  have HX := Lib.hid (Kx.made r s t w1)
  have HZ1a := Lib.hid (fun o => HZ1.out.next (bel1 w1 o))
  go_wp2_with fail
  refine (once_any B b _ _ (HS1.out.alloc _).cur (by decide) (by decide)).mono ?_; rintro e w2 ⟨q, rfl, hc2, hw2⟩
  have HS2 := Lib.hid ((HS1.out.alloc _).draws hw2 hc2)
  have HX2 := Lib.hid ((HX.out _).but hw2 (by omega))
  have HZ2 := Lib.hid ((HZ1a.out _).but hw2 (by omega))
  clear hw2 hc2
  have nn : w.heap.size ≠ w1.heap.size := by omega
  have nn' : w1.heap.size ≠ w.heap.size := by omega
  cases q
  · obtain ⟨x0, x1, x2, -, -, -, -⟩ := HX2.out
    obtain ⟨z0, z1, z2, f0, f1, f2, -⟩ := HZ2.out
    go_wp2_with fail
    refine bodyPost_ret (v := .agg #[.string r, .string s, .int .i64 t]) (by simp [results, Tryz.results78, go_sem, z0, z1, z2]) rfl ⟨r, s, t, rfl, HN.out, (St.set3 HS2.out (Nat.le_refl _) _ _ _).cur, (St.set3 HS2.out (Nat.le_refl _) _ _ _).but⟩
  · go_wp2_with fail
    refine (below_any B b _ _ HS2.out.cur (by decide) (by decide)).mono ?_; rintro e w3 ⟨y, rfl, y0, y1, hc3, hw3⟩
    have HS3 := Lib.hid (HS2.out.draws hw3 hc3)
    have HX3 := Lib.hid (HX2.out.but hw3 (by omega))
    have HZ3 := Lib.hid (HZ2.out.but hw3 (by omega))
    clear hw3 hc3
    by_cases e0 : y = 0
    · subst e0
      go_wp2_with fail
      refine (drawNameAny_any B b _ HS3.out.cur).mono ?_; rintro e w4 ⟨r', rfl, hr', hc4, hw4⟩
      have HS4 := Lib.hid (HS3.out.draws hw4 hc4)
      obtain ⟨x0, x1, x2, g0, g1, g2, -⟩ := HX3.out.but hw4 (by omega)
      obtain ⟨z0, z1, z2, f0, f1, f2, -⟩ := HZ3.out.but hw4 (by omega)
      clear hw4 hc4
      have HN' := Lib.hid (show KeyNear r' s t from ⟨hr', HN.out.2⟩)
      have HF := Lib.hid (St.set3 (HS4.out.setNew (p := ⟨w1.heap.size, 0, none⟩) (Nat.le_of_lt hl1) (.string r')) (Nat.le_refl _) (.string r') (.string s) (.int .i64 t))
      go_wp2_with fail
      refine bodyPost_ret (v := .agg #[.string r', .string s, .int .i64 t]) (by simp [results, Tryz.results78, go_sem, z0, z1, z2]) rfl ⟨r', s, t, rfl, HN'.out, HF.out.cur, HF.out.but⟩
    by_cases e1 : y = 1
    · subst e1
      go_wp2_with fail
      refine (drawNameAny_any B b _ HS3.out.cur).mono ?_; rintro e w4 ⟨r', rfl, hr', hc4, hw4⟩
      have HS4 := Lib.hid (HS3.out.draws hw4 hc4)
      obtain ⟨x0, x1, x2, g0, g1, g2, -⟩ := HX3.out.but hw4 (by omega)
      obtain ⟨z0, z1, z2, f0, f1, f2, -⟩ := HZ3.out.but hw4 (by omega)
      clear hw4 hc4
      have HN' := Lib.hid (show KeyNear r r' t from ⟨HN.out.1, hr', HN.out.2.2⟩)
      have HF := Lib.hid (St.set3 (HS4.out.setNew (p := ⟨w1.heap.size, 1, none⟩) (Nat.le_of_lt hl1) (.string r')) (Nat.le_refl _) (.string r) (.string r') (.int .i64 t))
      go_wp2_with fail
      refine bodyPost_ret (v := .agg #[.string r, .string r', .int .i64 t]) (by simp [results, Tryz.results78, go_sem, z0, z1, z2]) rfl ⟨r, r', t, rfl, HN'.out, HF.out.cur, HF.out.but⟩
    · obtain rfl : y = 2 := by omega
      have hlt3 : b < w3.heap.size := HS3.out.cur.lt
      have HZ3a := Lib.hid (fun o => HZ3.out.next (bel1 w3 o))
      have HX3a := Lib.hid (fun o => HX3.out.next (bel1 w3 o))
      go_wp2_with fail
      refine (below_any B b _ _ (HS3.out.alloc _).cur (by decide) (by decide)).mono ?_; rintro e w4 ⟨y, rfl, y0', y1', hc4, hw4⟩
      obtain ⟨n, rfl⟩ := Int.eq_ofNat_of_zero_le y0'
      have HS4 := Lib.hid ((HS3.out.alloc _).draws hw4 hc4)
      obtain ⟨x0, x1, x2, g0, g1, g2, -⟩ := (HX3a.out _).but hw4 (by omega)
      obtain ⟨z0, z1, z2, f0, f1, f2, -⟩ := (HZ3a.out _).but hw4 (by omega)
      obtain ⟨t', ht', hb1, hb2⟩ : ∃ t' : Int, w4.cell? ⟨w3.heap.size, n, none⟩ = some (.int .i64 t') ∧ -1 ≤ t' ∧ t' ≤ 1000001 := by
        have hp := pick_any hlt3 hw4 n
        have hn : n < 3 := by omega
        match n, hn, hp with
        | 0, _, hp => exact ⟨_, hp, by decide, by decide⟩
        | 1, _, hp => exact ⟨_, hp, by decide, by decide⟩
        | 2, _, hp => exact ⟨_, hp, by decide, by decide⟩
      clear hw4 hc4
      have n1 : (n : Int) < 3 := by omega
      have HN' := Lib.hid (show KeyNear r s t' from ⟨HN.out.1, HN.out.2.1, hb1, hb2⟩)
      have HF := Lib.hid (St.set3 (HS4.out.setNew (p := ⟨w1.heap.size, 2, none⟩) (Nat.le_of_lt hl1) (.int .i64 t')) (Nat.le_refl _) (.string r) (.string s) (.int .i64 t'))
      go_wp2_with fail
      refine bodyPost_ret (v := .agg #[.string r, .string s, .int .i64 t']) (by simp [results, Tryz.results78, go_sem, z0, z1, z2]) rfl ⟨r, s, t', rfl, HN'.out, HF.out.cur, HF.out.but⟩
end Go.Proofs.YtdalncgbbkeimaaGreatDoor.Cl
namespace Go.Proofs.YtdalncgbbkeimaaGreatDoor.Cl
open Go.RowKit Wd Rp Cu Kp
set_option linter.unusedVariables false
/-- A drawn cell: short texts, numbers in range. -/
def Near (r s : ByteArray) (t v : Int) : Prop := r.size ≤ 9 ∧ s.size ≤ 9 ∧ -1 ≤ t ∧ t ≤ 1000001 ∧ -4611686018427387904 ≤ v ∧ v ≤ 4611686018427387904
def DrawsC (B b : Nat) (w : World) (e : Ending) (w' : World) : Prop := ∃ (r s : ByteArray) (t v : Int) (g : Bool), e = .returned (.agg #[.string r, .string s, .int .i64 t, .int .i64 v, .bool g]) ∧ Near r s t v ∧ Cur B b w' ∧ But b w w'
theorem Zc.but {q b : Nat} {w w' : World} (h : Zc q w) (hb : But b w w') (hn : q ≠ b) : Zc q w' := by
  obtain ⟨⟨h0, h1, h2, h3, h4⟩, ⟨f0, f1, f2, f3, f4⟩, hl⟩ := h
  have e : w'.heap[q]? = w.heap[q]? := hb.block q hl hn
  exact ⟨⟨(World.cell?_of_block (w := w) e).trans h0, (World.cell?_of_block (w := w) e).trans h1, (World.cell?_of_block (w := w) e).trans h2, (World.cell?_of_block (w := w) e).trans h3, (World.cell?_of_block (w := w) e).trans h4⟩,
    ⟨(World.frozen?_of_block (w := w) e).trans f0, (World.frozen?_of_block (w := w) e).trans f1, (World.frozen?_of_block (w := w) e).trans f2, (World.frozen?_of_block (w := w) e).trans f3, (World.frozen?_of_block (w := w) e).trans f4⟩, Nat.lt_of_lt_of_le hl hb.size⟩
/-- Block q is a cell of the call's own. -/
def Yc (q : Nat) (r s : ByteArray) (t v : Int) (g : Bool) (w : World) : Prop := (w.cell? ⟨q, 0, none⟩ = some (.string r) ∧ w.cell? ⟨q, 1, none⟩ = some (.string s) ∧ w.cell? ⟨q, 2, none⟩ = some (.int .i64 t) ∧ w.cell? ⟨q, 3, none⟩ = some (.int .i64 v) ∧ w.cell? ⟨q, 4, none⟩ = some (.bool g)) ∧
    (w.frozen? ⟨q, 0, none⟩ = false ∧ w.frozen? ⟨q, 1, none⟩ = false ∧ w.frozen? ⟨q, 2, none⟩ = false ∧ w.frozen? ⟨q, 3, none⟩ = false ∧ w.frozen? ⟨q, 4, none⟩ = false) ∧ q < w.heap.size
theorem Yc.made (r s : ByteArray) (t v : Int) (g : Bool) (w : World) (T : Nat) : Yc w.heap.size r s t v g (w.alloc (.cells #[.string r, .string s, .int .i64 t, .int .i64 v, .bool g] T)) := by
  have hp : (w.alloc (.cells #[.string r, .string s, .int .i64 t, .int .i64 v, .bool g] T)).heap[w.heap.size]? = some (.cells #[.string r, .string s, .int .i64 t, .int .i64 v, .bool g] T (0, 0)) := by show (w.heap.push _)[w.heap.size]? = _; simp
  obtain ⟨h0, h1, h2, h3, h4, f0, f1, f2, f3, f4⟩ := five_of hp
  exact ⟨⟨h0, h1, h2, h3, h4⟩, ⟨f0, f1, f2, f3, f4⟩, by simp⟩
theorem Yc.same {q : Nat} {r s : ByteArray} {t v : Int} {g : Bool} {w w' : World} (h : Yc q r s t v g w) (e : w'.heap[q]? = w.heap[q]?) (hs : w.heap.size ≤ w'.heap.size) : Yc q r s t v g w' := by
  obtain ⟨⟨h0, h1, h2, h3, h4⟩, ⟨f0, f1, f2, f3, f4⟩, hl⟩ := h
  exact ⟨⟨(World.cell?_of_block (w := w) e).trans h0, (World.cell?_of_block (w := w) e).trans h1, (World.cell?_of_block (w := w) e).trans h2, (World.cell?_of_block (w := w) e).trans h3, (World.cell?_of_block (w := w) e).trans h4⟩,
    ⟨(World.frozen?_of_block (w := w) e).trans f0, (World.frozen?_of_block (w := w) e).trans f1, (World.frozen?_of_block (w := w) e).trans f2, (World.frozen?_of_block (w := w) e).trans f3, (World.frozen?_of_block (w := w) e).trans f4⟩, Nat.lt_of_lt_of_le hl hs⟩
theorem Yc.but {q b : Nat} {r s : ByteArray} {t v : Int} {g : Bool} {w w' : World} (h : Yc q r s t v g w) (hb : But b w w') (hn : q ≠ b) : Yc q r s t v g w' := h.same (hb.block q h.2.2 hn) hb.size
theorem Yc.next {q : Nat} {r s : ByteArray} {t v : Int} {g : Bool} {w w' : World} (h : Yc q r s t v g w) (hb : Below w.heap.size w w') : Yc q r s t v g w' := h.same (hb.block q h.2.2) hb.size
theorem St.set5 {w0 w : World} {B b n : Nat} (h : St w0 B b w) (hn : w0.heap.size ≤ n) (x0 x1 x2 x3 x4 : Value) : St w0 B b (((((w.setCell ⟨n, 0, none⟩ x0).setCell ⟨n, 1, none⟩ x1).setCell ⟨n, 2, none⟩ x2).setCell ⟨n, 3, none⟩ x3).setCell ⟨n, 4, none⟩ x4) :=
  ((((h.setNew (p := ⟨n, 0, none⟩) hn _).setNew (p := ⟨n, 1, none⟩) hn _).setNew (p := ⟨n, 2, none⟩) hn _).setNew (p := ⟨n, 3, none⟩) hn _).setNew (p := ⟨n, 4, none⟩) hn _
set_option maxRecDepth 100000 in
set_option maxHeartbeats 4000000 in
theorem drawCell_any (B b : Nat) (w : World) (hc : Cur B b w) : Calls Tryz.prog 42 #[.pointer (some ⟨b, 0, none⟩)] w (DrawsC B b w) := by
  have hlt := hc.lt
  have HS := Lib.hid (St.alloc ⟨But.refl b w, hc, hlt⟩ : ∀ o, St w B b (w.alloc o)); clear hc
  have HZ := Lib.hid (Zc.made w)
  go_enter Tryz.func42, Tryz.ntmps42
  go_wp2_with fail
  refine (draw_any B b _ (HS.out _).cur).mono ?_; rintro e w1 ⟨r, s, t, rfl, hk, hc1, hw1⟩
  have HK := Lib.hid hk.near
  have HZ1 := Lib.hid ((HZ.out _).but hw1 (by omega))
  have HS1 := Lib.hid ((HS.out _).draws hw1 hc1); clear hw1 hc1 hk
  go_wp2_with fail
  refine (drawWord_any B b _ HS1.out.cur).mono ?_; rintro e w2 ⟨v, rfl, v0, v1, hc2, hw2⟩
  have HZ2 := Lib.hid (HZ1.out.but hw2 (by omega))
  have HS2 := Lib.hid (HS1.out.draws hw2 hc2); clear hw2 hc2
  have HY := Lib.hid (Yc.made r s t v false w2)
  have HZ2a := Lib.hid (fun o => HZ2.out.next (bel1 w2 o))
  have hl2 : w.heap.size < w2.heap.size := HZ2.out.2.2
  go_wp2_with fail
  refine (once_any B b _ _ (HS2.out.alloc _).cur (by decide) (by decide)).mono ?_; rintro e w3 ⟨q, rfl, hc3, hw3⟩
  have HS3 := Lib.hid ((HS2.out.alloc _).draws hw3 hc3)
  have HY3 := Lib.hid ((HY.out _).but hw3 (by omega))
  have HZ3 := Lib.hid ((HZ2a.out _).but hw3 (by omega)); clear hw3 hc3
  generalize hm : w2.heap.size = m at *
  generalize hq : w.heap.size = p at *
  have nn : p ≠ m := by omega
  have nn' : m ≠ p := by omega
  obtain ⟨⟨y0, y1, y2, y3, y4⟩, ⟨g0, g1, g2, g3, g4⟩, -⟩ := HY3.out
  obtain ⟨⟨z0, z1, z2, z3, z4⟩, ⟨f0, f1, f2, f3, f4⟩, -⟩ := HZ3.out
  cases q
  · go_wp2_with fail
    refine bodyPost_ret (v := .agg #[.string r, .string s, .int .i64 t, .int .i64 v, .bool false]) (by simp [results, Tryz.results42, go_sem, z0, z1, z2, z3, z4]) rfl ⟨r, s, t, v, false, rfl, ⟨HK.out.1, HK.out.2.1, HK.out.2.2.1, HK.out.2.2.2, by omega, by omega⟩, (St.set5 HS3.out (by omega) _ _ _ _ _).cur, (St.set5 HS3.out (by omega) _ _ _ _ _).but⟩
  · go_wp2_with fail
    refine bodyPost_ret (v := .agg #[.string r, .string s, .int .i64 t, .int .i64 0, .bool true]) (by simp [results, Tryz.results42, go_sem, z0, z1, z2, z3, z4]) rfl ⟨r, s, t, 0, true, rfl, ⟨HK.out.1, HK.out.2.1, HK.out.2.2.1, HK.out.2.2.2, by omega, by omega⟩, (St.set5 ((HS3.out.setNew (p := ⟨m, 4, none⟩) (by show _ ≤ m; omega) _).setNew (p := ⟨m, 3, none⟩) (by show _ ≤ m; omega) _) (by omega) _ _ _ _ _).cur, (St.set5 ((HS3.out.setNew (p := ⟨m, 4, none⟩) (by show _ ≤ m; omega) _).setNew (p := ⟨m, 3, none⟩) (by show _ ≤ m; omega) _) (by omega) _ _ _ _ _).but⟩
set_option maxRecDepth 100000 in
set_option maxHeartbeats 8000000 in
theorem drawAnyC_any (B b : Nat) (w : World) (hc : Cur B b w) : Calls Tryz.prog 57 #[.pointer (some ⟨b, 0, none⟩)] w (DrawsC B b w) := by
  have hlt := hc.lt
  have HS := Lib.hid (St.alloc ⟨But.refl b w, hc, hlt⟩ : ∀ o, St w B b (w.alloc o)); clear hc
  have HZ := Lib.hid (Zc.made w)
  go_enter Tryz.func57, Tryz.ntmps57
  go_wp2_with fail
  refine (drawCell_any B b _ (HS.out _).cur).mono ?_; rintro e w2 ⟨r, s, t, v, g, rfl, hk, hc2, hw2⟩
  have HK := Lib.hid hk
  have HZ2 := Lib.hid ((HZ.out _).but hw2 (by omega))
  have HS2 := Lib.hid ((HS.out _).draws hw2 hc2); clear hw2 hc2 hk
  have HY := Lib.hid (Yc.made r s t v g w2)
  have HZ2a := Lib.hid (fun o => HZ2.out.next (bel1 w2 o))
  have hl2 : w.heap.size < w2.heap.size := HZ2.out.2.2
  go_wp2_with fail
  refine (once_any B b _ _ (HS2.out.alloc _).cur (by decide) (by decide)).mono ?_; rintro e w3 ⟨q, rfl, hc3, hw3⟩
  have HS3 := Lib.hid ((HS2.out.alloc _).draws hw3 hc3)
  have HY3 := Lib.hid ((HY.out _).but hw3 (by omega))
  have HZ3 := Lib.hid ((HZ2a.out _).but hw3 (by omega)); clear hw3 hc3
  generalize hm : w2.heap.size = m at *
  generalize hq : w.heap.size = p at *
  have nn : p ≠ m := by omega
  have nn' : m ≠ p := by omega
  cases q
  · obtain ⟨⟨y0, y1, y2, y3, y4⟩, ⟨g0, g1, g2, g3, g4⟩, -⟩ := HY3.out
    obtain ⟨⟨z0, z1, z2, z3, z4⟩, ⟨f0, f1, f2, f3, f4⟩, -⟩ := HZ3.out
    go_wp2_with fail
    refine bodyPost_ret (v := .agg #[.string r, .string s, .int .i64 t, .int .i64 v, .bool g]) (by simp [results, Tryz.results57, go_sem, z0, z1, z2, z3, z4]) rfl ⟨r, s, t, v, g, rfl, HK.out, (St.set5 HS3.out (by omega) _ _ _ _ _).cur, (St.set5 HS3.out (by omega) _ _ _ _ _).but⟩
  · go_wp2_with fail
    refine (below_any B b _ _ HS3.out.cur (by decide) (by decide)).mono ?_; rintro e w4 ⟨y, rfl, y0, y1, hc4, hw4⟩
    have HS4 := Lib.hid (HS3.out.draws hw4 hc4)
    have HY4 := Lib.hid (HY3.out.but hw4 (by omega))
    have HZ4 := Lib.hid (HZ3.out.but hw4 (by omega)); clear hw4 hc4
    by_cases e0 : y = 0
    · subst e0
      go_wp2_with fail
      refine (drawKey_any B b _ HS4.out.cur).mono ?_; rintro e w5 ⟨r', s', t', rfl, hk', hc5, hw5⟩
      have HS5 := Lib.hid (HS4.out.draws hw5 hc5)
      obtain ⟨⟨y0, y1, y2, y3, y4⟩, ⟨g0, g1, g2, g3, g4⟩, -⟩ := HY4.out.but hw5 (by omega)
      obtain ⟨⟨z0, z1, z2, z3, z4⟩, ⟨f0, f1, f2, f3, f4⟩, -⟩ := HZ4.out.but hw5 (by omega)
      have HN := Lib.hid (show Near r' s' t' v from ⟨hk'.1, hk'.2.1, hk'.2.2.1, hk'.2.2.2, HK.out.2.2.2.2⟩)
      clear hw5 hc5 hk'
      have HF := Lib.hid (St.set5 (n := p) (((HS5.out.setNew (p := ⟨m, 0, none⟩) (by show _ ≤ m; omega) (.string r')).setNew (p := ⟨m, 1, none⟩) (by show _ ≤ m; omega) (.string s')).setNew (p := ⟨m, 2, none⟩) (by show _ ≤ m; omega) (.int .i64 t')) (by omega) (.string r') (.string s') (.int .i64 t') (.int .i64 v) (.bool g))
      go_wp2_with fail
      refine bodyPost_ret (v := .agg #[.string r', .string s', .int .i64 t', .int .i64 v, .bool g]) (by simp [results, Tryz.results57, go_sem, z0, z1, z2, z3, z4]) rfl ⟨r', s', t', v, g, rfl, HN.out, HF.out.cur, HF.out.but⟩
    by_cases e1 : y = 1
    · subst e1
      go_wp2_with fail
      refine (drawAny_any B b _ HS4.out.cur).mono ?_; rintro e w5 ⟨v', rfl, v0', v1', hc5, hw5⟩
      have HS5 := Lib.hid (HS4.out.draws hw5 hc5)
      obtain ⟨⟨y0, y1, y2, y3, y4⟩, ⟨g0, g1, g2, g3, g4⟩, -⟩ := HY4.out.but hw5 (by omega)
      obtain ⟨⟨z0, z1, z2, z3, z4⟩, ⟨f0, f1, f2, f3, f4⟩, -⟩ := HZ4.out.but hw5 (by omega)
      have HN := Lib.hid (show Near r s t v' from ⟨HK.out.1, HK.out.2.1, HK.out.2.2.1, HK.out.2.2.2.1, v0', v1'⟩)
      clear hw5 hc5
      have HF := Lib.hid (St.set5 (n := p) (HS5.out.setNew (p := ⟨m, 3, none⟩) (by show _ ≤ m; omega) (.int .i64 v')) (by omega) (.string r) (.string s) (.int .i64 t) (.int .i64 v') (.bool g))
      go_wp2_with fail
      refine bodyPost_ret (v := .agg #[.string r, .string s, .int .i64 t, .int .i64 v', .bool g]) (by simp [results, Tryz.results57, go_sem, z0, z1, z2, z3, z4]) rfl ⟨r, s, t, v', g, rfl, HN.out, HF.out.cur, HF.out.but⟩
    · obtain rfl : y = 2 := by omega
      obtain ⟨⟨y0, y1, y2, y3, y4⟩, ⟨g0, g1, g2, g3, g4⟩, -⟩ := HY4.out
      obtain ⟨⟨z0, z1, z2, z3, z4⟩, ⟨f0, f1, f2, f3, f4⟩, -⟩ := HZ4.out
      have HF := Lib.hid (St.set5 (n := p) (HS4.out.setNew (p := ⟨m, 4, none⟩) (by show _ ≤ m; omega) (.bool (!g))) (by omega) (.string r) (.string s) (.int .i64 t) (.int .i64 v) (.bool (!g)))
      go_wp2_with fail
      refine bodyPost_ret (v := .agg #[.string r, .string s, .int .i64 t, .int .i64 v, .bool (!g)]) (by simp [results, Tryz.results57, go_sem, z0, z1, z2, z3, z4]) rfl ⟨r, s, t, v, !g, rfl, HK.out, HF.out.cur, HF.out.but⟩
theorem str_self (d : Nat) (a : ByteArray) (w : World) : (Op.equalIn (d + 1) 9 (.string a) (.string a)).run Tryz.prog w = .ok true w := by
  have h : (a == a) = true := by
    obtain ⟨x⟩ := a
    show (x == x) = true
    simp
  rw [Op.equalIn]
  simp only [Sem.run_bind, run_underlying Tryz.underlying9, Result.andThen_ok]
  show Result.ok (a == a) w = _
  rw [h]
theorem key_self (d : Nat) (r s : ByteArray) (t : Int) (w : World) : (Op.equalIn (d + 2) 36 (.agg #[.string r, .string s, .int .i64 t]) (.agg #[.string r, .string s, .int .i64 t])).run Tryz.prog w = .ok true w := by
  have u3 := Tryz.underlying9
  have a3 := Tryz.isAgg9
  have z3 := Tryz.sizeOf9
  have u2 := Tryz.underlying2
  have a2 := Tryz.isAgg2
  have z2 := Tryz.sizeOf2
  have s9 := fun a w => str_self d a w
  have hS : Tryz.prog.underlying 36 = some (.struct (Tryz.prog.fieldsOf 36)) := by kernel_rfl
  rw [show d + 2 = (d + 1) + 1 from rfl, run_equalIn_struct w (d + 1) 36 _ _ hS (by kernel_rfl)]
  simp only [Program.fieldsOf, Tryz.underlying36]
  go_simp
theorem cell_self (r s : ByteArray) (t v : Int) (g : Bool) (w : World) : (Op.equalIn 10000 38 (.agg #[.string r, .string s, .int .i64 t, .int .i64 v, .bool g]) (.agg #[.string r, .string s, .int .i64 t, .int .i64 v, .bool g])).run Tryz.prog w = .ok true w := by
  have u2 := Tryz.underlying2
  have a2 := Tryz.isAgg2
  have z2 := Tryz.sizeOf2
  have u4 := Tryz.underlying4
  have a4 := Tryz.isAgg4
  have z4 := Tryz.sizeOf4
  have aK := Tryz.isAgg36
  have zK := Tryz.sizeOf36
  have kk := fun r s t w => key_self 9997 r s t w
  have hS : Tryz.prog.underlying 38 = some (.struct (Tryz.prog.fieldsOf 38)) := by kernel_rfl
  rw [show (10000 : Nat) = 9999 + 1 from rfl, run_equalIn_struct w 9999 38 _ _ hS (by kernel_rfl)]
  simp only [Program.fieldsOf, Tryz.underlying38]
  go_simp
end Go.Proofs.YtdalncgbbkeimaaGreatDoor.Cl
