/-
  Contracts of the draws of names and keys (spec.l2DrawName, l2DrawAny, l2Draw, l2DrawKey), without l1Bend: what they give, the cursor still a cursor, nothing else turned.
  Draws of cells (spec.l4DrawCell, l4DrawAny): what they give, the cursor still a cursor, nothing else turned; a cell equals itself.
-/
import Derived.Test.YtoiphglfngkoiaaDoorCu
import Derived.Test.YtoiphglfngkoiaaDoorKy
import Derived.Test.YtoiphglfngkoiaaDoorCa
import Derived.Laws.StructEq
namespace Go.Proofs.YtoiphglfngkoiaaDoor.Cl
open Go.RowKit Wd Rp Cu Kp
/-- Block n is a key of this call's own, of value zero. -/
def Zb (n : Nat) (w : World) : Prop := w.cell? ⟨n, 0, none⟩ = some (.string ⟨#[]⟩) ∧ w.cell? ⟨n, 1, none⟩ = some (.string ⟨#[]⟩) ∧ w.cell? ⟨n, 2, none⟩ = some (.int .i64 0) ∧ w.frozen? ⟨n, 0, none⟩ = false ∧ w.frozen? ⟨n, 1, none⟩ = false ∧ w.frozen? ⟨n, 2, none⟩ = false ∧ n < w.heap.size
theorem Zb.made (w : World) (T : Nat) : Zb w.heap.size (w.alloc (.cells #[.string ⟨#[]⟩, .string ⟨#[]⟩, .int .i64 0] T)) := by
  have hp : (w.alloc (.cells #[.string ⟨#[]⟩, .string ⟨#[]⟩, .int .i64 0] T)).heap[w.heap.size]? = some (.cells #[.string ⟨#[]⟩, .string ⟨#[]⟩, .int .i64 0] T) := by show (w.heap.push _)[w.heap.size]? = _; simp
  refine ⟨?_, ?_, ?_, ?_, ?_, ?_, by simp⟩ <;> (first | (simp only [World.cell?, hp]; rfl) | (simp only [World.frozen?, hp]; rfl))
theorem Zb.next {n : Nat} {w w' : World} (h : Zb n w) (hb : Below w.heap.size w w') : Zb n w' := by
  obtain ⟨h0, h1, h2, f0, f1, f2, h3⟩ := h
  have e : w'.heap[n]? = w.heap[n]? := hb.block n h3
  exact ⟨(World.cell?_of_block (w := w) e).trans h0, (World.cell?_of_block (w := w) e).trans h1, (World.cell?_of_block (w := w) e).trans h2, (World.frozen?_of_block (w := w) e).trans f0, (World.frozen?_of_block (w := w) e).trans f1, (World.frozen?_of_block (w := w) e).trans f2, Nat.lt_of_lt_of_le h3 hb.size⟩
/-- A text drawn, of at most n bytes. -/
def DrawsT (B b : Nat) (w : World) (n : Nat) (e : Ending) (w' : World) : Prop := ∃ t : ByteArray, e = .returned (.string t) ∧ t.size ≤ n ∧ Cur B b w' ∧ But b w w'
/-- A slice literal, kept while a cursor draws. -/
theorem pick_any {w w1 : World} {b T : Nat} {vs : Array Value} (hb : b < w.heap.size) (h : But b (w.alloc (.cells vs T)) w1) (k : Nat) : w1.cell? ⟨w.heap.size, k, none⟩ = vs[k]? := by
  have hp : (w.alloc (.cells vs T)).heap[w.heap.size]? = some (.cells vs T) := by show (w.heap.push _)[w.heap.size]? = _; simp
  have hc : (w.alloc (.cells vs T)).cell? ⟨w.heap.size, k, none⟩ = vs[k]? := by simp only [World.cell?, hp]; rfl
  exact (h.cell (p := ⟨w.heap.size, k, none⟩) (by simp) (by show w.heap.size ≠ b; omega)).trans hc
/-- A name drawn. -/
def DrawsN (B b : Nat) (w : World) (e : Ending) (w' : World) : Prop := ∃ s : ByteArray, e = .returned (.string s) ∧ nmB s.data.toList = true ∧ Cur B b w' ∧ But b w w'
set_option maxRecDepth 100000 in
set_option maxHeartbeats 1000000 in
theorem drawName_any (B b : Nat) (w : World) (hc : Cur B b w) : Calls Tryd.prog 52 #[.pointer (some ⟨b, 0, none⟩)] w (DrawsN B b w) := by
  have hlt := hc.lt
  have HC := Lib.hid hc; clear hc
  go_enter Tryd.func52, Tryd.ntmps52
  go_wp2_with fail
  refine (below_any B b _ _ (HC.out.alloc _) (by decide) (by decide)).mono ?_; rintro e w2 ⟨y, rfl, y0, y1, hc2, hw2⟩
  obtain ⟨n, rfl⟩ := Int.eq_ofNat_of_zero_le y0
  have hp := pick_any hlt hw2 n
  obtain ⟨s, hs, hnm⟩ : ∃ s : ByteArray, w2.cell? ⟨w.heap.size, n, none⟩ = some (.string s) ∧ nmB s.data.toList = true := by
    have hn : n < 6 := by omega
    match n, hn, hp with
    | 0, _, hp => exact ⟨_, hp, by decide⟩
    | 1, _, hp => exact ⟨_, hp, by decide⟩
    | 2, _, hp => exact ⟨_, hp, by decide⟩
    | 3, _, hp => exact ⟨_, hp, by decide⟩
    | 4, _, hp => exact ⟨_, hp, by decide⟩
    | 5, _, hp => exact ⟨_, hp, by decide⟩
  clear hp
  have n1 : (n : Int) < 6 := by omega
  have HP := Lib.hid (And.intro hnm (And.intro hc2 (((But.refl b w).alloc _).trans hw2))); clear hnm hc2 hw2
  go_wp2_with fail
  go_ret
  exact ⟨s, rfl, HP.out⟩
set_option maxRecDepth 100000 in
set_option maxHeartbeats 1000000 in
theorem drawNameAny_any (B b : Nat) (w : World) (hc : Cur B b w) : Calls Tryd.prog 44 #[.pointer (some ⟨b, 0, none⟩)] w (DrawsT B b w 9) := by
  have HC := Lib.hid hc; clear hc
  go_enter Tryd.func44, Tryd.ntmps44
  go_wp2_with fail
  refine (once_any B b _ _ HC.out (by decide) (by decide)).mono ?_; rintro e w1 ⟨t, rfl, hc1, hw1⟩
  cases t
  · go_wp2_with fail
    refine (drawName_any B b _ hc1).mono ?_; rintro e w2 ⟨s, rfl, hs, hc2, hw2⟩
    have hl := nm_len hs
    rw [llen] at hl
    go_wp2_with fail
    go_ret
    exact ⟨s, rfl, by omega, hc2, hw1.trans hw2⟩
  · have hlt := hc1.lt
    have HC1 := Lib.hid hc1; clear hc1
    go_wp2_with fail
    refine (below_any B b _ _ (HC1.out.alloc _) (by decide) (by decide)).mono ?_; rintro e w2 ⟨y, rfl, y0, y1, hc2, hw2⟩
    obtain ⟨n, rfl⟩ := Int.eq_ofNat_of_zero_le y0
    have hp := pick_any hlt hw2 n
    obtain ⟨s, hs, hnm⟩ : ∃ s : ByteArray, w2.cell? ⟨w1.heap.size, n, none⟩ = some (.string s) ∧ s.size ≤ 9 := by
      have hn : n < 5 := by omega
      match n, hn, hp with
      | 0, _, hp => exact ⟨_, hp, by decide⟩
      | 1, _, hp => exact ⟨_, hp, by decide⟩
      | 2, _, hp => exact ⟨_, hp, by decide⟩
      | 3, _, hp => exact ⟨_, hp, by decide⟩
      | 4, _, hp => exact ⟨_, hp, by decide⟩
    clear hp
    have n1 : (n : Int) < 5 := by omega
    have HP := Lib.hid (And.intro hnm (And.intro hc2 (hw1.trans (((But.refl b w1).alloc _).trans hw2)))); clear hnm hc2 hw2
    go_wp2_with fail
    go_ret
    exact ⟨s, rfl, HP.out⟩
/-- A key drawn, of which P holds. -/
def DrawsK (P : ByteArray → ByteArray → Int → Prop) (B b : Nat) (w : World) (e : Ending) (w' : World) : Prop := ∃ (r s : ByteArray) (t : Int), e = .returned (.agg #[.string r, .string s, .int .i64 t]) ∧ P r s t ∧ Cur B b w' ∧ But b w w'
def KeyIn (r s : ByteArray) (t : Int) : Prop := nmB r.data.toList = true ∧ nmB s.data.toList = true ∧ 0 ≤ t ∧ t ≤ 19
def KeyNear (r s : ByteArray) (t : Int) : Prop := r.size ≤ 9 ∧ s.size ≤ 9 ∧ -1 ≤ t ∧ t ≤ 1000001
/-- A block of the call's own, which no draw touches: zeros of a key. -/
theorem Zb.but {n b : Nat} {w w' : World} (h : Zb n w) (hb : But b w w') (hn : n ≠ b) : Zb n w' := by
  obtain ⟨h0, h1, h2, f0, f1, f2, h3⟩ := h
  have e : w'.heap[n]? = w.heap[n]? := hb.block n h3 hn
  exact ⟨(World.cell?_of_block (w := w) e).trans h0, (World.cell?_of_block (w := w) e).trans h1, (World.cell?_of_block (w := w) e).trans h2, (World.frozen?_of_block (w := w) e).trans f0, (World.frozen?_of_block (w := w) e).trans f1, (World.frozen?_of_block (w := w) e).trans f2, Nat.lt_of_lt_of_le h3 hb.size⟩
/-- Three stores into a new block. -/
theorem But.set3 {b n : Nat} {x w : World} (h : But b x w) (hn : x.heap.size ≤ n) (u v z : Value) : But b x (((w.setCell ⟨n, 0, none⟩ u).setCell ⟨n, 1, none⟩ v).setCell ⟨n, 2, none⟩ z) :=
  ((h.setNew (p := ⟨n, 0, none⟩) hn u).setNew (p := ⟨n, 1, none⟩) hn v).setNew (p := ⟨n, 2, none⟩) hn z
theorem Cur.set3 {B b n : Nat} {w : World} (h : Cur B b w) (hn : b < n) (u v z : Value) : Cur B b (((w.setCell ⟨n, 0, none⟩ u).setCell ⟨n, 1, none⟩ v).setCell ⟨n, 2, none⟩ z) := by
  have hk : ∀ k, k ≠ n → (((w.setCell ⟨n, 0, none⟩ u).setCell ⟨n, 1, none⟩ v).setCell ⟨n, 2, none⟩ z).heap[k]? = w.heap[k]? := fun k hk => by
    rw [Below.heap_setCell _ _ _ _ (by simpa using hk), Below.heap_setCell _ _ _ _ (by simpa using hk), Below.heap_setCell _ _ _ _ (by simpa using hk)]
  exact h.carry (fun k hB => hk k (by have := h.le; omega)) (hk b (by omega))
/-- Block n is a key of this call's own. -/
def Kx (n : Nat) (r s : ByteArray) (t : Int) (w : World) : Prop := w.cell? ⟨n, 0, none⟩ = some (.string r) ∧ w.cell? ⟨n, 1, none⟩ = some (.string s) ∧ w.cell? ⟨n, 2, none⟩ = some (.int .i64 t) ∧ w.frozen? ⟨n, 0, none⟩ = false ∧ w.frozen? ⟨n, 1, none⟩ = false ∧ w.frozen? ⟨n, 2, none⟩ = false ∧ n < w.heap.size
theorem Kx.made (r s : ByteArray) (t : Int) (w : World) (T : Nat) : Kx w.heap.size r s t (w.alloc (.cells #[.string r, .string s, .int .i64 t] T)) := by
  have hp : (w.alloc (.cells #[.string r, .string s, .int .i64 t] T)).heap[w.heap.size]? = some (.cells #[.string r, .string s, .int .i64 t] T) := by show (w.heap.push _)[w.heap.size]? = _; simp
  refine ⟨?_, ?_, ?_, ?_, ?_, ?_, by simp⟩ <;> (first | (simp only [World.cell?, hp]; rfl) | (simp only [World.frozen?, hp]; rfl))
theorem Kx.same {n : Nat} {r s : ByteArray} {t : Int} {w w' : World} (h : Kx n r s t w) (e : w'.heap[n]? = w.heap[n]?) (hs : w.heap.size ≤ w'.heap.size) : Kx n r s t w' := by
  obtain ⟨h0, h1, h2, f0, f1, f2, h3⟩ := h
  exact ⟨(World.cell?_of_block (w := w) e).trans h0, (World.cell?_of_block (w := w) e).trans h1, (World.cell?_of_block (w := w) e).trans h2, (World.frozen?_of_block (w := w) e).trans f0, (World.frozen?_of_block (w := w) e).trans f1, (World.frozen?_of_block (w := w) e).trans f2, Nat.lt_of_lt_of_le h3 hs⟩
theorem Kx.but {n b : Nat} {r s : ByteArray} {t : Int} {w w' : World} (h : Kx n r s t w) (hb : But b w w') (hn : n ≠ b) : Kx n r s t w' := h.same (hb.block n h.2.2.2.2.2.2 hn) hb.size
theorem Kx.next {n : Nat} {r s : ByteArray} {t : Int} {w w' : World} (h : Kx n r s t w) (hb : Below w.heap.size w w') : Kx n r s t w' := h.same (hb.block n h.2.2.2.2.2.2) hb.size
theorem St.set3 {w0 w : World} {B b n : Nat} (h : St w0 B b w) (hn : w0.heap.size ≤ n) (u v z : Value) : St w0 B b (((w.setCell ⟨n, 0, none⟩ u).setCell ⟨n, 1, none⟩ v).setCell ⟨n, 2, none⟩ z) :=
  ((h.setNew (p := ⟨n, 0, none⟩) hn u).setNew (p := ⟨n, 1, none⟩) hn v).setNew (p := ⟨n, 2, none⟩) hn z
theorem KeyIn.near {r s : ByteArray} {t : Int} (h : KeyIn r s t) : KeyNear r s t := by
  have h1 := nm_len h.1
  have h2 := nm_len h.2.1
  rw [llen] at h1 h2
  exact ⟨by omega, by omega, by have := h.2.2; omega, by have := h.2.2; omega⟩
end Go.Proofs.YtoiphglfngkoiaaDoor.Cl
namespace Go.Proofs.YtoiphglfngkoiaaDoor.Cl
open Go.RowKit Wd Rp Cu Kp
set_option linter.unusedVariables false
/-- A drawn cell: short texts, numbers in range. -/
def Near (r s : ByteArray) (t v : Int) : Prop := r.size ≤ 9 ∧ s.size ≤ 9 ∧ -1 ≤ t ∧ t ≤ 1000001 ∧ -4611686018427387904 ≤ v ∧ v ≤ 4611686018427387904
def DrawsC (B b : Nat) (w : World) (e : Ending) (w' : World) : Prop := ∃ (r s : ByteArray) (t v : Int) (g : Bool), e = .returned (.agg #[.string r, .string s, .int .i64 t, .int .i64 v, .bool g]) ∧ Near r s t v ∧ Cur B b w' ∧ But b w w'
theorem Zc.but {q b : Nat} {w w' : World} (h : Zc q w) (hb : But b w w') (hn : q ≠ b) : Zc q w' := by
  obtain ⟨⟨h0, h1, h2, h3, h4⟩, ⟨f0, f1, f2, f3, f4⟩, hl⟩ := h
  have e : w'.heap[q]? = w.heap[q]? := hb.block q hl hn
  exact ⟨⟨(World.cell?_of_block (w := w) e).trans h0, (World.cell?_of_block (w := w) e).trans h1, (World.cell?_of_block (w := w) e).trans h2, (World.cell?_of_block (w := w) e).trans h3, (World.cell?_of_block (w := w) e).trans h4⟩,
    ⟨(World.frozen?_of_block (w := w) e).trans f0, (World.frozen?_of_block (w := w) e).trans f1, (World.frozen?_of_block (w := w) e).trans f2, (World.frozen?_of_block (w := w) e).trans f3, (World.frozen?_of_block (w := w) e).trans f4⟩, Nat.lt_of_lt_of_le hl hb.size⟩
/-- Block q is a cell of the call's own. -/
def Yc (q : Nat) (r s : ByteArray) (t v : Int) (g : Bool) (w : World) : Prop := (w.cell? ⟨q, 0, none⟩ = some (.string r) ∧ w.cell? ⟨q, 1, none⟩ = some (.string s) ∧ w.cell? ⟨q, 2, none⟩ = some (.int .i64 t) ∧ w.cell? ⟨q, 3, none⟩ = some (.int .i64 v) ∧ w.cell? ⟨q, 4, none⟩ = some (.bool g)) ∧
    (w.frozen? ⟨q, 0, none⟩ = false ∧ w.frozen? ⟨q, 1, none⟩ = false ∧ w.frozen? ⟨q, 2, none⟩ = false ∧ w.frozen? ⟨q, 3, none⟩ = false ∧ w.frozen? ⟨q, 4, none⟩ = false) ∧ q < w.heap.size
theorem Yc.made (r s : ByteArray) (t v : Int) (g : Bool) (w : World) (T : Nat) : Yc w.heap.size r s t v g (w.alloc (.cells #[.string r, .string s, .int .i64 t, .int .i64 v, .bool g] T)) := by
  have hp : (w.alloc (.cells #[.string r, .string s, .int .i64 t, .int .i64 v, .bool g] T)).heap[w.heap.size]? = some (.cells #[.string r, .string s, .int .i64 t, .int .i64 v, .bool g] T (0, 0)) := by show (w.heap.push _)[w.heap.size]? = _; simp
  obtain ⟨h0, h1, h2, h3, h4, f0, f1, f2, f3, f4⟩ := five_of hp
  exact ⟨⟨h0, h1, h2, h3, h4⟩, ⟨f0, f1, f2, f3, f4⟩, by simp⟩
theorem Yc.same {q : Nat} {r s : ByteArray} {t v : Int} {g : Bool} {w w' : World} (h : Yc q r s t v g w) (e : w'.heap[q]? = w.heap[q]?) (hs : w.heap.size ≤ w'.heap.size) : Yc q r s t v g w' := by
  obtain ⟨⟨h0, h1, h2, h3, h4⟩, ⟨f0, f1, f2, f3, f4⟩, hl⟩ := h
  exact ⟨⟨(World.cell?_of_block (w := w) e).trans h0, (World.cell?_of_block (w := w) e).trans h1, (World.cell?_of_block (w := w) e).trans h2, (World.cell?_of_block (w := w) e).trans h3, (World.cell?_of_block (w := w) e).trans h4⟩,
    ⟨(World.frozen?_of_block (w := w) e).trans f0, (World.frozen?_of_block (w := w) e).trans f1, (World.frozen?_of_block (w := w) e).trans f2, (World.frozen?_of_block (w := w) e).trans f3, (World.frozen?_of_block (w := w) e).trans f4⟩, Nat.lt_of_lt_of_le hl hs⟩
theorem Yc.but {q b : Nat} {r s : ByteArray} {t v : Int} {g : Bool} {w w' : World} (h : Yc q r s t v g w) (hb : But b w w') (hn : q ≠ b) : Yc q r s t v g w' := h.same (hb.block q h.2.2 hn) hb.size
theorem Yc.next {q : Nat} {r s : ByteArray} {t v : Int} {g : Bool} {w w' : World} (h : Yc q r s t v g w) (hb : Below w.heap.size w w') : Yc q r s t v g w' := h.same (hb.block q h.2.2) hb.size
theorem St.set5 {w0 w : World} {B b n : Nat} (h : St w0 B b w) (hn : w0.heap.size ≤ n) (x0 x1 x2 x3 x4 : Value) : St w0 B b (((((w.setCell ⟨n, 0, none⟩ x0).setCell ⟨n, 1, none⟩ x1).setCell ⟨n, 2, none⟩ x2).setCell ⟨n, 3, none⟩ x3).setCell ⟨n, 4, none⟩ x4) :=
  ((((h.setNew (p := ⟨n, 0, none⟩) hn _).setNew (p := ⟨n, 1, none⟩) hn _).setNew (p := ⟨n, 2, none⟩) hn _).setNew (p := ⟨n, 3, none⟩) hn _).setNew (p := ⟨n, 4, none⟩) hn _
theorem str_self (d : Nat) (a : ByteArray) (w : World) : (Op.equalIn (d + 1) 9 (.string a) (.string a)).run Tryd.prog w = .ok true w := by
  have h : (a == a) = true := by
    obtain ⟨x⟩ := a
    show (x == x) = true
    simp
  rw [Op.equalIn]
  simp only [Sem.run_bind, run_underlying Tryd.underlying9, Result.andThen_ok]
  show Result.ok (a == a) w = _
  rw [h]
end Go.Proofs.YtoiphglfngkoiaaDoor.Cl
