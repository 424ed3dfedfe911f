/-
  Draws of texts: a slice literal kept while a cursor draws, a call that only makes memory beside a cursor, bytes that came in, later.
-/
import Derived.Test.YtdalncgbbkeimaaGreatDoorBo
import Derived.Test.YtdalncgbbkeimaaGreatDoorCu
namespace Go.Proofs.YtdalncgbbkeimaaGreatDoor.Cu
open Go.RowKit
/-- A slice literal, kept while a cursor draws. -/
theorem pick_lit {w w1 : World} {b T : Nat} {vs : Array Value} (hb : b < w.heap.size) (h : But b (w.alloc (.cells vs T)) w1) (k : Nat) : w1.cell? ⟨w.heap.size, k, none⟩ = vs[k]? := by
  have hp : (w.alloc (.cells vs T)).heap[w.heap.size]? = some (.cells vs T) := by show (w.heap.push _)[w.heap.size]? = _; simp
  have hc : (w.alloc (.cells vs T)).cell? ⟨w.heap.size, k, none⟩ = vs[k]? := by simp only [World.cell?, hp]; rfl
  exact (h.cell (p := ⟨w.heap.size, k, none⟩) (by simp) (by show w.heap.size ≠ b; omega)).trans hc
theorem Cur.next {B b : Nat} {w w' : World} (h : Cur B b w) (hb : Below w.heap.size w w') : Cur B b w' :=
  h.carry (fun k hk => hb.block k (by have := h.le; have := h.lt; omega)) (hb.block b h.lt)
theorem St.next {w0 w w' : World} {B b : Nat} (h : St w0 B b w) (hb : Below w.heap.size w w') : St w0 B b w' := ⟨h.but.below' hb, h.cur.next hb, h.lt⟩
theorem St.start {w : World} {B b : Nat} (h : Cur B b w) : St w B b w := ⟨But.refl b w, h, h.lt⟩
theorem isBytes_next {w w' : World} {a : Option Addr} {len : Nat} (h : IsBytes w a len) (hb : Below w.heap.size w w') : IsBytes w' a len := ⟨h.1, fun hl => by
  obtain ⟨ab, ao, h1, h2, h3⟩ := h.2 hl
  refine ⟨ab, ao, h1, Nat.lt_of_lt_of_le h2 hb.size, fun k hk => ?_⟩
  obtain ⟨z, h4, h5⟩ := h3 k hk
  exact ⟨z, (World.cell?_of_block (w := w) (hb.block ab h2)).trans h4, h5⟩⟩
/-- A drawn text, in a world that has only grown. -/
def DrewT (n : Nat) (w : World) (e : Ending) (w' : World) : Prop := ∃ s : ByteArray, e = .returned (.string s) ∧ s.size ≤ n ∧ Below w.heap.size w w'
end Go.Proofs.YtdalncgbbkeimaaGreatDoor.Cu
