/-
  Contracts of spec.KeyOk, impl.KeyOk, laws.toKey, laws.szKey: what they give for every key, nothing that was there turned.
-/
import Derived.Test.YtoiphglfngkoiaaDoorNm
import Derived.Carry
namespace Go.Proofs.YtoiphglfngkoiaaDoor.Kp
open Go.RowKit Wd Rp
theorem specName_is {s : ByteArray} {v : Bool} (h : nmB s.data.toList = v) (w : World) (hs : s.size ≤ 9223372036854775806) : Calls Tryd.prog 38 #[.string s] w fun e w' => e = .returned (.bool v) ∧ w = w' :=
  (specName_any s w hs).mono fun _ _ ⟨he, hw⟩ => ⟨by rw [he, h], hw⟩
theorem implName_is {s : ByteArray} {v : Bool} (h : nmB s.data.toList = v) (w : World) : Calls Tryd.prog 35 #[.string s] w fun e w' => e = .returned (.bool v) ∧ w = w' :=
  (implName_any s w).mono fun _ _ ⟨he, hw⟩ => ⟨by rw [he, h], hw⟩
/-- Block n holds a key. -/
def Bx (n : Nat) (r b : ByteArray) (t : Int) (w : World) : Prop := w.cell? ⟨n, 0, none⟩ = some (.string r) ∧ w.cell? ⟨n, 1, none⟩ = some (.string b) ∧ w.cell? ⟨n, 2, none⟩ = some (.int .i64 t) ∧ n < w.heap.size
theorem Bx.made (r b : ByteArray) (t : Int) (w : World) (T : Nat) : Bx w.heap.size r b t (w.alloc (.cells #[.string r, .string b, .int .i64 t] T)) := by
  have hp : (w.alloc (.cells #[.string r, .string b, .int .i64 t] T)).heap[w.heap.size]? = some (.cells #[.string r, .string b, .int .i64 t] T) := by show (w.heap.push _)[w.heap.size]? = _; simp
  refine ⟨?_, ?_, ?_, by simp⟩ <;> (simp only [World.cell?, hp]; rfl)
theorem Bx.below {n B : Nat} {r b : ByteArray} {t : Int} {w w' : World} (h : Bx n r b t w) (hb : Below B w w') (hn : n < B) : Bx n r b t w' := by
  obtain ⟨h0, h1, h2, h3⟩ := h
  have e : w'.heap[n]? = w.heap[n]? := hb.block n hn
  exact ⟨(World.cell?_of_block (w := w) e).trans h0, (World.cell?_of_block (w := w) e).trans h1, (World.cell?_of_block (w := w) e).trans h2, Nat.lt_of_lt_of_le h3 hb.size⟩
theorem Bx.next {n : Nat} {r b : ByteArray} {t : Int} {w w' : World} (h : Bx n r b t w) (hb : Below w.heap.size w w') : Bx n r b t w' := h.below hb h.2.2.2
/-- What KeyOk gives. -/
def KeyPost (r b : ByteArray) (t : Int) (w : World) (e : Ending) (w' : World) : Prop := e = .returned (.bool (keyB r.data.toList b.data.toList t)) ∧ Below w.heap.size w w'
end Go.Proofs.YtoiphglfngkoiaaDoor.Kp
