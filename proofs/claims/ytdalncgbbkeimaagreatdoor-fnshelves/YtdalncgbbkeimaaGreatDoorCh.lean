/-
  Contracts of impl.cellAt: the closure that sort.Search asks, sort.Search over it, and cellAt: the number of cells ahead of the key, and whether it is there. (Made by gen_ch.py.)
-/
import Derived.Test.YtdalncgbbkeimaaGreatDoorCe
import Derived.Deep.QuietTactic
import Derived.BigQuiet
namespace Go.Proofs.YtdalncgbbkeimaaGreatDoor.Cl
open Go.RowKit Wd Rp Kp
set_option linter.unusedVariables false
/-- Block bl holds the slice, block bk the key. -/
def Two (bl bk : Nat) (a : Option Addr) (n cap : Nat) (K : Cel) (w : World) : Prop := w.cell? ⟨bl, 0, none⟩ = some (.slice a n cap) ∧ w.cell? ⟨bk, 0, none⟩ = some (.string K.r) ∧ w.cell? ⟨bk, 1, none⟩ = some (.string K.b) ∧ w.cell? ⟨bk, 2, none⟩ = some (.int .i64 K.t) ∧ bl < w.heap.size ∧ bk < w.heap.size
theorem Two.next {bl bk : Nat} {a : Option Addr} {n cap : Nat} {K : Cel} {w w' : World} (h : Two bl bk a n cap K w) (hb : Below w.heap.size w w') : Two bl bk a n cap K w' := by
  obtain ⟨h0, h1, h2, h3, h4, h5⟩ := h
  exact ⟨cob hb (Below.refl _ _) h4 h0, cob hb (Below.refl _ _) h5 h1, cob hb (Below.refl _ _) h5 h2, cob hb (Below.refl _ _) h5 h3, Nat.lt_of_lt_of_le h4 hb.size, Nat.lt_of_lt_of_le h5 hb.size⟩
theorem Two.made (w : World) (a : Option Addr) (n cap : Nat) (K : Cel) (S T : Nat) : Two w.heap.size (w.heap.size + 1) a n cap K ((w.alloc (.cells #[.slice a n cap] S)).alloc (.cells #[.string K.r, .string K.b, .int .i64 K.t] T)) := by
  have h1 : ((w.alloc (.cells #[.slice a n cap] S)).alloc (.cells #[.string K.r, .string K.b, .int .i64 K.t] T)).heap[w.heap.size]? = some (.cells #[.slice a n cap] S) := by
    show ((w.heap.push _).push _)[w.heap.size]? = _
    rw [Array.getElem?_push, if_neg (by simp), Array.getElem?_push, if_pos rfl]
  have h2 : ((w.alloc (.cells #[.slice a n cap] S)).alloc (.cells #[.string K.r, .string K.b, .int .i64 K.t] T)).heap[w.heap.size + 1]? = some (.cells #[.string K.r, .string K.b, .int .i64 K.t] T) := by
    show ((w.heap.push _).push _)[w.heap.size + 1]? = _
    rw [Array.getElem?_push, if_pos (by simp)]
  refine ⟨?_, ?_, ?_, ?_, by simp; omega, by simp⟩ <;> (first | (simp only [World.cell?, h1]; rfl) | (simp only [World.cell?, h2]; rfl))
theorem keyEq_of {c K : Cel} {x : Bool} (h : c.ke K = x) (w : World) : (Op.equalIn 10000 36 (.agg #[.string c.r, .string c.b, .int .i64 c.t]) (.agg #[.string K.r, .string K.b, .int .i64 K.t])).run Tryz.prog w = .ok x w := by
  rw [keyEq]; exact congrArg (fun y => Result.ok y w) h
end Go.Proofs.YtdalncgbbkeimaaGreatDoor.Cl
