/-
  Contracts of spec.KeyLess and impl.KeyLess: both give 'lessB', for every two keys, nothing that was there turned.
  Contracts of spec.KeyLess and impl.KeyLess: both give 'lessB', for every two keys, nothing that was there turned.
-/
import Derived.Test.YtoiphglfngkoiaaDoorKy
import Derived.WalkLawsBesides
import Derived.Deep.QuietTactic
import Derived.BigQuiet
import Derived.Deep.RegionHeld3
namespace Go.Proofs.YtoiphglfngkoiaaDoor.Kp
open Go.RowKit Wd Rp
theorem bl_irr : ∀ l : List UInt8, Op.bytesLess l l = false
  | [] => rfl
  | a :: x => by simp [Op.bytesLess, bl_irr x]
def cmpS (a b : ByteArray) : Int := if Op.bytesLess a.toList b.toList then -1 else if a.toList == b.toList then 0 else 1
/-- Block n holds a place. -/
def Px (n : Nat) (r b : ByteArray) (w : World) : Prop := w.cell? ⟨n, 0, none⟩ = some (.string r) ∧ w.cell? ⟨n, 1, none⟩ = some (.string b)
def cmp2 (r b r' b' : ByteArray) : Int := if cmpS r r' ≠ 0 then cmpS r r' else cmpS b b'
theorem Px.made (r b : ByteArray) (w : World) (T : Nat) : Px w.heap.size r b (w.alloc (.cells #[.string r, .string b] T)) := by
  have hp : (w.alloc (.cells #[.string r, .string b] T)).heap[w.heap.size]? = some (.cells #[.string r, .string b] T) := by show (w.heap.push _)[w.heap.size]? = _; simp
  refine ⟨?_, ?_⟩ <;> (simp only [World.cell?, hp]; rfl)
theorem Px.alloc {n : Nat} {r b : ByteArray} {w : World} (h : Px n r b w) (hn : n < w.heap.size) (o : Obj) : Px n r b (w.alloc o) := by
  have e : (w.alloc o).heap[n]? = w.heap[n]? := Below.heap_alloc _ _ _ hn
  exact ⟨(World.cell?_of_block (w := w) e).trans h.1, (World.cell?_of_block (w := w) e).trans h.2⟩
/-- Which of two keys comes first. -/
def lsB (r b : ByteArray) (t : Int) (r' b' : ByteArray) (t' : Int) : Bool := if !(r.toList == r'.toList) then Op.bytesLess r.toList r'.toList else if !(b.toList == b'.toList) then Op.bytesLess b.toList b'.toList else decide (t' < t)
end Go.Proofs.YtoiphglfngkoiaaDoor.Kp
namespace Go.Proofs.YtoiphglfngkoiaaDoor.Kp
open Go.RowKit Wd Rp
def lessB (r b : ByteArray) (t : Int) (r' b' : ByteArray) (t' : Int) : Bool := keyB r.data.toList b.data.toList t && (keyB r'.data.toList b'.data.toList t' && lsB r b t r' b' t')
def LessPost (r b : ByteArray) (t : Int) (r' b' : ByteArray) (t' : Int) (w : World) (e : Ending) (w' : World) : Prop := e = .returned (.bool (lessB r b t r' b' t')) ∧ Below w.heap.size w w'
/-- Two boxes. -/
theorem Bx.two (r b : ByteArray) (t : Int) (r' b' : ByteArray) (t' : Int) (w : World) (T : Nat) :
    Bx w.heap.size r b t ((w.alloc (.cells #[.string r, .string b, .int .i64 t] T)).alloc (.cells #[.string r', .string b', .int .i64 t'] T)) ∧ Bx (w.heap.size + 1) r' b' t' ((w.alloc (.cells #[.string r, .string b, .int .i64 t] T)).alloc (.cells #[.string r', .string b', .int .i64 t'] T)) := by
  refine ⟨(Bx.made r b t w T).next (bel1 _ _), ?_⟩
  have := Bx.made r' b' t' (w.alloc (.cells #[.string r, .string b, .int .i64 t] T)) T
  rwa [show (w.alloc (.cells #[.string r, .string b, .int .i64 t] T)).heap.size = w.heap.size + 1 by simp] at this
theorem strEq (d : Nat) (a b : ByteArray) (w : World) : (Op.equalIn (d + 1) 9 (.string a) (.string b)).run Tryd.prog w = .ok (a == b) w := by
  rw [Op.equalIn]
  simp only [Sem.run_bind, run_underlying Tryd.underlying9, Result.andThen_ok]; rfl
theorem ba_beq (a b : ByteArray) : (a == b) = (a.toList == b.toList) := by
  rw [Lib.toList_data, Lib.toList_data]
  obtain ⟨x⟩ := a
  obtain ⟨y⟩ := b
  show (x == y) = (x.toList == y.toList)
  rw [Bool.eq_iff_iff, beq_iff_eq, beq_iff_eq, Array.toList_inj]
theorem ls_same {r b r' b' : ByteArray} {t t' : Int} (h : (r == r' && b == b') = true) : lsB r b t r' b' t' = decide (t' < t) := by
  rw [Bool.and_eq_true, ba_beq, ba_beq] at h
  simp only [lsB, h.1, h.2]; rfl
theorem ls_other {r b r' b' : ByteArray} {t t' : Int} (h : (r == r' && b == b') = false) : lsB r b t r' b' t' = decide (cmp2 r b r' b' < 0) := by
  rw [ba_beq, ba_beq] at h
  have hs : ∀ x y : ByteArray, (x.toList == y.toList) = false → cmpS x y ≠ 0 ∧ decide (cmpS x y < 0) = Op.bytesLess x.toList y.toList := by
    intro x y e
    cases hl : Op.bytesLess x.toList y.toList <;> simp [cmpS, hl, e]
  unfold lsB cmp2
  cases h1 : (r.toList == r'.toList)
  · obtain ⟨g1, g2⟩ := hs _ _ h1
    rw [if_pos g1, g2]; rfl
  · rw [h1, Bool.true_and] at h
    obtain ⟨g1, g2⟩ := hs _ _ h
    have hz : cmpS r r' = 0 := by
      have e : r.toList = r'.toList := by simpa using h1
      simp [cmpS, e, bl_irr]
    rw [if_neg (show ¬ (cmpS r r' ≠ 0) from fun g => g hz), g2, h]; rfl
/-- Since w nothing that was there has turned, and two blocks are there. -/
def Hd (w w' : World) : Prop := Below w.heap.size w w' ∧ w.heap.size + 1 < w'.heap.size
theorem two_next {r b : ByteArray} {t : Int} {r' b' : ByteArray} {t' : Int} {w x y : World} (hb : Below x.heap.size x y)
    (h : x.cell? ⟨w.heap.size, 0, none⟩ = some (.string r) ∧ x.cell? ⟨w.heap.size, 1, none⟩ = some (.string b) ∧ x.cell? ⟨w.heap.size, 2, none⟩ = some (.int .i64 t) ∧ x.cell? ⟨w.heap.size + 1, 0, none⟩ = some (.string r') ∧ x.cell? ⟨w.heap.size + 1, 1, none⟩ = some (.string b') ∧ x.cell? ⟨w.heap.size + 1, 2, none⟩ = some (.int .i64 t') ∧ Hd w x) :
    y.cell? ⟨w.heap.size, 0, none⟩ = some (.string r) ∧ y.cell? ⟨w.heap.size, 1, none⟩ = some (.string b) ∧ y.cell? ⟨w.heap.size, 2, none⟩ = some (.int .i64 t) ∧ y.cell? ⟨w.heap.size + 1, 0, none⟩ = some (.string r') ∧ y.cell? ⟨w.heap.size + 1, 1, none⟩ = some (.string b') ∧ y.cell? ⟨w.heap.size + 1, 2, none⟩ = some (.int .i64 t') ∧ Hd w y := by
  obtain ⟨x0, x1, x2, y0, y1, y2, hd, hl⟩ := h
  have e : y.heap[w.heap.size]? = x.heap[w.heap.size]? := hb.block _ (by omega)
  have e' : y.heap[w.heap.size + 1]? = x.heap[w.heap.size + 1]? := hb.block _ hl
  exact ⟨(World.cell?_of_block (w := x) e).trans x0, (World.cell?_of_block (w := x) e).trans x1, (World.cell?_of_block (w := x) e).trans x2, (World.cell?_of_block (w := x) e').trans y0, (World.cell?_of_block (w := x) e').trans y1, (World.cell?_of_block (w := x) e').trans y2, bel_tr hd hb (Nat.le_refl _), Nat.lt_of_lt_of_le hl hb.size⟩
end Go.Proofs.YtoiphglfngkoiaaDoor.Kp
