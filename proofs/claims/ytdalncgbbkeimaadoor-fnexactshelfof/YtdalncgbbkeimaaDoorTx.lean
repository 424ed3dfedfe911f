/-
  Base: texts by their bytes, pieces of a text, worlds that have only grown, slices of texts that a call has made, the library's table of powers.
-/
import Derived.Test.YtdalncgbbkeimaaDoorWd
import Derived.WalkSpells
import Derived.Below
import Derived.Carry
import Derived.WalkSmall
import Derived.Laws.Closers25b
import Derived.Lib.Strings
import Derived.Lib.SmallJoins
import Derived.Lib.ItoaMem
import Derived.Lib.AppendIntMem
import Derived.Maps.AppendAt
import Derived.OwnWalk
namespace Go.Proofs.YtdalncgbbkeimaaDoor.Kp
open Go.RowKit Wd
theorem llen (s : ByteArray) : s.data.toList.length = s.size := (Lib.size_eq s).symm
theorem ltake_snoc (s : ByteArray) (k : Nat) (h : k < s.size) : s.data.toList.take (k + 1) = s.data.toList.take k ++ [s[k]] := by
  rw [List.take_succ_eq_append_getElem (by simpa using h)]; rfl
theorem lnot_all {p : UInt8 → Bool} (s : ByteArray) (k : Nat) (h : k < s.size) (hd : p s[k] = false) : s.data.toList.all p = false := by
  cases ha : s.data.toList.all p with
  | false => rfl
  | true =>
    rw [List.all_eq_true] at ha
    have hm : s[k] ∈ s.data.toList := by
      rw [List.mem_iff_getElem?]
      exact ⟨k, by rw [List.getElem?_eq_getElem (by rw [llen]; exact h)]; rfl⟩
    rw [ha _ hm] at hd; cases hd
theorem bel1 (w : World) (o : Obj) : Below w.heap.size w (w.alloc o) := (Below.refl _ _).alloc (Nat.le_refl _) o
theorem bel2 (w : World) (o p : Obj) : Below w.heap.size w ((w.alloc o).alloc p) := (bel1 w o).alloc (bel1 w o).size p
theorem bel3 (w : World) (o p q : Obj) : Below w.heap.size w (((w.alloc o).alloc p).alloc q) := (bel2 w o p).alloc (bel2 w o p).size q
theorem bel_tr {B : Nat} {x y z : World} (h : Below B x y) (k : Below y.heap.size y z) (hB : B ≤ x.heap.size) : Below B x z := h.trans (k.mono (Nat.le_trans hB h.size))
theorem bel_drewN {B : Nat} {a w : World} (h : Below B a w) (n : Nat) : Below B a (w.drewN n) := ⟨h.os, h.tape, h.output, h.size, h.block⟩
/-- A text by its bytes. -/
def tx (l : List UInt8) : ByteArray := ⟨l.toArray⟩
theorem tx_data (l : List UInt8) : (tx l).data.toList = l := by simp [tx]
theorem tx_size (l : List UInt8) : (tx l).size = l.length := by rw [Lib.size_eq, tx_data]
theorem tx_app (l m : List UInt8) : tx l ++ tx m = tx (l ++ m) := by
  apply ByteArray.ext
  apply Array.toList_inj.1
  rw [Joins.data_append, tx_data, tx_data, tx_data]
theorem tx_of (s : ByteArray) : tx s.data.toList = s := by
  obtain ⟨a⟩ := s; simp [tx]
theorem tx_eq {s : ByteArray} {l : List UInt8} (h : s.data.toList = l) : s = tx l := by rw [← h, tx_of]

/-- The library's table of powers lies as the text lays it. -/
def LibT (w : World) : Prop := Lib.TabIs Tryd.prog w "internal/strconv.uint64pow10" .u64 Lib.pow10Tab ∧ 3 < w.heap.size
theorem gT : Tryd.prog.globalNamed "internal/strconv.uint64pow10" = some 3 := by kernel_rfl
theorem LibT.next {w w' : World} (h : LibT w) (hb : Below w.heap.size w w') : LibT w' := ⟨var?_below hb gT h.2 h.1, Nat.lt_of_lt_of_le h.2 hb.size⟩
/-- The bytes from f on, up to k. -/
def sub (s : ByteArray) (f k : Nat) : List UInt8 := (s.data.toList.take k).drop f
theorem sub_ext (s : ByteArray) (f k : Nat) : s.extract f k = tx (sub s f k) := by
  apply tx_eq
  rw [Lib.extract_data]; unfold sub
  rw [List.drop_take]
theorem sub_snoc (s : ByteArray) (f k : Nat) (hf : f ≤ k) (h : k < s.size) : sub s f (k + 1) = sub s f k ++ [s[k]] := by
  unfold sub
  rw [ltake_snoc s k h, List.drop_append_of_le_length]
  rw [List.length_take, llen]; omega
theorem sub_self (s : ByteArray) (k : Nat) : sub s k k = [] := by
  unfold sub; apply List.drop_eq_nil_of_le; rw [List.length_take]; omega
theorem drop_cons (s : ByteArray) (k : Nat) (h : k < s.size) : s.data.toList.drop k = s[k] :: s.data.toList.drop (k + 1) := by
  rw [List.drop_eq_getElem_cons (by rw [llen]; exact h)]; rfl
theorem drop_all (s : ByteArray) : s.data.toList.drop s.size = [] := List.drop_eq_nil_of_le (by rw [llen]; exact Nat.le_refl _)
/-- A slice of these texts that the call has made. -/
def OwnS (B : Nat) (w : World) (v : Value) (l : List (List UInt8)) : Prop := v ≠ .slice none 0 0 ∧ w.ownsRow B 9 1 v l.length (l.map fun p => .string (tx p))
theorem infoS : (Tryd.prog.info? 9).map (fun i => (i.zero, i.size, i.bytes)) = some (some (.string ⟨#[]⟩), 1, 16) := by kernel_rfl
theorem OwnS.start {B : Nat} {w : World} (h : B ≤ w.heap.size) : OwnS B (w.alloc (.cells #[] 9)) (.slice (some ⟨w.heap.size, 0, none⟩) 0 0) [] :=
  ⟨(fun e => by cases e), World.ownsRow_made w #[] 0 h (by decide) rfl⟩
theorem OwnS.snoc {B : Nat} {w : World} {v : Value} {l : List (List UInt8)} {p : List UInt8} (hv : v ≠ .slice none 0 0) (h : w.ownsRow B 9 1 v (l.length + 1) ((l.map fun p => .string (tx p)) ++ [.string (tx p)])) : OwnS B w v (l ++ [p]) :=
  ⟨hv, by rw [List.length_append, List.length_singleton, List.map_append]; exact h⟩
def intV : Value → Nat | .int _ n => n.toNat | _ => 0
theorem OwnS.any {B : Nat} {w : World} {v : Value} {l : List (List UInt8)} (h : OwnS B w v l) : ∃ g cap, v = .slice (some ⟨g, 0, none⟩) l.length cap := by
  obtain ⟨h0, hl, h1⟩ := h
  rcases h1 with ⟨rfl, _⟩ | ⟨g, cap, cur, rfl, _⟩
  · exact absurd rfl h0
  · exact ⟨g, cap, rfl⟩
theorem OwnS.cell {B : Nat} {w : World} {l : List (List UInt8)} {g n cap : Nat} (h : OwnS B w (.slice (some ⟨g, 0, none⟩) n cap) l) : n = l.length ∧ B ≤ g ∧ g < w.heap.size ∧ n ≤ cap ∧ ∀ j (hj : j < l.length), w.cell? ⟨g, j, none⟩ = some (.string (tx l[j])) := by
  obtain ⟨h0, hl, h1⟩ := h
  rcases h1 with ⟨e, _⟩ | ⟨g', cap', cur, e, hb, hg, hn, hc, hsz, hxs⟩
  · exact absurd e h0
  · cases e
    refine ⟨rfl, hb, (Array.getElem?_eq_some_iff.1 hg).1, hn, fun j hj => ?_⟩
    have e1 : (l.map fun p => Value.string (tx p))[j]? = some (.string (tx l[j])) := by rw [List.getElem?_map, List.getElem?_eq_getElem hj]; rfl
    rw [← hxs, List.getElem?_take_of_lt (by omega)] at e1
    simpa [World.cell?, hg] using e1
end Go.Proofs.YtdalncgbbkeimaaDoor.Kp
