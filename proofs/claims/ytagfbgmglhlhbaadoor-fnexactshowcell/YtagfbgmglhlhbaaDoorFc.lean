/-
  A cell that comes in, opened; a slice of cells that comes in, opened.
-/
import Derived.Test.YtagfbgmglhlhbaaDoorFr
import Derived.Deep.Slices
import Derived.Deep.Fields
import Derived.ChangeSame
import Derived.Lib.AtoiErrMem
namespace Go.Proofs.YtagfbgmglhlhbaaDoor.Fr
open Go.ChangeShapes Go.WideShapes Go.ChangeAt Go.RowKit Go.Joins Go.Deep
open Go.ChangeMaps (open_string shut_string)
theorem cStr : Tryd.prog.cellsOf 9 = 1 := by kernel_rfl
theorem cInt : Tryd.prog.cellsOf 2 = 1 := by kernel_rfl
theorem cBool : Tryd.prog.cellsOf 4 = 1 := by kernel_rfl
theorem cKey : Tryd.prog.cellsOf 34 = 3 := by kernel_rfl
theorem cCell : Tryd.prog.cellsOf 36 = 5 := by kernel_rfl
set_option maxRecDepth 100000 in
theorem keyCells {H : Type} {enc : TypeId × Value → H} {W : World} {fuel : Nat} {cs : List Value} {x : DataW H × List MemPlace}
    (h : DataW.trod enc Tryd.prog W 0 (fun _ => true) true fuel 34 cs = some x) :
    ∃ (r b : ByteArray) (t : Int), cs = [.string r, .string b, .int .i64 t] ∧ r.size ≤ maxLen ∧ b.size ≤ maxLen ∧ Wd.I64 t := by
  obtain ⟨ys, n', hn', hy, hlen, hyl, hf⟩ := DataW.trod_struct Tryd.underlying34 h
  rw [cKey] at hlen
  match cs, hlen with
  | [c0, c1, c2], _ =>
    match ys, hyl with
    | [y0, y1, y2], _ =>
      have f0 : DataW.trod enc Tryd.prog W 0 (fun _ => true) true n' 9 (List.take (Tryd.prog.cellsOf 9) (List.drop 0 [c0, c1, c2])) = some y0 := hf 0 _ rfl
      have f1 : DataW.trod enc Tryd.prog W 0 (fun _ => true) true n' 9 (List.take (Tryd.prog.cellsOf 9) (List.drop 1 [c0, c1, c2])) = some y1 := hf 1 _ rfl
      have f2 : DataW.trod enc Tryd.prog W 0 (fun _ => true) true n' 2 (List.take (Tryd.prog.cellsOf 2) (List.drop 2 [c0, c1, c2])) = some y2 := hf 2 _ rfl
      rw [cStr] at f0 f1
      rw [cInt] at f2
      obtain ⟨r, e0, -, hr⟩ := DataW.trod_string Tryd.underlying9 (x := y0) f0
      obtain ⟨b, e1, -, hb⟩ := DataW.trod_string Tryd.underlying9 (x := y1) f1
      obtain ⟨t, e2, -, ht⟩ := DataW.trod_int Tryd.underlying2 (x := y2) f2
      simp at e0 e1 e2
      subst e0 e1 e2
      exact ⟨r, b, t, rfl, hr, hb, Wd.i64_of_wf ht⟩
set_option maxRecDepth 100000 in
theorem cellCells {H : Type} {enc : TypeId × Value → H} {W : World} {fuel : Nat} {cs : List Value} {x : DataW H × List MemPlace}
    (h : DataW.trod enc Tryd.prog W 0 (fun _ => true) true fuel 36 cs = some x) :
    ∃ (r b : ByteArray) (t v : Int) (g : Bool), cs = [.string r, .string b, .int .i64 t, .int .i64 v, .bool g] ∧ r.size ≤ maxLen ∧ b.size ≤ maxLen ∧ Wd.I64 t ∧ Wd.I64 v := by
  obtain ⟨ys, n', hn', hy, hlen, hyl, hf⟩ := DataW.trod_struct Tryd.underlying36 h
  rw [cCell] at hlen
  match cs, hlen with
  | [c0, c1, c2, c3, c4], _ =>
    match ys, hyl with
    | [y0, y1, y2], _ =>
      have f0 : DataW.trod enc Tryd.prog W 0 (fun _ => true) true n' 34 (List.take (Tryd.prog.cellsOf 34) (List.drop 0 [c0, c1, c2, c3, c4])) = some y0 := hf 0 _ rfl
      have f1 : DataW.trod enc Tryd.prog W 0 (fun _ => true) true n' 2 (List.take (Tryd.prog.cellsOf 2) (List.drop 3 [c0, c1, c2, c3, c4])) = some y1 := hf 1 _ rfl
      have f2 : DataW.trod enc Tryd.prog W 0 (fun _ => true) true n' 4 (List.take (Tryd.prog.cellsOf 4) (List.drop 4 [c0, c1, c2, c3, c4])) = some y2 := hf 2 _ rfl
      rw [cKey] at f0
      rw [cInt] at f1
      rw [cBool] at f2
      obtain ⟨r, b, t, e0, hr, hb, ht⟩ := keyCells (x := y0) f0
      obtain ⟨v, e1, -, hv⟩ := DataW.trod_int Tryd.underlying2 (x := y1) f1
      obtain ⟨g, e2, -⟩ := DataW.trod_bool Tryd.underlying4 (x := y2) f2
      simp at e0 e1 e2
      obtain ⟨e0, e3, e4⟩ := e0
      subst e0 e1 e2 e3 e4
      exact ⟨r, b, t, v, g, rfl, hr, hb, ht, Wd.i64_of_wf hv⟩
set_option maxRecDepth 100000 in
theorem openCell {H : Type} {enc : TypeId × Value → H} {W : World} {base : Nat} {v : Value} {d : DataW H} {p : List MemPlace} (hv : Value.okWide Tryd.prog W .any base 36 v)
    (h : DataW.Trod enc Tryd.prog W 0 (fun _ => true) true 36 v d p) :
    ∃ (r b : ByteArray) (t u : Int) (g : Bool), v = .agg #[.string r, .string b, .int .i64 t, .int .i64 u, .bool g] ∧ r.size ≤ maxLen ∧ b.size ≤ maxLen ∧ Wd.I64 t ∧ Wd.I64 u := by
  obtain ⟨cs, rfl, hsz⟩ := okWide_struct Tryd.underlying36 hv
  obtain ⟨fuel, hf⟩ := h
  obtain ⟨r, b, t, u, g, e, h1, h2, h3, h4⟩ := cellCells hf
  refine ⟨r, b, t, u, g, ?_, h1, h2, h3, h4⟩
  simp only [Value.cells] at e
  rw [← Array.toList_inj.1 (show cs.toList = #[Value.string r, .string b, .int .i64 t, .int .i64 u, .bool g].toList from e)]
end Go.Proofs.YtagfbgmglhlhbaaDoor.Fr
