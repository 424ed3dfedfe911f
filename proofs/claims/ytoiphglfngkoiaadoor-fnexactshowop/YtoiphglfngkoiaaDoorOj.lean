/-
  Frames: an instruction that comes in, opened.
-/
import Derived.Test.YtoiphglfngkoiaaDoorFr
import Derived.Test.YtoiphglfngkoiaaDoorOi
namespace Go.Proofs.YtoiphglfngkoiaaDoor.Fr
open Go.ChangeShapes Go.WideShapes Go.ChangeAt Go.RowKit Go.Joins Go.Deep
open Go.ChangeMaps (open_string shut_string)
set_option maxRecDepth 100000 in
theorem cOp : Tryd.prog.cellsOf 32 = 3 := by kernel_rfl
theorem cIntO : Tryd.prog.cellsOf 2 = 1 := by kernel_rfl
theorem cStrO : Tryd.prog.cellsOf 9 = 1 := by kernel_rfl
set_option maxRecDepth 100000 in
theorem openOp {H : Type} {enc : TypeId × Value → H} {W : World} {base : Nat} {v : Value} {d : DataW H} {p : List MemPlace} (hv : Value.okWide Tryd.prog W .any base 32 v)
    (h : DataW.Trod enc Tryd.prog W 0 (fun _ => true) true 32 v d p) :
    ∃ (k n : Int) (m : Cl.Tk), v = .agg #[.int .i64 k, .int .i64 n, .string (Kp.tx m)] ∧ m.length ≤ maxLen ∧ Wd.I64 k ∧ Wd.I64 n := by
  obtain ⟨cs, rfl, hsz⟩ := okWide_struct Tryd.underlying32 hv
  obtain ⟨fuel, hf⟩ := h
  simp only [Value.cells] at hf
  obtain ⟨ys, n', hn', hy, hlen, hyl, hfs⟩ := DataW.trod_struct Tryd.underlying32 hf
  rw [cOp] at hlen
  match e : cs.toList, hlen with
  | [c0, c1, c2], _ =>
    rw [e] at hfs
    match ys, hyl with
    | [y0, y1, y2], _ =>
      have f0 : DataW.trod enc Tryd.prog W 0 (fun _ => true) true n' 2 (List.take (Tryd.prog.cellsOf 2) (List.drop 0 [c0, c1, c2])) = some y0 := hfs 0 _ rfl
      have f1 : DataW.trod enc Tryd.prog W 0 (fun _ => true) true n' 2 (List.take (Tryd.prog.cellsOf 2) (List.drop 1 [c0, c1, c2])) = some y1 := hfs 1 _ rfl
      have f2 : DataW.trod enc Tryd.prog W 0 (fun _ => true) true n' 9 (List.take (Tryd.prog.cellsOf 9) (List.drop 2 [c0, c1, c2])) = some y2 := hfs 2 _ rfl
      rw [cIntO] at f0 f1
      rw [cStrO] at f2
      obtain ⟨k, e0, -, hk⟩ := DataW.trod_int Tryd.underlying2 (x := y0) f0
      obtain ⟨x, e1, -, hx⟩ := DataW.trod_int Tryd.underlying2 (x := y1) f1
      obtain ⟨s, e2, -, hs⟩ := DataW.trod_string Tryd.underlying9 (x := y2) f2
      simp at e0 e1 e2
      subst e0 e1 e2
      refine ⟨k, x, s.toList, ?_, by rw [Lib.toList_data, Array.length_toList]; exact hs, Wd.i64_of_wf hk, Wd.i64_of_wf hx⟩
      rw [show Kp.tx s.toList = s by rw [Lib.toList_data]; rfl, ← Array.toList_inj.1 (show cs.toList = #[Value.int .i64 k, .int .i64 x, .string s].toList from e)]
end Go.Proofs.YtoiphglfngkoiaaDoor.Fr
