/-
  Frames: an end of a recipe that comes in, opened.
-/
import Derived.Test.YtfnnoehpahdgcaaJo
namespace Go.Proofs.Ytfnnoehpahdgcaa.Fr
open Go.ChangeShapes Go.WideShapes Go.ChangeAt Go.RowKit Go.Joins Go.Deep
open Go.ChangeMaps (open_string shut_string)
theorem cSlB : Try.prog.cellsOf 22 = 1 := by kernel_rfl
theorem cIntE : Try.prog.cellsOf 2 = 1 := by kernel_rfl
set_option maxRecDepth 100000 in
theorem binSCells {H : Type} {enc : TypeId × Value → H} {W : World} {fuel : Nat} {cs : List Value} {y : DataW H × List MemPlace}
    (hf : DataW.trod enc Try.prog W 0 (fun _ => true) true fuel 22 cs = some y) :
    ∃ (a : Option Addr) (cap : Nat) (l : List Cl.Bi), cs = [.slice a l.length cap] ∧ Cl.VwI W a cap l ∧ ∀ c ∈ l, c.n.size ≤ maxLen := by
  rcases open_slice Try.underlying22 hf with ⟨hcs, _⟩ | ⟨x, len0, cap, m, n, D, Pl, hcs, -, hle, hm, hmm, -, hi⟩
  · exact ⟨none, 0, [], hcs, ⟨Nat.le_refl _, by decide, fun _ => rfl, fun k c hk => by simp at hk⟩, fun c hc => by cases hc⟩
  · rw [if_pos rfl] at hmm
    subst hmm
    rw [cBin] at hi
    have hone : ∀ i, i < len0 → ∃ c : Cl.Bi, (∃ g o, x = ⟨g, o, none⟩ ∧ g < W.heap.size ∧ Cl.At2 W g (o + i * 2) c) ∧ c.n.size ≤ maxLen := by
      intro i hil
      obtain ⟨cs, hc, ht⟩ := hi i (by omega)
      obtain ⟨s, u, rfl, h1, -⟩ := binCells ht
      obtain ⟨_, hcl, hat⟩ := World.cells?_some hc
      obtain ⟨xb, xo, xs⟩ := x
      have hspot : xs = none := by
        obtain ⟨cs0, hc0, ht0⟩ := hi 0 (by omega)
        obtain ⟨s0, u0, rfl, -⟩ := binCells ht0
        have z0 := (World.cells?_some hc0).2.2 0 (by decide)
        simpa [Addr.add] using World.cell?_spot z0
      subst hspot
      have a0 := hat 0 (by decide)
      have hadd : ∀ k, (Addr.add ⟨xb, xo, none⟩ (i * 2)).add k = ⟨xb, xo + i * 2 + k, none⟩ := fun k => by rw [Go.Deep.add_add]; simp [Addr.add, Nat.add_assoc]
      have hlt := Lib.lt_of_cell a0
      refine ⟨⟨s, u⟩, ⟨xb, xo, rfl, by rw [hadd] at hlt; exact hlt, ?_⟩, h1⟩
      have a1 := hat 1 (by decide)
      rw [hadd] at a0 a1
      exact ⟨a0, a1⟩
    obtain ⟨F, hF⟩ := choose_lt hone
    refine ⟨some x, _, (List.range len0).map F, by rw [List.length_map, List.length_range]; exact hcs, ⟨by simpa using hle, hm, (fun e => by cases e), fun k c hk => ?_⟩, fun c hc => ?_⟩
    · have hkl : k < len0 := by have := (List.getElem?_eq_some_iff.1 hk).1; simpa using this
      rw [List.getElem?_map, List.getElem?_range hkl] at hk
      obtain rfl : F k = c := by simpa using hk
      obtain ⟨⟨g, o, rfl, hg, h5⟩, -⟩ := hF k hkl
      exact ⟨g, o, rfl, hg, h5⟩
    · rw [List.mem_map] at hc
      obtain ⟨k, hk, rfl⟩ := hc
      exact (hF k (by simpa using hk)).2
set_option maxRecDepth 100000 in
theorem cEnd : Try.prog.cellsOf 24 = 3 := by kernel_rfl
set_option maxRecDepth 100000 in
theorem openEnd {H : Type} {enc : TypeId × Value → H} {W : World} {base : Nat} {v : Value} {d : DataW H} {p : List MemPlace} (hv : Value.okWide Try.prog W .any base 24 v)
    (h : DataW.Trod enc Try.prog W 0 (fun _ => true) true 24 v d p) :
    ∃ (c : Int) (a : Option Addr) (cap : Nat) (l : List Cl.Bi) (f : Int), v = .agg #[.int .i64 c, .slice a l.length cap, .int .i64 f] ∧ Cl.VwI W a cap l ∧ (∀ c ∈ l, c.n.size ≤ maxLen) ∧ Wd.I64 c ∧ Wd.I64 f := by
  obtain ⟨cs, rfl, hsz⟩ := okWide_struct Try.underlying24 hv
  obtain ⟨fuel, hf⟩ := h
  simp only [Value.cells] at hf
  obtain ⟨ys, n', hn', hy, hlen, hyl, hfs⟩ := DataW.trod_struct Try.underlying24 hf
  rw [cEnd] at hlen
  match e : cs.toList, hlen with
  | [c0, c1, c2], _ =>
    rw [e] at hfs
    match ys, hyl with
    | [y0, y1, y2], _ =>
      have f0 : DataW.trod enc Try.prog W 0 (fun _ => true) true n' 2 (List.take (Try.prog.cellsOf 2) (List.drop 0 [c0, c1, c2])) = some y0 := hfs 0 _ rfl
      have f1 : DataW.trod enc Try.prog W 0 (fun _ => true) true n' 22 (List.take (Try.prog.cellsOf 22) (List.drop 1 [c0, c1, c2])) = some y1 := hfs 1 _ rfl
      have f2 : DataW.trod enc Try.prog W 0 (fun _ => true) true n' 2 (List.take (Try.prog.cellsOf 2) (List.drop 2 [c0, c1, c2])) = some y2 := hfs 2 _ rfl
      rw [cIntE] at f0 f2
      rw [cSlB] at f1
      obtain ⟨c, e0, -, hc⟩ := DataW.trod_int Try.underlying2 (x := y0) f0
      obtain ⟨a, cap, l, e1, v1, b1⟩ := binSCells (y := y1) f1
      obtain ⟨f, e2, -, hf2⟩ := DataW.trod_int Try.underlying2 (x := y2) f2
      simp at e0 e1 e2
      subst e0 e1 e2
      refine ⟨c, a, cap, l, f, ?_, v1, b1, Wd.i64_of_wf hc, Wd.i64_of_wf hf2⟩
      rw [← Array.toList_inj.1 (show cs.toList = #[Value.int .i64 c, .slice a l.length cap, .int .i64 f].toList from e)]
end Go.Proofs.Ytfnnoehpahdgcaa.Fr
