/-
  Frames: a slice of bins that comes in, opened.
-/
import Derived.Test.YtfnnoehpahdgcaaGreatDoorFr
import Derived.Test.YtfnnoehpahdgcaaGreatDoorIw
namespace Go.Proofs.YtfnnoehpahdgcaaGreatDoor.Fr
open Go.ChangeShapes Go.WideShapes Go.ChangeAt Go.RowKit Go.Joins Go.Deep
open Go.ChangeMaps (open_string shut_string)
theorem cBin : Tryz.prog.cellsOf 78 = 2 := by kernel_rfl
theorem cStrI : Tryz.prog.cellsOf 9 = 1 := by kernel_rfl
theorem cIntI : Tryz.prog.cellsOf 2 = 1 := by kernel_rfl
set_option maxRecDepth 100000 in
theorem binCells {H : Type} {enc : TypeId × Value → H} {W : World} {fuel : Nat} {cs : List Value} {x : DataW H × List MemPlace}
    (h : DataW.trod enc Tryz.prog W 0 (fun _ => true) true fuel 78 cs = some x) :
    ∃ (s : ByteArray) (v : Int), cs = [.string s, .int .i64 v] ∧ s.size ≤ maxLen ∧ Wd.I64 v := by
  obtain ⟨ys, n', hn', hy, hlen, hyl, hf⟩ := DataW.trod_struct Tryz.underlying78 h
  rw [cBin] at hlen
  match cs, hlen with
  | [c0, c1], _ =>
    match ys, hyl with
    | [y0, y1], _ =>
      have f0 : DataW.trod enc Tryz.prog W 0 (fun _ => true) true n' 9 (List.take (Tryz.prog.cellsOf 9) (List.drop 0 [c0, c1])) = some y0 := hf 0 _ rfl
      have f1 : DataW.trod enc Tryz.prog W 0 (fun _ => true) true n' 2 (List.take (Tryz.prog.cellsOf 2) (List.drop 1 [c0, c1])) = some y1 := hf 1 _ rfl
      rw [cStrI] at f0
      rw [cIntI] at f1
      obtain ⟨s, e0, -, hs⟩ := DataW.trod_string Tryz.underlying9 (x := y0) f0
      obtain ⟨v, e1, -, hv⟩ := DataW.trod_int Tryz.underlying2 (x := y1) f1
      simp at e0 e1
      subst e0 e1
      exact ⟨s, v, rfl, hs, Wd.i64_of_wf hv⟩
set_option maxRecDepth 100000 in
theorem openBins {H : Type} {enc : TypeId × Value → H} {W : World} {base : Nat} {v : Value} {d : DataW H} {p : List MemPlace} (hv : Value.okWide Tryz.prog W .any base 49 v)
    (h : DataW.Trod enc Tryz.prog W 0 (fun _ => true) true 49 v d p) :
    ∃ (a : Option Addr) (cap : Nat) (l : List Cl.Bi), v = .slice a l.length cap ∧ Cl.VwI W a cap l ∧ ∀ c ∈ l, c.n.size ≤ maxLen := by
  obtain ⟨a0, len0, cap0, rfl⟩ := okWide_slice Tryz.underlying49 hv
  obtain ⟨fuel, hf⟩ := h
  rcases open_slice Tryz.underlying49 hf with ⟨hcs, _⟩ | ⟨x, len, cap, m, n, D, Pl, hcs, -, hle, hm, hmm, -, hi⟩
  · simp [Value.cells] at hcs
    obtain ⟨rfl, rfl, rfl⟩ := hcs
    exact ⟨none, 0, [], rfl, ⟨Nat.le_refl _, by decide, fun _ => rfl, fun k c hk => by simp at hk⟩, fun c hc => by cases hc⟩
  · simp [Value.cells] at hcs
    obtain ⟨rfl, rfl, rfl⟩ := hcs
    rw [if_pos rfl] at hmm
    subst hmm
    rw [cBin] at hi
    have hone : ∀ i, i < len0 → ∃ c : Cl.Bi, (∃ g o, x = ⟨g, o, none⟩ ∧ g < W.heap.size ∧ Cl.At2 W g (o + i * 2) c) ∧ c.n.size ≤ maxLen := by
      intro i hil
      obtain ⟨cs, hc, ht⟩ := hi i (by omega)
      obtain ⟨s, u, rfl, h1, -⟩ := binCells ht
      obtain ⟨_, hcl, hat⟩ := World.cells?_some hc
      obtain ⟨xb, xo, xs⟩ := x
      have hspot : xs = none := by
        obtain ⟨cs0, hc0, ht0⟩ := hi 0 (by omega)
        obtain ⟨s0, u0, rfl, -⟩ := binCells ht0
        have z0 := (World.cells?_some hc0).2.2 0 (by decide)
        simpa [Addr.add] using World.cell?_spot z0
      subst hspot
      have a0 := hat 0 (by decide)
      have hadd : ∀ k, (Addr.add ⟨xb, xo, none⟩ (i * 2)).add k = ⟨xb, xo + i * 2 + k, none⟩ := fun k => by rw [Go.Deep.add_add]; simp [Addr.add, Nat.add_assoc]
      have hlt := Lib.lt_of_cell a0
      refine ⟨⟨s, u⟩, ⟨xb, xo, rfl, by rw [hadd] at hlt; exact hlt, ?_⟩, h1⟩
      have a1 := hat 1 (by decide)
      rw [hadd] at a0 a1
      exact ⟨a0, a1⟩
    obtain ⟨F, hF⟩ := choose_lt hone
    refine ⟨some x, _, (List.range len0).map F, by rw [List.length_map, List.length_range], ⟨by simpa using hle, hm, (fun e => by cases e), fun k c hk => ?_⟩, fun c hc => ?_⟩
    · have hkl : k < len0 := by have := (List.getElem?_eq_some_iff.1 hk).1; simpa using this
      rw [List.getElem?_map, List.getElem?_range hkl] at hk
      obtain rfl : F k = c := by simpa using hk
      obtain ⟨⟨g, o, rfl, hg, h5⟩, -⟩ := hF k hkl
      exact ⟨g, o, rfl, hg, h5⟩
    · rw [List.mem_map] at hc
      obtain ⟨k, hk, rfl⟩ := hc
      exact (hF k (by simpa using hk)).2
end Go.Proofs.YtfnnoehpahdgcaaGreatDoor.Fr
