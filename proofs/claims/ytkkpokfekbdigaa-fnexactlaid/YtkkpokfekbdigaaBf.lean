/-
  A store that comes in, opened.
-/
import Derived.Test.YtkkpokfekbdigaaFr
import Derived.Test.YtkkpokfekbdigaaBa
namespace Go.Proofs.Ytkkpokfekbdigaa.Fr
open Go.ChangeShapes Go.WideShapes Go.ChangeAt Go.RowKit Go.Joins Go.Deep
open Go.ChangeMaps (open_string shut_string)
instance : Inhabited Ra.Hd := ⟨⟨none, 0, 0⟩⟩
theorem cSl : Try.prog.cellsOf 60 = 1 := by kernel_rfl
theorem cSs : Try.prog.cellsOf 69 = 1 := by kernel_rfl
theorem cBarn : Try.prog.cellsOf 71 = 2 := by kernel_rfl
set_option maxRecDepth 100000 in
theorem sliceCells {H : Type} {enc : TypeId × Value → H} {W : World} {fuel : Nat} {cs : List Value} {y : DataW H × List MemPlace}
    (hf : DataW.trod enc Try.prog W 0 (fun _ => true) true fuel 60 cs = some y) :
    ∃ (a : Option Addr) (cap : Nat) (l : List Cl.Cel), cs = [.slice a l.length cap] ∧ Cl.Vw W a cap l ∧ ∀ c ∈ l, c.r.size ≤ maxLen ∧ c.b.size ≤ maxLen := by
  rcases open_slice Try.underlying60 hf with ⟨hcs, _⟩ | ⟨x, len0, cap, m, n, D, Pl, hcs, -, hle, hm, hmm, -, hi⟩
  · exact ⟨none, 0, [], hcs, ⟨Nat.le_refl _, by decide, fun _ => rfl, fun k c hk => by simp at hk⟩, fun c hc => by cases hc⟩
  · rw [if_pos rfl] at hmm
    subst hmm
    rw [cCell] at hi
    have hone : ∀ i, i < len0 → ∃ c : Cl.Cel, (∃ g o, x = ⟨g, o, none⟩ ∧ g < W.heap.size ∧ Cl.At5 W g (o + i * 5) c) ∧ c.r.size ≤ maxLen ∧ c.b.size ≤ maxLen := by
      intro i hil
      obtain ⟨cs, hc, ht⟩ := hi i (by omega)
      obtain ⟨r, b, t, u, g, rfl, h1, h2, -, -⟩ := cellCells ht
      obtain ⟨_, hcl, hat⟩ := World.cells?_some hc
      obtain ⟨xb, xo, xs⟩ := x
      have hspot : xs = none := by
        obtain ⟨cs0, hc0, ht0⟩ := hi 0 (by omega)
        obtain ⟨r0, b0, t0, u0, g0, rfl, -⟩ := cellCells ht0
        have z0 := (World.cells?_some hc0).2.2 0 (by decide)
        simpa [Addr.add] using World.cell?_spot z0
      subst hspot
      have a0 := hat 0 (by decide)
      have hadd : ∀ k, (Addr.add ⟨xb, xo, none⟩ (i * 5)).add k = ⟨xb, xo + i * 5 + k, none⟩ := fun k => by rw [Go.Deep.add_add]; simp [Addr.add, Nat.add_assoc]
      have hlt := Lib.lt_of_cell a0
      refine ⟨⟨r, b, t, u, g⟩, ⟨xb, xo, rfl, by rw [hadd] at hlt; exact hlt, ?_⟩, h1, h2⟩
      have a1 := hat 1 (by decide)
      have a2 := hat 2 (by decide)
      have a3 := hat 3 (by decide)
      have a4 := hat 4 (by decide)
      rw [hadd] at a0 a1 a2 a3 a4
      exact ⟨a0, a1, a2, a3, a4⟩
    obtain ⟨F, hF⟩ := choose_lt hone
    refine ⟨some x, _, (List.range len0).map F, by rw [List.length_map, List.length_range]; exact hcs, ⟨by simpa using hle, hm, (fun e => by cases e), fun k c hk => ?_⟩, fun c hc => ?_⟩
    · have hkl : k < len0 := by have := (List.getElem?_eq_some_iff.1 hk).1; simpa using this
      rw [List.getElem?_map, List.getElem?_range hkl] at hk
      obtain rfl : F k = c := by simpa using hk
      obtain ⟨⟨g, o, rfl, hg, h5⟩, -⟩ := hF k hkl
      exact ⟨g, o, rfl, hg, h5⟩
    · rw [List.mem_map] at hc
      obtain ⟨k, hk, rfl⟩ := hc
      exact (hF k (by simpa using hk)).2
set_option maxRecDepth 100000 in
theorem shelfCells {H : Type} {enc : TypeId × Value → H} {W : World} {fuel : Nat} {cs : List Value} {y : DataW H × List MemPlace}
    (hf : DataW.trod enc Try.prog W 0 (fun _ => true) true fuel 69 cs = some y) :
    ∃ (a : Option Addr) (cap : Nat) (hs : List Ra.Hd) (ss : List (List Cl.Cel)), cs = [.slice a ss.length cap] ∧ Cl.VwS W a cap hs ss ∧ ∀ l ∈ ss, ∀ c ∈ l, c.r.size ≤ maxLen ∧ c.b.size ≤ maxLen := by
  rcases open_slice Try.underlying69 hf with ⟨hcs, _⟩ | ⟨x, len0, cap, m, n, D, Pl, hcs, -, hle, hm, hmm, -, hi⟩
  · exact ⟨none, 0, [], [], hcs, ⟨⟨rfl, fun j h l h1 => by simp at h1⟩, Nat.le_refl _, by decide, fun _ => rfl, fun k c hk => by simp at hk⟩, fun c hc => by cases hc⟩
  · rw [if_pos rfl] at hmm
    subst hmm
    rw [cSl] at hi
    have hone : ∀ i, i < len0 → ∃ c : Ra.Hd × List Cl.Cel, (∃ g o, x = ⟨g, o, none⟩ ∧ g < W.heap.size ∧ W.cell? ⟨g, o + i, none⟩ = some (.slice c.1.a c.1.n c.1.c)) ∧ c.1.n = c.2.length ∧ Cl.Vw W c.1.a c.1.c c.2 ∧ ∀ d ∈ c.2, d.r.size ≤ maxLen ∧ d.b.size ≤ maxLen := by
      intro i hil
      obtain ⟨cs, hc, ht⟩ := hi i (by omega)
      obtain ⟨a, ca, l, rfl, hv, hb⟩ := sliceCells ht
      obtain ⟨_, hcl, hat⟩ := World.cells?_some hc
      obtain ⟨xb, xo, xs⟩ := x
      have hspot : xs = none := by
        obtain ⟨cs0, hc0, ht0⟩ := hi 0 (by omega)
        obtain ⟨a0, ca0, l0, rfl, -⟩ := sliceCells ht0
        have z0 := (World.cells?_some hc0).2.2 0 (by decide)
        simpa [Addr.add] using World.cell?_spot z0
      subst hspot
      have a0 := hat 0 (by decide)
      have hadd : ∀ k, (Addr.add ⟨xb, xo, none⟩ (i * 1)).add k = ⟨xb, xo + i + k, none⟩ := fun k => by rw [Go.Deep.add_add]; simp [Addr.add, Nat.add_assoc]
      have hlt := Lib.lt_of_cell a0
      rw [hadd] at a0
      exact ⟨(⟨a, l.length, ca⟩, l), ⟨xb, xo, rfl, by rw [hadd] at hlt; exact hlt, a0⟩, rfl, hv, hb⟩
    obtain ⟨F, hF⟩ := choose_lt hone
    have key : ∀ k, k < len0 → ((List.range len0).map fun i => (F i).1)[k]? = some (F k).1 := fun k hk => by rw [List.getElem?_map, List.getElem?_range hk]; rfl
    refine ⟨some x, _, (List.range len0).map (fun i => (F i).1), (List.range len0).map (fun i => (F i).2), by rw [List.length_map, List.length_range]; exact hcs, ⟨⟨by simp, fun j h l h1 h2 => ?_⟩, by simpa using hle, hm, (fun e => by cases e), fun k c hk => ?_⟩, fun l hl => ?_⟩
    · have hkl : j < len0 := by have := (List.getElem?_eq_some_iff.1 h1).1; simpa using this
      rw [List.getElem?_map, List.getElem?_range hkl] at h1 h2
      obtain rfl : (F j).1 = h := by simpa using h1
      obtain rfl : (F j).2 = l := by simpa using h2
      exact ⟨(hF j hkl).2.1, (hF j hkl).2.2.1⟩
    · have hkl : k < len0 := by have := (List.getElem?_eq_some_iff.1 hk).1; simpa using this
      rw [List.getElem?_map, List.getElem?_range hkl] at hk
      obtain rfl : (F k).1 = c := by simpa using hk
      obtain ⟨⟨g, o, rfl, hg, h5⟩, -⟩ := hF k hkl
      exact ⟨g, o, rfl, hg, h5⟩
    · rw [List.mem_map] at hl
      obtain ⟨k, hk, rfl⟩ := hl
      exact (hF k (by simpa using hk)).2.2.2
set_option maxRecDepth 100000 in
theorem openBarn {H : Type} {enc : TypeId × Value → H} {W : World} {base : Nat} {v : Value} {d : DataW H} {p : List MemPlace} (hv : Value.okWide Try.prog W .any base 71 v)
    (h : DataW.Trod enc Try.prog W 0 (fun _ => true) true 71 v d p) :
    ∃ (a sa : Option Addr) (c sc : Nat) (l : List Cl.Cel) (hs : List Ra.Hd) (ss : List (List Cl.Cel)), v = .agg #[.slice a l.length c, .slice sa ss.length sc] ∧ Cl.Vw W a c l ∧ Cl.VwS W sa sc hs ss ∧
      (∀ c ∈ l, c.r.size ≤ maxLen ∧ c.b.size ≤ maxLen) ∧ ∀ l ∈ ss, ∀ c ∈ l, c.r.size ≤ maxLen ∧ c.b.size ≤ maxLen := by
  obtain ⟨cs, rfl, hsz⟩ := okWide_struct Try.underlying71 hv
  obtain ⟨fuel, hf⟩ := h
  simp only [Value.cells] at hf
  obtain ⟨ys, n', hn', hy, hlen, hyl, hfs⟩ := DataW.trod_struct Try.underlying71 hf
  rw [cBarn] at hlen
  match e : cs.toList, hlen with
  | [c0, c1], _ =>
    rw [e] at hfs
    match ys, hyl with
    | [y0, y1], _ =>
      have f0 : DataW.trod enc Try.prog W 0 (fun _ => true) true n' 60 (List.take (Try.prog.cellsOf 60) (List.drop 0 [c0, c1])) = some y0 := hfs 0 _ rfl
      have f1 : DataW.trod enc Try.prog W 0 (fun _ => true) true n' 69 (List.take (Try.prog.cellsOf 69) (List.drop 1 [c0, c1])) = some y1 := hfs 1 _ rfl
      rw [cSl] at f0
      rw [cSs] at f1
      obtain ⟨a, c, l, e0, v0, b0⟩ := sliceCells (y := y0) f0
      obtain ⟨sa, sc, hs, ss, e1, v1, b1⟩ := shelfCells (y := y1) f1
      simp at e0 e1
      subst e0 e1
      refine ⟨a, sa, c, sc, l, hs, ss, ?_, v0, v1, b0, b1⟩
      rw [← Array.toList_inj.1 (show cs.toList = #[Value.slice a l.length c, .slice sa ss.length sc].toList from e)]
end Go.Proofs.Ytkkpokfekbdigaa.Fr
