/-
  Frames: a slice of texts that comes in, a slice of numbers that comes in, opened.
-/
import Derived.Test.YtfnnoehpahdgcaaGreatDoorFr
import Derived.Test.YtfnnoehpahdgcaaGreatDoorYb
namespace Go.Proofs.YtfnnoehpahdgcaaGreatDoor.Fr
open Go.ChangeShapes Go.WideShapes Go.ChangeAt Go.RowKit Go.Joins Go.Deep
open Go.ChangeMaps (open_string shut_string)
theorem cStrT : Tryz.prog.cellsOf 9 = 1 := by kernel_rfl
theorem cIntT : Tryz.prog.cellsOf 2 = 1 := by kernel_rfl
set_option maxRecDepth 100000 in
theorem openTexts {H : Type} {enc : TypeId × Value → H} {W : World} {base : Nat} {v : Value} {d : DataW H} {p : List MemPlace} (hv : Value.okWide Tryz.prog W .any base 24 v)
    (h : DataW.Trod enc Tryz.prog W 0 (fun _ => true) true 24 v d p) :
    ∃ (a : Option Addr) (cap : Nat) (l : List Cl.Tk), v = .slice a l.length cap ∧ Cl.V1 W a cap (Cl.txL l) ∧ ∀ s ∈ l, s.length ≤ maxLen := by
  obtain ⟨a0, len0, cap0, rfl⟩ := okWide_slice Tryz.underlying24 hv
  obtain ⟨fuel, hf⟩ := h
  rcases open_slice Tryz.underlying24 hf with ⟨hcs, _⟩ | ⟨x, len, cap, m, n, D, Pl, hcs, -, hle, hm, hmm, -, hi⟩
  · simp [Value.cells] at hcs
    obtain ⟨rfl, rfl, rfl⟩ := hcs
    exact ⟨none, 0, [], rfl, ⟨Nat.le_refl _, by decide, fun _ => rfl, fun k c hk => by simp [Cl.txL] at hk⟩, fun c hc => by cases hc⟩
  · simp [Value.cells] at hcs
    obtain ⟨rfl, rfl, rfl⟩ := hcs
    rw [if_pos rfl] at hmm
    subst hmm
    rw [cStrT] at hi
    have hone : ∀ i, i < len0 → ∃ c : Cl.Tk, (∃ g o, x = ⟨g, o, none⟩ ∧ g < W.heap.size ∧ W.cell? ⟨g, o + i, none⟩ = some (.string (Kp.tx c))) ∧ c.length ≤ maxLen := by
      intro i hil
      obtain ⟨cs, hc, ht⟩ := hi i (by omega)
      obtain ⟨s, rfl, -, h1⟩ := DataW.trod_string Tryz.underlying9 ht
      obtain ⟨_, hcl, hat⟩ := World.cells?_some hc
      obtain ⟨xb, xo, xs⟩ := x
      have hspot : xs = none := by
        obtain ⟨cs0, hc0, ht0⟩ := hi 0 (by omega)
        obtain ⟨s0, rfl, -⟩ := DataW.trod_string Tryz.underlying9 ht0
        have z0 := (World.cells?_some hc0).2.2 0 (by decide)
        simpa [Addr.add] using World.cell?_spot z0
      subst hspot
      have a0 := hat 0 (by decide)
      have hadd : (Addr.add ⟨xb, xo, none⟩ (i * 1)).add 0 = ⟨xb, xo + i, none⟩ := by cases i <;> simp [Addr.add]
      rw [hadd] at a0
      have hlt := Lib.lt_of_cell a0
      refine ⟨s.data.toList, ⟨xb, xo, rfl, hlt, ?_⟩, by rw [Kp.llen]; exact h1⟩
      rw [Kp.tx_of]; exact a0
    obtain ⟨F, hF⟩ := choose_lt hone
    refine ⟨some x, _, (List.range len0).map F, by rw [List.length_map, List.length_range], ⟨by rw [Cl.txL_len, List.length_map, List.length_range]; exact hle, hm, (fun e => by cases e), fun k c hk => ?_⟩, fun c hc => ?_⟩
    · unfold Cl.txL at hk
      have hkl : k < len0 := by have := (List.getElem?_eq_some_iff.1 hk).1; simpa using this
      rw [List.getElem?_map, List.getElem?_map, List.getElem?_range hkl] at hk
      obtain rfl : Cl.tv (F k) = c := by simpa using hk
      obtain ⟨⟨g, o, rfl, hg, h5⟩, -⟩ := hF k hkl
      exact ⟨g, o, rfl, hg, h5⟩
    · rw [List.mem_map] at hc
      obtain ⟨k, hk, rfl⟩ := hc
      exact (hF k (by simpa using hk)).2
set_option maxRecDepth 100000 in
theorem openInts {H : Type} {enc : TypeId × Value → H} {W : World} {base : Nat} {v : Value} {d : DataW H} {p : List MemPlace} (hv : Value.okWide Tryz.prog W .any base 26 v)
    (h : DataW.Trod enc Tryz.prog W 0 (fun _ => true) true 26 v d p) :
    ∃ (a : Option Addr) (cap : Nat) (l : List Int), v = .slice a l.length cap ∧ Cl.V1 W a cap (Cl.inL l) ∧ ∀ s ∈ l, Wd.I64 s := by
  obtain ⟨a0, len0, cap0, rfl⟩ := okWide_slice Tryz.underlying26 hv
  obtain ⟨fuel, hf⟩ := h
  rcases open_slice Tryz.underlying26 hf with ⟨hcs, _⟩ | ⟨x, len, cap, m, n, D, Pl, hcs, -, hle, hm, hmm, -, hi⟩
  · simp [Value.cells] at hcs
    obtain ⟨rfl, rfl, rfl⟩ := hcs
    exact ⟨none, 0, [], rfl, ⟨Nat.le_refl _, by decide, fun _ => rfl, fun k c hk => by simp [Cl.inL] at hk⟩, fun c hc => by cases hc⟩
  · simp [Value.cells] at hcs
    obtain ⟨rfl, rfl, rfl⟩ := hcs
    rw [if_pos rfl] at hmm
    subst hmm
    rw [cIntT] at hi
    have hone : ∀ i, i < len0 → ∃ c : Int, (∃ g o, x = ⟨g, o, none⟩ ∧ g < W.heap.size ∧ W.cell? ⟨g, o + i, none⟩ = some (.int .i64 c)) ∧ Wd.I64 c := by
      intro i hil
      obtain ⟨cs, hc, ht⟩ := hi i (by omega)
      obtain ⟨s, rfl, -, h1⟩ := DataW.trod_int Tryz.underlying2 ht
      obtain ⟨_, hcl, hat⟩ := World.cells?_some hc
      obtain ⟨xb, xo, xs⟩ := x
      have hspot : xs = none := by
        obtain ⟨cs0, hc0, ht0⟩ := hi 0 (by omega)
        obtain ⟨s0, rfl, -⟩ := DataW.trod_int Tryz.underlying2 ht0
        have z0 := (World.cells?_some hc0).2.2 0 (by decide)
        simpa [Addr.add] using World.cell?_spot z0
      subst hspot
      have a0 := hat 0 (by decide)
      have hadd : (Addr.add ⟨xb, xo, none⟩ (i * 1)).add 0 = ⟨xb, xo + i, none⟩ := by cases i <;> simp [Addr.add]
      rw [hadd] at a0
      have hlt := Lib.lt_of_cell a0
      exact ⟨s, ⟨xb, xo, rfl, hlt, a0⟩, Wd.i64_of_wf h1⟩
    obtain ⟨F, hF⟩ := choose_lt hone
    refine ⟨some x, _, (List.range len0).map F, by rw [List.length_map, List.length_range], ⟨by rw [Cl.inL_len, List.length_map, List.length_range]; exact hle, hm, (fun e => by cases e), fun k c hk => ?_⟩, fun c hc => ?_⟩
    · unfold Cl.inL at hk
      have hkl : k < len0 := by have := (List.getElem?_eq_some_iff.1 hk).1; simpa using this
      rw [List.getElem?_map, List.getElem?_map, List.getElem?_range hkl] at hk
      obtain rfl : Cl.iv (F k) = c := by simpa using hk
      obtain ⟨⟨g, o, rfl, hg, h5⟩, -⟩ := hF k hkl
      exact ⟨g, o, rfl, hg, h5⟩
    · rw [List.mem_map] at hc
      obtain ⟨k, hk, rfl⟩ := hc
      exact (hF k (by simpa using hk)).2
end Go.Proofs.YtfnnoehpahdgcaaGreatDoor.Fr
