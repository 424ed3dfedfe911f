/-
  A code of bytes that comes in, opened: if it is not too long, each of its places holds a byte ('IsBytes').
-/
import Derived.Test.YtdalncgbbkeimaaGreatDoorFr
import Derived.Test.YtdalncgbbkeimaaGreatDoorCu
namespace Go.Proofs.YtdalncgbbkeimaaGreatDoor.Fr
open Go.ChangeShapes Go.WideShapes Go.ChangeAt Go.RowKit Go.Joins
set_option maxRecDepth 100000 in
theorem openBytes {H : Type} {enc : TypeId × Value → H} {W : World} {base : Nat} {v : Value} {d : DataW H} {p : List MemPlace} (hv : Value.okWide Tryz.prog W .any base 22 v)
    (h : DataW.Trod enc Tryz.prog W 0 (fun _ => true) true 22 v d p) :
    ∃ (a : Option Addr) (len cap : Nat), v = .slice a len cap ∧ (len ≤ 4096 → Cu.IsBytes W a len) := by
  obtain ⟨a0, len0, cap0, rfl⟩ := okWide_slice Tryz.underlying22 hv
  refine ⟨a0, len0, cap0, rfl, fun hl => ?_⟩
  obtain ⟨fuel, hf⟩ := h
  rcases open_ints Tryz.underlying22 Tryz.underlying5 (by kernel_rfl) hf with ⟨hcs, _⟩ | ⟨x, l, c, zs, hcs, _, hle, hm, hz, _, hcell, hwz⟩
  · simp [Value.cells] at hcs
    obtain ⟨rfl, rfl, rfl⟩ := hcs
    exact Cu.isBytes_of_row (cap := 0) (zs := []) hl (.inl ⟨rfl, rfl, rfl, rfl⟩)
  · simp [Value.cells] at hcs
    obtain ⟨rfl, rfl, rfl⟩ := hcs
    exact Cu.isBytes_of_row (cap := cap0) (zs := zs) hl (.inr ⟨_, rfl, hle, hm, by simpa using hz, hcell, hwz⟩)
end Go.Proofs.YtdalncgbbkeimaaGreatDoor.Fr
