/-
  From the row's list of the library's variables to what ReadOp asks: 'Lib3', 'HdO', 'McO'.
-/
import Derived.Test.YtoiphglfngkoiaaDoorOx
import Derived.Test.YtoiphglfngkoiaaDoorRl
import Derived.Test.YtoiphglfngkoiaaDoorKb
namespace Go.Proofs.YtoiphglfngkoiaaDoor.Cl
open Go.RowKit Wd Rp Kp Go.ChangeShapes
set_option linter.unusedVariables false
theorem lib3O_of {W : World} {r : List (String × DataW Unit)} (h : laidMet Tryd.prog ([("internal/strconv.uint64pow10", Rows.laid_internal_strconv_uint64pow10), ("strconv.ErrRange", Rows.laid_strconv_ErrRange), ("strconv.ErrSyntax", Rows.laid_strconv_ErrSyntax)] ++ r) W) : Lib3 W := by
  have e : (Rows.laid_internal_strconv_uint64pow10 : DataW Unit) = Lib.tabData .u64 Lib.pow10Tab := by kernel_rfl
  have h1 := h
  rw [e] at h1
  have ht := Lib.tabIs_of_head (g := 1) Rp.gT (by kernel_rfl : (Tryd.prog.globals[1]?).map (·.type) = some 85) Tryd.underlying85 Tryd.underlying74 (by kernel_rfl) (by kernel_rfl) h1
  obtain ⟨a0, s0, hv0, -, -, -⟩ := laid_sentinel h.tail gR (by kernel_rfl : (Tryd.prog.globals[4]?).map (·.type) = some 69) Tryd.underlying69 rowOf Tryd.underlying110 Tryd.underlying112 rfl rfl Tryd.underlying9 (by kernel_rfl) (by kernel_rfl)
  obtain ⟨a1, s1, hv1, -, -, -⟩ := laid_sentinel h.tail.tail gS (by kernel_rfl : (Tryd.prog.globals[3]?).map (·.type) = some 69) Tryd.underlying69 rowOf Tryd.underlying110 Tryd.underlying112 rfl rfl Tryd.underlying9 (by kernel_rfl) (by kernel_rfl)
  refine ⟨⟨_, _, hv1⟩, ⟨_, _, hv0⟩, ht, lt_of_var gS hv1 rfl, lt_of_var gR hv0 rfl, ?_⟩
  exact Lib.lt_of_cell (ht.cell Rp.gT 0 (by decide))
theorem mcO_of {W : World} (hsh : W.ShapedOpen Tryd.prog) : McO W := by
  obtain ⟨m, hm⟩ := cell_of_shapedOpen_int (k := .i64) (g := 2) (t := 3) (zero := #[.int .i64 0]) hsh (by decide +kernel) (by kernel_rfl) rfl (by kernel_rfl) (by kernel_rfl) Tryd.underlying3
  exact ⟨⟨m, hm⟩, Lib.lt_of_cell hm⟩
theorem roV_form (o : Option Ov) : ∃ (x : Ov) (ok : Bool), roV o = .tuple #[.agg #[.int .i64 x.k, .int .i64 x.n, .string (tx x.m)], .bool ok] := by
  cases o with
  | none => exact ⟨⟨0, 0, []⟩, false, rfl⟩
  | some x => exact ⟨x, true, rfl⟩
end Go.Proofs.YtoiphglfngkoiaaDoor.Cl
