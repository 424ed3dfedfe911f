/-
  From the row's list of the library's variables and the world's shape to what impl.ReadCell asks ('Lib3', 'LibM', 'LibT').
-/
import Derived.Test.YtdalncgbbkeimaaDoorSd
import Derived.Test.YtdalncgbbkeimaaDoorCe
import Derived.Test.YtdalncgbbkeimaaDoorRows
import Derived.LaidMore
import Derived.Stop.LaidErr
import Derived.Lib.LaidTab
import Derived.Shelf.Vars
namespace Go.Proofs.YtdalncgbbkeimaaDoor.Cl
open Go.RowKit Go.ChangeShapes Rp
theorem star : "*" ++ "errors.errorString" = "*errors.errorString" := by decide
theorem rowOf (u : TypeId) (h : Tryd.prog.typeName? 3 u = some "*errors.errorString") : u = 162 :=
  typeName_ptr_named (nm := "errors.errorString") (by rw [star]; kernel_rfl) (by kernel_rfl) (by decide) u (by rw [star]; exact h)
theorem lt_of_var {w : World} {n : String} {g : Nat} {cs : Array Value} {v : Value} (hg : Tryd.prog.globalNamed n = some g) (h : w.var? Tryd.prog n = some cs) (hv : cs[0]? = some v) : g < w.heap.size := by
  have := World.var?_cell hg h 0
  rw [hv] at this
  exact Lib.lt_of_cell this
/-- The tail of the list, from the table on. -/
theorem lib3_of {W : World} {x : DataW Unit} {r : List (String × DataW Unit)} (h : laidMet Tryd.prog (("internal/strconv.uint64pow10", Rows.laid_internal_strconv_uint64pow10) :: ("unicode/utf8.acceptRanges", x) :: ("strconv.ErrRange", Rows.laid_strconv_ErrRange) :: ("strconv.ErrSyntax", Rows.laid_strconv_ErrSyntax) :: r) W) : Lib3 W := by
  have e : (Rows.laid_internal_strconv_uint64pow10 : DataW Unit) = Lib.tabData .u64 Lib.pow10Tab := by kernel_rfl
  have h1 := h
  rw [e] at h1
  have ht := Lib.tabIs_of_head (g := 3) gT (by kernel_rfl : (Tryd.prog.globals[3]?).map (·.type) = some 152) Tryd.underlying152 Tryd.underlying119 (by kernel_rfl) (by kernel_rfl) h1
  obtain ⟨a0, s0, hv0, -, -, -⟩ := laid_sentinel h.tail.tail gR (by kernel_rfl : (Tryd.prog.globals[2]?).map (·.type) = some 74) Tryd.underlying74 rowOf Tryd.underlying162 Tryd.underlying164 rfl rfl Tryd.underlying9 (by kernel_rfl) (by kernel_rfl)
  obtain ⟨a1, s1, hv1, -, -, -⟩ := laid_sentinel h.tail.tail.tail gS (by kernel_rfl : (Tryd.prog.globals[1]?).map (·.type) = some 74) Tryd.underlying74 rowOf Tryd.underlying162 Tryd.underlying164 rfl rfl Tryd.underlying9 (by kernel_rfl) (by kernel_rfl)
  refine ⟨⟨_, _, hv1⟩, ⟨_, _, hv0⟩, ht, lt_of_var gS hv1 rfl, lt_of_var gR hv0 rfl, ?_⟩
  exact Lib.lt_of_cell (ht.cell gT 0 (by decide))
theorem libM_of {W : World} (hsh : W.ShapedOpen Tryd.prog) : LibM W := by
  obtain ⟨m, hm⟩ := cell_of_shapedOpen_int (k := .i64) (g := 0) (t := 3) (zero := #[.int .i64 0]) hsh (by decide +kernel) (by kernel_rfl) rfl (by kernel_rfl) (by kernel_rfl) Tryd.underlying3
  exact ⟨⟨m, hm⟩, Lib.lt_of_cell hm⟩
theorem libT_of3 {W : World} (h : Lib3 W) : Kp.LibT W := ⟨h.2.2.1, h.2.2.2.2.2⟩
/-- What rcV gives, in plain words. -/
theorem rcV_form (l : List (List UInt8)) : ∃ r b t v g ok, rcV l = .tuple #[.agg #[.string r, .string b, .int .i64 t, .int .i64 v, .bool g], .bool ok] := by
  unfold rcV
  split
  · split
    · exact ⟨_, _, _, _, _, _, rfl⟩
    · exact ⟨_, _, _, _, _, _, rfl⟩
  · exact ⟨_, _, _, _, _, _, rfl⟩
end Go.Proofs.YtdalncgbbkeimaaDoor.Cl
