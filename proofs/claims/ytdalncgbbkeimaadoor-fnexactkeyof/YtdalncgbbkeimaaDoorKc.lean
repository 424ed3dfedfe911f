/-
  From the row's list of the library's variables and the world's shape to what impl.KeyOf asks ('LibO'); laws.eqKey at equal keys.
-/
import Derived.Test.YtdalncgbbkeimaaDoorKi
import Derived.Test.YtdalncgbbkeimaaDoorKb
import Derived.Shelf.Vars
namespace Go.Proofs.YtdalncgbbkeimaaDoor.Kp
open Go.RowKit Go.ChangeShapes
theorem star : "*" ++ "errors.errorString" = "*errors.errorString" := by decide
theorem rowOf (u : TypeId) (h : Tryd.prog.typeName? 3 u = some "*errors.errorString") : u = 162 :=
  typeName_ptr_named (nm := "errors.errorString") (by rw [star]; kernel_rfl) (by kernel_rfl) (by decide) u (by rw [star]; exact h)
theorem lt_of_var {w : World} {n : String} {g : Nat} {cs : Array Value} {v : Value} (hg : Tryd.prog.globalNamed n = some g) (h : w.var? Tryd.prog n = some cs) (hv : cs[0]? = some v) : g < w.heap.size := by
  have := World.var?_cell hg h 0
  rw [hv] at this
  exact Lib.lt_of_cell this
theorem libO_of {W : World} (h : laidMet Tryd.prog [("internal/strconv.uint64pow10", Rows.laid_internal_strconv_uint64pow10), ("strconv.ErrRange", Rows.laid_strconv_ErrRange), ("strconv.ErrSyntax", Rows.laid_strconv_ErrSyntax)] W) (hsh : W.ShapedOpen Tryd.prog) : LibO W := by
  obtain ⟨a0, s0, hv0, -, -, -⟩ := laid_sentinel h.tail gR (by kernel_rfl : (Tryd.prog.globals[2]?).map (·.type) = some 74) Tryd.underlying74 rowOf Tryd.underlying162 Tryd.underlying164 rfl rfl Tryd.underlying9 (by kernel_rfl) (by kernel_rfl)
  obtain ⟨a1, s1, hv1, -, -, -⟩ := laid_sentinel h.tail.tail gS (by kernel_rfl : (Tryd.prog.globals[1]?).map (·.type) = some 74) Tryd.underlying74 rowOf Tryd.underlying162 Tryd.underlying164 rfl rfl Tryd.underlying9 (by kernel_rfl) (by kernel_rfl)
  obtain ⟨m, hm⟩ := cell_of_shapedOpen_int (k := .i64) (g := 0) (t := 3) (zero := #[.int .i64 0]) hsh (by decide +kernel) (by kernel_rfl) rfl (by kernel_rfl) (by kernel_rfl) Tryd.underlying3
  exact ⟨libT_of h, ⟨_, _, hv1⟩, ⟨_, _, hv0⟩, ⟨m, hm⟩, lt_of_var gS hv1 rfl, lt_of_var gR hv0 rfl, Lib.lt_of_cell hm⟩
theorem kofV_form (o : Option (List UInt8 × List UInt8 × Int)) : ∃ r b t f, kofV o = .tuple #[.agg #[.string r, .string b, .int .i64 t], .bool f] := by
  match o with
  | none => exact ⟨_, _, _, _, rfl⟩
  | some (a, b, t) => exact ⟨_, _, _, _, rfl⟩
set_option maxHeartbeats 1000000 in
theorem eqKey_same (r b : ByteArray) (t : Int) (w : World) :
    Calls Tryd.prog 34 #[.agg #[.string r, .string b, .int .i64 t], .agg #[.string r, .string b, .int .i64 t]] w fun e w' => e = .returned (.bool true) ∧ Below w.heap.size w w' := by
  have HB := Lib.hid (bel2 w)
  have q1 : (r.toList == r.toList) = true := by simp
  have q2 : (b.toList == b.toList) = true := by simp
  have q3 : (t == t) = true := by simp
  go_enter Tryd.func34, Tryd.ntmps34
  go_wp2
  go_ret
  exact ⟨rfl, HB.out _ _⟩
end Go.Proofs.YtdalncgbbkeimaaDoor.Kp
