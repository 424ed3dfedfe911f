/-
  From the row's list of the library's variables and the world's shape to what impl.ReadCell asks ('Lib3', 'LibM', 'LibT').
-/
import Derived.Test.YtagfbgmglhlhbaaDoorSd
import Derived.Test.YtagfbgmglhlhbaaDoorRows
import Derived.LaidMore
import Derived.Stop.LaidErr
import Derived.Lib.LaidTab
import Derived.Shelf.Vars
namespace Go.Proofs.YtagfbgmglhlhbaaDoor.Cl
open Go.RowKit Go.ChangeShapes Rp
theorem star : "*" ++ "errors.errorString" = "*errors.errorString" := by decide
theorem rowOf (u : TypeId) (h : Tryd.prog.typeName? 3 u = some "*errors.errorString") : u = 128 :=
  typeName_ptr_named (nm := "errors.errorString") (by rw [star]; kernel_rfl) (by kernel_rfl) (by decide) u (by rw [star]; exact h)
theorem lt_of_var {w : World} {n : String} {g : Nat} {cs : Array Value} {v : Value} (hg : Tryd.prog.globalNamed n = some g) (h : w.var? Tryd.prog n = some cs) (hv : cs[0]? = some v) : g < w.heap.size := by
  have := World.var?_cell hg h 0
  rw [hv] at this
  exact Lib.lt_of_cell this
/-- The tail of the list, from the table on. -/
theorem lib3_of {W : World} {x : DataW Unit} {r : List (String × DataW Unit)} (h : laidMet Tryd.prog (("internal/strconv.uint64pow10", Rows.laid_internal_strconv_uint64pow10) :: ("unicode/utf8.acceptRanges", x) :: ("strconv.ErrRange", Rows.laid_strconv_ErrRange) :: ("strconv.ErrSyntax", Rows.laid_strconv_ErrSyntax) :: r) W) : Lib3 W := by
  have e : (Rows.laid_internal_strconv_uint64pow10 : DataW Unit) = Lib.tabData .u64 Lib.pow10Tab := by kernel_rfl
  have h1 := h
  rw [e] at h1
  have ht := Lib.tabIs_of_head (g := 0) gT (by kernel_rfl : (Tryd.prog.globals[0]?).map (·.type) = some 95) Tryd.underlying95 Tryd.underlying80 (by kernel_rfl) (by kernel_rfl) h1
  obtain ⟨a0, s0, hv0, -, -, -⟩ := laid_sentinel h.tail.tail gR (by kernel_rfl : (Tryd.prog.globals[3]?).map (·.type) = some 64) Tryd.underlying64 rowOf Tryd.underlying128 Tryd.underlying130 rfl rfl Tryd.underlying9 (by kernel_rfl) (by kernel_rfl)
  obtain ⟨a1, s1, hv1, -, -, -⟩ := laid_sentinel h.tail.tail.tail gS (by kernel_rfl : (Tryd.prog.globals[2]?).map (·.type) = some 64) Tryd.underlying64 rowOf Tryd.underlying128 Tryd.underlying130 rfl rfl Tryd.underlying9 (by kernel_rfl) (by kernel_rfl)
  refine ⟨⟨_, _, hv1⟩, ⟨_, _, hv0⟩, ht, lt_of_var gS hv1 rfl, lt_of_var gR hv0 rfl, ?_⟩
  exact Lib.lt_of_cell (ht.cell gT 0 (by decide))
theorem libM_of {W : World} (hsh : W.ShapedOpen Tryd.prog) : LibM W := by
  obtain ⟨m, hm⟩ := cell_of_shapedOpen_int (k := .i64) (g := 1) (t := 3) (zero := #[.int .i64 0]) hsh (by decide +kernel) (by kernel_rfl) rfl (by kernel_rfl) (by kernel_rfl) Tryd.underlying3
  exact ⟨⟨m, hm⟩, Lib.lt_of_cell hm⟩
theorem libT_of3 {W : World} (h : Lib3 W) : Kp.LibT W := ⟨h.2.2.1, h.2.2.2.2.2⟩
/-- What rcV gives, in plain words. -/
theorem rcV_form (l : List (List UInt8)) : ∃ r b t v g ok, rcV l = .tuple #[.agg #[.string r, .string b, .int .i64 t, .int .i64 v, .bool g], .bool ok] := by
  unfold rcV
  split
  · split
    · exact ⟨_, _, _, _, _, _, rfl⟩
    · exact ⟨_, _, _, _, _, _, rfl⟩
  · exact ⟨_, _, _, _, _, _, rfl⟩
set_option maxHeartbeats 1000000 in
theorem eqKey_same (r b : ByteArray) (t : Int) (w : World) :
    Calls Tryd.prog 34 #[.agg #[.string r, .string b, .int .i64 t], .agg #[.string r, .string b, .int .i64 t]] w fun e w' => e = .returned (.bool true) ∧ Below w.heap.size w w' := by
  have HB := Lib.hid (Kp.bel2 w)
  have q1 : (r.toList == r.toList) = true := by simp
  have q2 : (b.toList == b.toList) = true := by simp
  have q3 : (t == t) = true := by simp
  go_enter Tryd.func34, Tryd.ntmps34
  go_wp2
  go_ret
  exact ⟨rfl, HB.out _ _⟩
theorem Bc.two (r b : ByteArray) (t v : Int) (g : Bool) (r' b' : ByteArray) (t' v' : Int) (g' : Bool) (w : World) (T : Nat) :
    Bc w.heap.size r b t v g ((w.alloc (.cells #[.string r, .string b, .int .i64 t, .int .i64 v, .bool g] T)).alloc (.cells #[.string r', .string b', .int .i64 t', .int .i64 v', .bool g'] T)) ∧ Bc (w.heap.size + 1) r' b' t' v' g' ((w.alloc (.cells #[.string r, .string b, .int .i64 t, .int .i64 v, .bool g] T)).alloc (.cells #[.string r', .string b', .int .i64 t', .int .i64 v', .bool g'] T)) := by
  refine ⟨(Bc.made r b t v g w T).next (Kp.bel1 _ _), ?_⟩
  have := Bc.made r' b' t' v' g' (w.alloc (.cells #[.string r, .string b, .int .i64 t, .int .i64 v, .bool g] T)) T
  rwa [show (w.alloc (.cells #[.string r, .string b, .int .i64 t, .int .i64 v, .bool g] T)).heap.size = w.heap.size + 1 by simp] at this
set_option maxHeartbeats 1000000 in
theorem eqCell_same (r b : ByteArray) (t v : Int) (g : Bool) (w : World) :
    Calls Tryd.prog 16 #[.agg #[.string r, .string b, .int .i64 t, .int .i64 v, .bool g], .agg #[.string r, .string b, .int .i64 t, .int .i64 v, .bool g]] w fun e w' => e = .returned (.bool true) ∧ Below w.heap.size w w' := by
  have HB := Lib.hid (Kp.bel2 w)
  have HX := Lib.hid (Bc.two r b t v g r b t v g w)
  have q1 : (v == v) = true := by simp
  have q2 : (g == g) = true := by simp
  go_enter Tryd.func16, Tryd.ntmps16
  go_wp2_with fail
  refine (eqKey_same r b t _).mono ?_; rintro e w1 ⟨rfl, b1⟩
  have B1 := Lib.hid (Kp.bel_tr (HB.out _ _) b1 (Nat.le_refl _))
  obtain ⟨-, -, -, x3, x4, -⟩ := (HX.out _).1.next b1
  obtain ⟨-, -, -, y3, y4, -⟩ := (HX.out _).2.next b1
  clear b1
  go_wp2_with fail
  go_ret
  exact ⟨rfl, B1.out⟩
end Go.Proofs.YtagfbgmglhlhbaaDoor.Cl
