/-
  From the row's list of the library's variables to what the contracts ask: the table of powers ('LibT').
-/
import Derived.Test.YtdalncgbbkeimaaDoorTx
import Derived.Test.YtdalncgbbkeimaaDoorRows
import Derived.LaidMore
import Derived.Lib.LaidTab
import Derived.Stop.LaidErr
import Derived.Lib.AtoiErrMem
namespace Go.Proofs.YtdalncgbbkeimaaDoor.Kp
open Go.RowKit Go.ChangeShapes
theorem libT_of {W : World} {r : List (String × DataW Unit)} (h : laidMet Tryd.prog (("internal/strconv.uint64pow10", Rows.laid_internal_strconv_uint64pow10) :: r) W) : LibT W := by
  have e : (Rows.laid_internal_strconv_uint64pow10 : DataW Unit) = Lib.tabData .u64 Lib.pow10Tab := by kernel_rfl
  rw [e] at h
  have ht := Lib.tabIs_of_head (g := 3) gT (by kernel_rfl : (Tryd.prog.globals[3]?).map (·.type) = some 152) Tryd.underlying152 Tryd.underlying119 (by kernel_rfl) (by kernel_rfl) h
  exact ⟨ht, Lib.lt_of_cell (ht.cell gT 0 (by decide))⟩
end Go.Proofs.YtdalncgbbkeimaaDoor.Kp
