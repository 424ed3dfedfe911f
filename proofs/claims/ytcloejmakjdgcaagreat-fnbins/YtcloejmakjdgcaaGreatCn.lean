/-
  The contract of impl.PutCell: 'putP'. (Made by gen_cn.py.)
-/
import Derived.Test.YtcloejmakjdgcaaGreatCk
import Derived.Test.YtcloejmakjdgcaaGreatCe
import Derived.Test.YtcloejmakjdgcaaGreatCd
namespace Go.Proofs.YtcloejmakjdgcaaGreat.Cl
open Go.RowKit Wd Rp Kp
set_option linter.unusedVariables false
theorem implCells_is {l : List Cel} {x : Bool} (h : okL l = x) (w : World) (a : Option Addr) (cap : Nat) (n : Nat) (hn : l.length = n) (hv : Vw w a cap l) (hlen : n ≤ 4194304) :
    Calls Tryz.prog 50 #[.slice a n cap] w fun e w' => e = .returned (.bool x) ∧ Below w.heap.size w w' := by
  subst hn; rw [← h]; exact implCells_any w a cap l hv hlen
end Go.Proofs.YtcloejmakjdgcaaGreat.Cl
