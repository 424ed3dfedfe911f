/-
  The contract of impl.PutCell: 'putP'. (Made by gen_cn.py.)
-/
import Derived.Test.YtjhcgbhmepgfhaaCk
import Derived.Test.YtjhcgbhmepgfhaaCm
import Derived.Test.YtjhcgbhmepgfhaaCd
namespace Go.Proofs.Ytjhcgbhmepgfhaa.Cl
open Go.RowKit Wd Rp Kp
set_option linter.unusedVariables false
theorem implCells_is {l : List Cel} {x : Bool} (h : okL l = x) (w : World) (a : Option Addr) (cap : Nat) (n : Nat) (hn : l.length = n) (hv : Vw w a cap l) (hlen : n ≤ 4194304) :
    Calls Try.prog 19 #[.slice a n cap] w fun e w' => e = .returned (.bool x) ∧ Below w.heap.size w w' := by
  subst hn; rw [← h]; exact implCells_any w a cap l hv hlen
theorem cellAt_is {l : List Cel} {K : Cel} {m : Nat} {x : Bool} (hm : cnt l K = m) (hx : there l m K = x) (w : World) (a : Option Addr) (cap : Nat) (n : Nat) (hn : l.length = n) (hv : Vw w a cap l) (hl : n ≤ 4194304) (hok : okL l = true) :
    Calls Try.prog 44 #[.slice a n cap, .agg #[.string K.r, .string K.b, .int .i64 K.t]] w fun e w' => e = .returned (.tuple #[.int .i64 (m : Nat), .bool x]) ∧ Below w.heap.size w w' := by
  subst hn; subst hm; rw [← hx]; exact cellAt_any w a cap l K hv hl hok
end Go.Proofs.Ytjhcgbhmepgfhaa.Cl
