/-
  spec.BarnOk and impl.BarnOk at stores of the call's own.
-/
import Derived.Test.YtefhdhblcaopiaaBc
import Derived.Test.YtefhdhblcaopiaaBg
import Derived.Test.YtefhdhblcaopiaaRc
namespace Go.Proofs.Ytefhdhblcaopiaa.Cl
open Go.RowKit Wd Rp Kp Ra
set_option linter.unusedVariables false
theorem specBarnO {B : Nat} {hv sv : Value} {h : List Cel} {ss : List (List Cel)} (w : World) (o : OwB B w hv sv h ss) (hlow : Low h ss) (hmod : Mod h ss) :
    Calls Try.prog 24 #[.agg #[hv, sv]] w fun e w' => e = .returned (.bool (okB h ss)) ∧ Below w.heap.size w w' := by
  obtain ⟨a, c, sa, sc, hs, rfl, rfl, h1, h2⟩ := o.view
  exact specBarn_any w a sa c sc _ _ h hs ss rfl rfl h1 h2 hlow hmod
theorem implBarnO {B : Nat} {hv sv : Value} {h : List Cel} {ss : List (List Cel)} (w : World) (o : OwB B w hv sv h ss) (hlow : Low h ss) :
    Calls Try.prog 23 #[.agg #[hv, sv]] w fun e w' => e = .returned (.bool (okB h ss)) ∧ Below w.heap.size w w' := by
  obtain ⟨a, c, sa, sc, hs, rfl, rfl, h1, h2⟩ := o.view
  exact implBarn_any w a sa c sc _ _ h hs ss rfl rfl h1 h2 hlow
theorem barnI_is {h : List Cel} {ss : List (List Cel)} {x : Bool} (e : okB h ss = x) (w : World) (a sa : Option Addr) (c sc n sn : Nat) (hs : List Hd) (hn : h.length = n) (hsn : ss.length = sn) (hv : Vw w a c h) (hvs : VwS w sa sc hs ss) (hlow : Low h ss) :
    Calls Try.prog 23 #[.agg #[.slice a n c, .slice sa sn sc]] w fun e w' => e = .returned (.bool x) ∧ Below w.heap.size w w' := by
  rw [← e]; exact implBarn_any w a sa c sc n sn h hs ss hn hsn hv hvs hlow
end Go.Proofs.Ytefhdhblcaopiaa.Cl
