/-
  The walk of the exact law of BarnOk. (Made by gen_xbo.py.)
-/
import Derived.Test.YtcloejmakjdgcaaBa
namespace Go.Proofs.Ytcloejmakjdgcaa.Cl
open Go.RowKit Wd Rp Kp Ra
set_option linter.unusedVariables false
end Go.Proofs.Ytcloejmakjdgcaa.Cl
