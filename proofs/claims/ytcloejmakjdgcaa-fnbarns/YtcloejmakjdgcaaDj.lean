/-
  Draws of FnCells: a list and a cell (spec.DrawPutCell), a list and a place (spec.l4DrawAt, DrawFind).
-/
import Derived.Test.YtcloejmakjdgcaaDf
import Derived.RegionTactic
import Derived.BigRegion
import Derived.IntWalk
import Derived.Deep.QuietTactic
import Derived.BigQuiet
namespace Go.Proofs.Ytcloejmakjdgcaa.Cl
open Go.RowKit Wd Rp Cu Kp
set_option linter.unusedVariables false
theorem isBytes_nx {w w' : World} {a : Option Addr} {len : Nat} (h : IsBytes w a len) (hb : Below w.heap.size w w') : IsBytes w' a len := ⟨h.1, fun hl => by
  obtain ⟨ab, ao, h1, h2, h3⟩ := h.2 hl
  refine ⟨ab, ao, h1, Nat.lt_of_lt_of_le h2 hb.size, fun k hk => ?_⟩
  obtain ⟨z, h4, h5⟩ := h3 k hk
  exact ⟨z, (World.cell?_of_block (w := w) (hb.block ab h2)).trans h4, h5⟩⟩
end Go.Proofs.Ytcloejmakjdgcaa.Cl
