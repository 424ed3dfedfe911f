/-
  DERIVED. GIVEN WITH THE SEED: THE CARDS: each row of YtdalncgbbkeimaaGreatDoorRows.lean that lists a variable, with what it lists TIED to the program's text (the seventh form; the later family's looks); each row that meets fmt, with fmt's text TOLD by the authors' own Lean function (tested against real Go, not proved from fmt's source: count such statements apart). THE CARD IS WHAT COUNTS. Prove the row's statement (the work); the ties are given (YtdalncgbbkeimaaGreatDoorTie.lean); close each card by the builder's one call (the guide's Derived/Test/ToyasCard.lean, 'card_holds'). Laid BY PROGRAM, IN A SANDBOX (cutbox-door.mjs). By AI agents, Wed Nov 11 2026. No macro, syntax, notation, axiom, sorry.
-/
import Derived.Test.YtdalncgbbkeimaaGreatDoorRows
import GoSem.ClaimSeven
namespace Go.Proofs.YtdalncgbbkeimaaGreatDoor
namespace Rows

/-- THE TIED CARD OF 'laws.FnShelves'. -/
def fnShelvesCard : Claim7 := { stood := { row := fnShelvesRow, standIns := [], harness := (true, "2a13520c5c9ddf64edf056d0bcb0ccfc7df5d0d39958f994f4fd10459e16dfb2"), looks := true }, kinds := [], alts := [], laidByText := true, laidKinds := [.data, .data, .data, .data, .sentinel, .sentinel, .pinned], laidTests := true, laidLooks := .later }
def FnShelvesCardSaid : Prop := Claim7.holds Tryz.pinned (.plain (OpenSpec.ofChange fnShelvesSpec)) fnShelvesCard

/-- THE SECOND FORM's CARD OF 'laws.FnShelves'. -/
def fnShelvesUptoCard : Claim7 := { stood := { row := fnShelvesUptoRow, standIns := [], harness := (true, "2a13520c5c9ddf64edf056d0bcb0ccfc7df5d0d39958f994f4fd10459e16dfb2"), looks := true }, kinds := [], alts := [], laidByText := true, laidKinds := [.data, .data, .data, .data, .sentinel, .sentinel, .pinned], laidTests := true, laidLooks := .later }
def FnShelvesUptoCardSaid : Prop := Claim7.holds Tryz.pinned (.plain (OpenSpec.upto fnShelvesSpec)) fnShelvesUptoCard
end Rows
end Go.Proofs.YtdalncgbbkeimaaGreatDoor
