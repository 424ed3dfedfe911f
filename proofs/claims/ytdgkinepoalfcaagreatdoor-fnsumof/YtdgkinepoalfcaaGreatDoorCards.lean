/-
  DERIVED. GIVEN WITH THE SEED: THE CARDS: each row of YtdgkinepoalfcaaGreatDoorRows.lean that lists a variable, with what it lists TIED to the program's text (the seventh form; the later family's looks); each row that meets fmt, with fmt's text TOLD by the authors' own Lean function (tested against real Go, not proved from fmt's source: count such statements apart). THE CARD IS WHAT COUNTS. Prove the row's statement (the work); the ties are given (YtdgkinepoalfcaaGreatDoorTie.lean); close each card by the builder's one call (the guide's Derived/Test/ToyasCard.lean, 'card_holds'). Laid BY PROGRAM, IN A SANDBOX (cutbox-door.mjs). By AI agents, Wed Nov 11 2026. No macro, syntax, notation, axiom, sorry.
-/
import Derived.Test.YtdgkinepoalfcaaGreatDoorRows
import GoSem.ClaimSeven
namespace Go.Proofs.YtdgkinepoalfcaaGreatDoor
namespace Rows

/-- THE TIED CARD OF 'laws.FnSumOf'. -/
def fnSumOfCard : Claim7 := { stood := { row := fnSumOfRow, standIns := [], harness := (true, "4a3cfdcefec8dd64865b193183c08f494c6d6a4fd9f97da5b8d28142c56f127e"), looks := true }, kinds := [], alts := [], laidByText := true, laidKinds := [.data, .data, .data, .sentinel, .sentinel], laidTests := true, laidLooks := .later }
def FnSumOfCardSaid : Prop := Claim7.holds Tryz.pinned (.plain (OpenSpec.ofChange fnSumOfSpec)) fnSumOfCard

/-- THE SECOND FORM's CARD OF 'laws.FnSumOf'. -/
def fnSumOfUptoCard : Claim7 := { stood := { row := fnSumOfUptoRow, standIns := [], harness := (true, "4a3cfdcefec8dd64865b193183c08f494c6d6a4fd9f97da5b8d28142c56f127e"), looks := true }, kinds := [], alts := [], laidByText := true, laidKinds := [.data, .data, .data, .sentinel, .sentinel], laidTests := true, laidLooks := .later }
def FnSumOfUptoCardSaid : Prop := Claim7.holds Tryz.pinned (.plain (OpenSpec.upto fnSumOfSpec)) fnSumOfUptoCard
end Rows
end Go.Proofs.YtdgkinepoalfcaaGreatDoor
