/-
  DERIVED. GIVEN WITH THE SEED: THE CARDS: each row of YtjnmoaigggobkaaDoorRows.lean that lists a variable, with what it lists TIED to the program's text (the seventh form; the later family's looks); each row that meets fmt, with fmt's text TOLD by the authors' own Lean function (tested against real Go, not proved from fmt's source: count such statements apart). THE CARD IS WHAT COUNTS. Prove the row's statement (the work); the ties are given (YtjnmoaigggobkaaDoorTie.lean); close each card by the builder's one call (the guide's Derived/Test/ToyasCard.lean, 'card_holds'). Laid BY PROGRAM, IN A SANDBOX (cutbox-door.mjs). By AI agents, Wed Nov 11 2026. No macro, syntax, notation, axiom, sorry.
-/
import Derived.Test.YtjnmoaigggobkaaDoorRows
import GoSem.ClaimSeven
namespace Go.Proofs.YtjnmoaigggobkaaDoor
namespace Rows

/-- THE TIED CARD OF 'laws.FnReadWord'. -/
def fnReadWordCard : Claim7 := { stood := { row := fnReadWordRow, standIns := [], harness := (true, "f8136fecdec5aa76ca73a3ffd1a5e20704d1db705eba0514afa6412d3b53482f"), looks := true }, kinds := [], alts := [], laidByText := true, laidKinds := [.data, .data, .data, .sentinel, .sentinel], laidTests := true, laidLooks := .later }
def FnReadWordCardSaid : Prop := Claim7.holds Tryd.pinned (.plain (OpenSpec.ofChange fnReadWordSpec)) fnReadWordCard

/-- THE TIED CARD OF 'laws.FnExactReadWord'. -/
def fnExactReadWordCard : Claim7 := { stood := { row := fnExactReadWordRow, standIns := [], harness := (true, "f8136fecdec5aa76ca73a3ffd1a5e20704d1db705eba0514afa6412d3b53482f"), looks := true }, kinds := [], alts := [], laidByText := true, laidKinds := [.data, .data, .data, .sentinel, .sentinel], laidTests := true, laidLooks := .later }
def FnExactReadWordCardSaid : Prop := Claim7.holds Tryd.pinned (.plain (OpenSpec.ofChange fnExactReadWordSpec)) fnExactReadWordCard

/-- THE SECOND FORM's CARD OF 'laws.FnReadWord'. -/
def fnReadWordUptoCard : Claim7 := { stood := { row := fnReadWordUptoRow, standIns := [], harness := (true, "f8136fecdec5aa76ca73a3ffd1a5e20704d1db705eba0514afa6412d3b53482f"), looks := true }, kinds := [], alts := [], laidByText := true, laidKinds := [.data, .data, .data, .sentinel, .sentinel], laidTests := true, laidLooks := .later }
def FnReadWordUptoCardSaid : Prop := Claim7.holds Tryd.pinned (.plain (OpenSpec.upto fnReadWordSpec)) fnReadWordUptoCard

/-- THE SECOND FORM's CARD OF 'laws.FnExactReadWord'. -/
def fnExactReadWordUptoCard : Claim7 := { stood := { row := fnExactReadWordUptoRow, standIns := [], harness := (true, "f8136fecdec5aa76ca73a3ffd1a5e20704d1db705eba0514afa6412d3b53482f"), looks := true }, kinds := [], alts := [], laidByText := true, laidKinds := [.data, .data, .data, .sentinel, .sentinel], laidTests := true, laidLooks := .later }
def FnExactReadWordUptoCardSaid : Prop := Claim7.holds Tryd.pinned (.plain (OpenSpec.upto fnExactReadWordSpec)) fnExactReadWordUptoCard
end Rows
end Go.Proofs.YtjnmoaigggobkaaDoor
