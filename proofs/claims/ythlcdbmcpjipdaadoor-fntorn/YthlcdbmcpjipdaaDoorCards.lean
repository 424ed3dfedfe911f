/-
  DERIVED. GIVEN WITH THE SEED: THE CARDS: each row of YthlcdbmcpjipdaaDoorRows.lean that lists a variable, with what it lists TIED to the program's text (the seventh form; the later family's looks); each row that meets fmt, with fmt's text TOLD by the authors' own Lean function (tested against real Go, not proved from fmt's source: count such statements apart). THE CARD IS WHAT COUNTS. Prove the row's statement (the work); the ties are given (YthlcdbmcpjipdaaDoorTie.lean); close each card by the builder's one call (the guide's Derived/Test/ToyasCard.lean, 'card_holds'). Laid BY PROGRAM, IN A SANDBOX (cutbox-door.mjs). By AI agents, Wed Nov 11 2026. No macro, syntax, notation, axiom, sorry.
-/
import Derived.Test.YthlcdbmcpjipdaaDoorRows
import GoSem.ClaimSeven
namespace Go.Proofs.YthlcdbmcpjipdaaDoor
namespace Rows

/-- THE TIED CARD OF 'laws.FnFrames'. -/
def fnFramesCard : Claim7 := { stood := { row := fnFramesRow, standIns := [], harness := (true, "67e7abd7a3843577f73edeaaaf2d75b5acd414cba7a8d5ade6979446933a7041"), looks := false }, kinds := [], alts := [], laidByText := true, laidKinds := [.data, .data, .data], laidTests := true, laidLooks := .later }
def FnFramesCardSaid : Prop := Claim7.holds Tryd.pinned (.plain (OpenSpec.ofChange fnFramesSpec)) fnFramesCard

/-- THE TIED CARD OF 'laws.FnTorn'. -/
def fnTornCard : Claim7 := { stood := { row := fnTornRow, standIns := [], harness := (true, "67e7abd7a3843577f73edeaaaf2d75b5acd414cba7a8d5ade6979446933a7041"), looks := false }, kinds := [], alts := [], laidByText := true, laidKinds := [.data, .data, .data], laidTests := true, laidLooks := .later }
def FnTornCardSaid : Prop := Claim7.holds Tryd.pinned (.plain (OpenSpec.ofChange fnTornSpec)) fnTornCard

/-- THE TIED CARD OF 'laws.FnExactFramed'. -/
def fnExactFramedCard : Claim7 := { stood := { row := fnExactFramedRow, standIns := [], harness := (true, "67e7abd7a3843577f73edeaaaf2d75b5acd414cba7a8d5ade6979446933a7041"), looks := false }, kinds := [], alts := [], laidByText := true, laidKinds := [.data, .data, .data], laidTests := true, laidLooks := .later }
def FnExactFramedCardSaid : Prop := Claim7.holds Tryd.pinned (.plain (OpenSpec.ofChange fnExactFramedSpec)) fnExactFramedCard

/-- THE TIED CARD OF 'laws.FnExactFramesIn'. -/
def fnExactFramesInCard : Claim7 := { stood := { row := fnExactFramesInRow, standIns := [], harness := (true, "67e7abd7a3843577f73edeaaaf2d75b5acd414cba7a8d5ade6979446933a7041"), looks := false }, kinds := [], alts := [], laidByText := true, laidKinds := [.data, .data, .data], laidTests := true, laidLooks := .later }
def FnExactFramesInCardSaid : Prop := Claim7.holds Tryd.pinned (.plain (OpenSpec.ofChange fnExactFramesInSpec)) fnExactFramesInCard

/-- THE TIED CARD OF 'laws.FnExactAppended'. -/
def fnExactAppendedCard : Claim7 := { stood := { row := fnExactAppendedRow, standIns := [], harness := (true, "67e7abd7a3843577f73edeaaaf2d75b5acd414cba7a8d5ade6979446933a7041"), looks := false }, kinds := [], alts := [], laidByText := true, laidKinds := [.data, .data, .data], laidTests := true, laidLooks := .later }
def FnExactAppendedCardSaid : Prop := Claim7.holds Tryd.pinned (.plain (OpenSpec.ofChange fnExactAppendedSpec)) fnExactAppendedCard

/-- THE SECOND FORM's CARD OF 'laws.FnFrames'. -/
def fnFramesUptoCard : Claim7 := { stood := { row := fnFramesUptoRow, standIns := [], harness := (true, "67e7abd7a3843577f73edeaaaf2d75b5acd414cba7a8d5ade6979446933a7041"), looks := false }, kinds := [], alts := [], laidByText := true, laidKinds := [.data, .data, .data], laidTests := true, laidLooks := .later }
def FnFramesUptoCardSaid : Prop := Claim7.holds Tryd.pinned (.plain (OpenSpec.upto fnFramesSpec)) fnFramesUptoCard

/-- THE SECOND FORM's CARD OF 'laws.FnTorn'. -/
def fnTornUptoCard : Claim7 := { stood := { row := fnTornUptoRow, standIns := [], harness := (true, "67e7abd7a3843577f73edeaaaf2d75b5acd414cba7a8d5ade6979446933a7041"), looks := false }, kinds := [], alts := [], laidByText := true, laidKinds := [.data, .data, .data], laidTests := true, laidLooks := .later }
def FnTornUptoCardSaid : Prop := Claim7.holds Tryd.pinned (.plain (OpenSpec.upto fnTornSpec)) fnTornUptoCard

/-- THE SECOND FORM's CARD OF 'laws.FnExactFramed'. -/
def fnExactFramedUptoCard : Claim7 := { stood := { row := fnExactFramedUptoRow, standIns := [], harness := (true, "67e7abd7a3843577f73edeaaaf2d75b5acd414cba7a8d5ade6979446933a7041"), looks := false }, kinds := [], alts := [], laidByText := true, laidKinds := [.data, .data, .data], laidTests := true, laidLooks := .later }
def FnExactFramedUptoCardSaid : Prop := Claim7.holds Tryd.pinned (.plain (OpenSpec.upto fnExactFramedSpec)) fnExactFramedUptoCard

/-- THE SECOND FORM's CARD OF 'laws.FnExactFramesIn'. -/
def fnExactFramesInUptoCard : Claim7 := { stood := { row := fnExactFramesInUptoRow, standIns := [], harness := (true, "67e7abd7a3843577f73edeaaaf2d75b5acd414cba7a8d5ade6979446933a7041"), looks := false }, kinds := [], alts := [], laidByText := true, laidKinds := [.data, .data, .data], laidTests := true, laidLooks := .later }
def FnExactFramesInUptoCardSaid : Prop := Claim7.holds Tryd.pinned (.plain (OpenSpec.upto fnExactFramesInSpec)) fnExactFramesInUptoCard

/-- THE SECOND FORM's CARD OF 'laws.FnExactAppended'. -/
def fnExactAppendedUptoCard : Claim7 := { stood := { row := fnExactAppendedUptoRow, standIns := [], harness := (true, "67e7abd7a3843577f73edeaaaf2d75b5acd414cba7a8d5ade6979446933a7041"), looks := false }, kinds := [], alts := [], laidByText := true, laidKinds := [.data, .data, .data], laidTests := true, laidLooks := .later }
def FnExactAppendedUptoCardSaid : Prop := Claim7.holds Tryd.pinned (.plain (OpenSpec.upto fnExactAppendedSpec)) fnExactAppendedUptoCard
end Rows
end Go.Proofs.YthlcdbmcpjipdaaDoor
