/-
  DERIVED. GIVEN WITH THE SEED: THE CARDS: each row of YtfnnoehpahdgcaaGreatDoorRows.lean that lists a variable, with what it lists TIED to the program's text (the seventh form; the later family's looks); each row that meets fmt, with fmt's text TOLD by the authors' own Lean function (tested against real Go, not proved from fmt's source: count such statements apart). THE CARD IS WHAT COUNTS. Prove the row's statement (the work); the ties are given (YtfnnoehpahdgcaaGreatDoorTie.lean); close each card by the builder's one call (the guide's Derived/Test/ToyasCard.lean, 'card_holds'). Laid BY PROGRAM, IN A SANDBOX (cutbox-door.mjs). By AI agents, Wed Nov 11 2026. No macro, syntax, notation, axiom, sorry.
-/
import Derived.Test.YtfnnoehpahdgcaaGreatDoorRows
import GoSem.ClaimSeven
namespace Go.Proofs.YtfnnoehpahdgcaaGreatDoor
namespace Rows

/-- THE TIED CARD OF 'laws.FnMeans'. -/
def fnMeansCard : Claim7 := { stood := { row := fnMeansRow, standIns := [], harness := (true, "cd3cc0e5522648959acd48973a9bdad8d56ca5d729f8e96e9cf073747923f11e"), looks := true }, kinds := [], alts := [], laidByText := true, laidKinds := [.data, .data, .data, .sentinel, .sentinel], laidTests := true, laidLooks := .later }
def FnMeansCardSaid : Prop := Claim7.holds Tryz.pinned (.plain (OpenSpec.ofChange fnMeansSpec)) fnMeansCard

/-- THE TIED CARD OF 'laws.FnTouched'. -/
def fnTouchedCard : Claim7 := { stood := { row := fnTouchedRow, standIns := [], harness := (true, "cd3cc0e5522648959acd48973a9bdad8d56ca5d729f8e96e9cf073747923f11e"), looks := true }, kinds := [], alts := [], laidByText := true, laidKinds := [.data, .data, .data, .sentinel, .sentinel], laidTests := true, laidLooks := .later }
def FnTouchedCardSaid : Prop := Claim7.holds Tryz.pinned (.plain (OpenSpec.ofChange fnTouchedSpec)) fnTouchedCard

/-- THE TIED CARD OF 'laws.FnExactMeans'. -/
def fnExactMeansCard : Claim7 := { stood := { row := fnExactMeansRow, standIns := [], harness := (true, "cd3cc0e5522648959acd48973a9bdad8d56ca5d729f8e96e9cf073747923f11e"), looks := true }, kinds := [], alts := [], laidByText := true, laidKinds := [.data, .data, .data, .sentinel, .sentinel], laidTests := true, laidLooks := .later }
def FnExactMeansCardSaid : Prop := Claim7.holds Tryz.pinned (.plain (OpenSpec.ofChange fnExactMeansSpec)) fnExactMeansCard

/-- THE TIED CARD OF 'laws.FnExactSteps'. -/
def fnExactStepsCard : Claim7 := { stood := { row := fnExactStepsRow, standIns := [], harness := (true, "cd3cc0e5522648959acd48973a9bdad8d56ca5d729f8e96e9cf073747923f11e"), looks := true }, kinds := [], alts := [], laidByText := true, laidKinds := [.data, .data, .data, .sentinel, .sentinel], laidTests := true, laidLooks := .later }
def FnExactStepsCardSaid : Prop := Claim7.holds Tryz.pinned (.plain (OpenSpec.ofChange fnExactStepsSpec)) fnExactStepsCard

/-- THE SECOND FORM's CARD OF 'laws.FnMeans'. -/
def fnMeansUptoCard : Claim7 := { stood := { row := fnMeansUptoRow, standIns := [], harness := (true, "cd3cc0e5522648959acd48973a9bdad8d56ca5d729f8e96e9cf073747923f11e"), looks := true }, kinds := [], alts := [], laidByText := true, laidKinds := [.data, .data, .data, .sentinel, .sentinel], laidTests := true, laidLooks := .later }
def FnMeansUptoCardSaid : Prop := Claim7.holds Tryz.pinned (.plain (OpenSpec.upto fnMeansSpec)) fnMeansUptoCard

/-- THE SECOND FORM's CARD OF 'laws.FnTouched'. -/
def fnTouchedUptoCard : Claim7 := { stood := { row := fnTouchedUptoRow, standIns := [], harness := (true, "cd3cc0e5522648959acd48973a9bdad8d56ca5d729f8e96e9cf073747923f11e"), looks := true }, kinds := [], alts := [], laidByText := true, laidKinds := [.data, .data, .data, .sentinel, .sentinel], laidTests := true, laidLooks := .later }
def FnTouchedUptoCardSaid : Prop := Claim7.holds Tryz.pinned (.plain (OpenSpec.upto fnTouchedSpec)) fnTouchedUptoCard

/-- THE SECOND FORM's CARD OF 'laws.FnExactMeans'. -/
def fnExactMeansUptoCard : Claim7 := { stood := { row := fnExactMeansUptoRow, standIns := [], harness := (true, "cd3cc0e5522648959acd48973a9bdad8d56ca5d729f8e96e9cf073747923f11e"), looks := true }, kinds := [], alts := [], laidByText := true, laidKinds := [.data, .data, .data, .sentinel, .sentinel], laidTests := true, laidLooks := .later }
def FnExactMeansUptoCardSaid : Prop := Claim7.holds Tryz.pinned (.plain (OpenSpec.upto fnExactMeansSpec)) fnExactMeansUptoCard

/-- THE SECOND FORM's CARD OF 'laws.FnExactSteps'. -/
def fnExactStepsUptoCard : Claim7 := { stood := { row := fnExactStepsUptoRow, standIns := [], harness := (true, "cd3cc0e5522648959acd48973a9bdad8d56ca5d729f8e96e9cf073747923f11e"), looks := true }, kinds := [], alts := [], laidByText := true, laidKinds := [.data, .data, .data, .sentinel, .sentinel], laidTests := true, laidLooks := .later }
def FnExactStepsUptoCardSaid : Prop := Claim7.holds Tryz.pinned (.plain (OpenSpec.upto fnExactStepsSpec)) fnExactStepsUptoCard
end Rows
end Go.Proofs.YtfnnoehpahdgcaaGreatDoor
