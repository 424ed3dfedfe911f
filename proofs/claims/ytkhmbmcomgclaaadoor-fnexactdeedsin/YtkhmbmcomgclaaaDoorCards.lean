/-
  DERIVED. GIVEN WITH THE SEED: THE CARDS: each row of YtkhmbmcomgclaaaDoorRows.lean that lists a variable, with what it lists TIED to the program's text (the seventh form; the later family's looks); each row that meets fmt, with fmt's text TOLD by the authors' own Lean function (tested against real Go, not proved from fmt's source: count such statements apart). THE CARD IS WHAT COUNTS. Prove the row's statement (the work); the ties are given (YtkhmbmcomgclaaaDoorTie.lean); close each card by the builder's one call (the guide's Derived/Test/ToyasCard.lean, 'card_holds'). Laid BY PROGRAM, IN A SANDBOX (cutbox-door.mjs). By AI agents, Wed Nov 11 2026. No macro, syntax, notation, axiom, sorry.
-/
import Derived.Test.YtkhmbmcomgclaaaDoorRows
import GoSem.ClaimSeven
namespace Go.Proofs.YtkhmbmcomgclaaaDoor
namespace Rows

/-- THE TIED CARD OF 'laws.FnExactDeedEnd'. -/
def fnExactDeedEndCard : Claim7 := { stood := { row := fnExactDeedEndRow, standIns := [], harness := (true, "7ce810de9bbbb2047db74c3d63dbc9282eb4de9e37bb46e47e2460883a784a1e"), looks := true }, kinds := [], alts := [], laidByText := true, laidKinds := [.data, .data, .data, .sentinel, .sentinel], laidTests := true, laidLooks := .later }
def FnExactDeedEndCardSaid : Prop := Claim7.holds Tryd.pinned (.plain (OpenSpec.ofChange fnExactDeedEndSpec)) fnExactDeedEndCard

/-- THE TIED CARD OF 'laws.FnExactRecipeOk'. -/
def fnExactRecipeOkCard : Claim7 := { stood := { row := fnExactRecipeOkRow, standIns := [], harness := (true, "7ce810de9bbbb2047db74c3d63dbc9282eb4de9e37bb46e47e2460883a784a1e"), looks := true }, kinds := [], alts := [], laidByText := true, laidKinds := [.data, .data, .data, .sentinel, .sentinel], laidTests := true, laidLooks := .later }
def FnExactRecipeOkCardSaid : Prop := Claim7.holds Tryd.pinned (.plain (OpenSpec.ofChange fnExactRecipeOkSpec)) fnExactRecipeOkCard

/-- THE TIED CARD OF 'laws.FnExactShowRecipe'. -/
def fnExactShowRecipeCard : Claim7 := { stood := { row := fnExactShowRecipeRow, standIns := [], harness := (true, "7ce810de9bbbb2047db74c3d63dbc9282eb4de9e37bb46e47e2460883a784a1e"), looks := true }, kinds := [], alts := [], laidByText := true, laidKinds := [.data, .data, .data, .sentinel, .sentinel], laidTests := true, laidLooks := .later }
def FnExactShowRecipeCardSaid : Prop := Claim7.holds Tryd.pinned (.plain (OpenSpec.ofChange fnExactShowRecipeSpec)) fnExactShowRecipeCard

/-- THE TIED CARD OF 'laws.FnExactReadRecipe'. -/
def fnExactReadRecipeCard : Claim7 := { stood := { row := fnExactReadRecipeRow, standIns := [], harness := (true, "7ce810de9bbbb2047db74c3d63dbc9282eb4de9e37bb46e47e2460883a784a1e"), looks := true }, kinds := [], alts := [], laidByText := true, laidKinds := [.data, .data, .data, .data, .sentinel, .sentinel, .pinned], laidTests := true, laidLooks := .later }
def FnExactReadRecipeCardSaid : Prop := Claim7.holds Tryd.pinned (.plain (OpenSpec.ofChange fnExactReadRecipeSpec)) fnExactReadRecipeCard

/-- THE TIED CARD OF 'laws.FnExactDeedsIn'. -/
def fnExactDeedsInCard : Claim7 := { stood := { row := fnExactDeedsInRow, standIns := [], harness := (true, "7ce810de9bbbb2047db74c3d63dbc9282eb4de9e37bb46e47e2460883a784a1e"), looks := true }, kinds := [], alts := [], laidByText := true, laidKinds := [.data, .data, .data, .sentinel, .sentinel], laidTests := true, laidLooks := .later }
def FnExactDeedsInCardSaid : Prop := Claim7.holds Tryd.pinned (.plain (OpenSpec.ofChange fnExactDeedsInSpec)) fnExactDeedsInCard

/-- THE SECOND FORM's CARD OF 'laws.FnExactDeedEnd'. -/
def fnExactDeedEndUptoCard : Claim7 := { stood := { row := fnExactDeedEndUptoRow, standIns := [], harness := (true, "7ce810de9bbbb2047db74c3d63dbc9282eb4de9e37bb46e47e2460883a784a1e"), looks := true }, kinds := [], alts := [], laidByText := true, laidKinds := [.data, .data, .data, .sentinel, .sentinel], laidTests := true, laidLooks := .later }
def FnExactDeedEndUptoCardSaid : Prop := Claim7.holds Tryd.pinned (.plain (OpenSpec.upto fnExactDeedEndSpec)) fnExactDeedEndUptoCard

/-- THE SECOND FORM's CARD OF 'laws.FnExactRecipeOk'. -/
def fnExactRecipeOkUptoCard : Claim7 := { stood := { row := fnExactRecipeOkUptoRow, standIns := [], harness := (true, "7ce810de9bbbb2047db74c3d63dbc9282eb4de9e37bb46e47e2460883a784a1e"), looks := true }, kinds := [], alts := [], laidByText := true, laidKinds := [.data, .data, .data, .sentinel, .sentinel], laidTests := true, laidLooks := .later }
def FnExactRecipeOkUptoCardSaid : Prop := Claim7.holds Tryd.pinned (.plain (OpenSpec.upto fnExactRecipeOkSpec)) fnExactRecipeOkUptoCard

/-- THE SECOND FORM's CARD OF 'laws.FnExactShowRecipe'. -/
def fnExactShowRecipeUptoCard : Claim7 := { stood := { row := fnExactShowRecipeUptoRow, standIns := [], harness := (true, "7ce810de9bbbb2047db74c3d63dbc9282eb4de9e37bb46e47e2460883a784a1e"), looks := true }, kinds := [], alts := [], laidByText := true, laidKinds := [.data, .data, .data, .sentinel, .sentinel], laidTests := true, laidLooks := .later }
def FnExactShowRecipeUptoCardSaid : Prop := Claim7.holds Tryd.pinned (.plain (OpenSpec.upto fnExactShowRecipeSpec)) fnExactShowRecipeUptoCard

/-- THE SECOND FORM's CARD OF 'laws.FnExactReadRecipe'. -/
def fnExactReadRecipeUptoCard : Claim7 := { stood := { row := fnExactReadRecipeUptoRow, standIns := [], harness := (true, "7ce810de9bbbb2047db74c3d63dbc9282eb4de9e37bb46e47e2460883a784a1e"), looks := true }, kinds := [], alts := [], laidByText := true, laidKinds := [.data, .data, .data, .data, .sentinel, .sentinel, .pinned], laidTests := true, laidLooks := .later }
def FnExactReadRecipeUptoCardSaid : Prop := Claim7.holds Tryd.pinned (.plain (OpenSpec.upto fnExactReadRecipeSpec)) fnExactReadRecipeUptoCard

/-- THE SECOND FORM's CARD OF 'laws.FnExactDeedsIn'. -/
def fnExactDeedsInUptoCard : Claim7 := { stood := { row := fnExactDeedsInUptoRow, standIns := [], harness := (true, "7ce810de9bbbb2047db74c3d63dbc9282eb4de9e37bb46e47e2460883a784a1e"), looks := true }, kinds := [], alts := [], laidByText := true, laidKinds := [.data, .data, .data, .sentinel, .sentinel], laidTests := true, laidLooks := .later }
def FnExactDeedsInUptoCardSaid : Prop := Claim7.holds Tryd.pinned (.plain (OpenSpec.upto fnExactDeedsInSpec)) fnExactDeedsInUptoCard
end Rows
end Go.Proofs.YtkhmbmcomgclaaaDoor
