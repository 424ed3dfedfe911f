/-
  DERIVED. GIVEN WITH THE SEED: THE CARDS: each row of YtjhcgbhmepgfhaaDoorRows.lean that lists a variable, with what it lists TIED to the program's text (the seventh form; the later family's looks); each row that meets fmt, with fmt's text TOLD by the authors' own Lean function (tested against real Go, not proved from fmt's source: count such statements apart). THE CARD IS WHAT COUNTS. Prove the row's statement (the work); the ties are given (YtjhcgbhmepgfhaaDoorTie.lean); close each card by the builder's one call (the guide's Derived/Test/ToyasCard.lean, 'card_holds'). Laid BY PROGRAM, IN A SANDBOX (cutbox-door.mjs). By AI agents, Wed Nov 11 2026. No macro, syntax, notation, axiom, sorry.
-/
import Derived.Test.YtjhcgbhmepgfhaaDoorRows
import GoSem.ClaimSeven
namespace Go.Proofs.YtjhcgbhmepgfhaaDoor
namespace Rows

/-- THE TIED CARD OF 'laws.FnExactShelfText'. -/
def fnExactShelfTextCard : Claim7 := { stood := { row := fnExactShelfTextRow, standIns := [], harness := (true, "805406e86eeeeebd8f22b560c0e2399908fe79e234fe6fcbc2637f9eb1e13ddb"), looks := true }, kinds := [], alts := [], laidByText := true, laidKinds := [.data, .data, .data], laidTests := true, laidLooks := .later }
def FnExactShelfTextCardSaid : Prop := Claim7.holds Tryd.pinned (.plain (OpenSpec.ofChange fnExactShelfTextSpec)) fnExactShelfTextCard

/-- THE TIED CARD OF 'laws.FnExactShelfOf'. -/
def fnExactShelfOfCard : Claim7 := { stood := { row := fnExactShelfOfRow, standIns := [], harness := (true, "805406e86eeeeebd8f22b560c0e2399908fe79e234fe6fcbc2637f9eb1e13ddb"), looks := true }, kinds := [], alts := [], laidByText := true, laidKinds := [.data, .data, .data, .data, .sentinel, .sentinel, .pinned], laidTests := true, laidLooks := .later }
def FnExactShelfOfCardSaid : Prop := Claim7.holds Tryd.pinned (.plain (OpenSpec.ofChange fnExactShelfOfSpec)) fnExactShelfOfCard

/-- THE SECOND FORM's CARD OF 'laws.FnExactShelfText'. -/
def fnExactShelfTextUptoCard : Claim7 := { stood := { row := fnExactShelfTextUptoRow, standIns := [], harness := (true, "805406e86eeeeebd8f22b560c0e2399908fe79e234fe6fcbc2637f9eb1e13ddb"), looks := true }, kinds := [], alts := [], laidByText := true, laidKinds := [.data, .data, .data], laidTests := true, laidLooks := .later }
def FnExactShelfTextUptoCardSaid : Prop := Claim7.holds Tryd.pinned (.plain (OpenSpec.upto fnExactShelfTextSpec)) fnExactShelfTextUptoCard

/-- THE SECOND FORM's CARD OF 'laws.FnExactShelfOf'. -/
def fnExactShelfOfUptoCard : Claim7 := { stood := { row := fnExactShelfOfUptoRow, standIns := [], harness := (true, "805406e86eeeeebd8f22b560c0e2399908fe79e234fe6fcbc2637f9eb1e13ddb"), looks := true }, kinds := [], alts := [], laidByText := true, laidKinds := [.data, .data, .data, .data, .sentinel, .sentinel, .pinned], laidTests := true, laidLooks := .later }
def FnExactShelfOfUptoCardSaid : Prop := Claim7.holds Tryd.pinned (.plain (OpenSpec.upto fnExactShelfOfSpec)) fnExactShelfOfUptoCard
end Rows
end Go.Proofs.YtjhcgbhmepgfhaaDoor
