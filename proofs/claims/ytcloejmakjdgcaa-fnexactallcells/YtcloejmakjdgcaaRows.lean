/-
  No cell of these rows narrows 'for every input' (looked for: loops, veiled, ifaces, maps, wideKeys, modest, calm, conditions, laid).
  DERIVED. THE GIVEN ROWS OF THIS SEAT. 11 by the template 'for every input the law returns true; each argument reads behind the call as it read before'; 0 by the template 'total and deterministic' (their statements: YtcloejmakjdgcaaTotals.lean).
  GIVEN WITH THE SEED: the statements are not yours to turn. If you find one false, say at which input.
  Laid BY PROGRAM, IN A SANDBOX (cutbox-rows.mjs): the forced cells as the released guide's own fill.sh prints them over the translation 388c344aba4e03c7… (all of the seat's roots in one cut). By AI agents, Wed Nov 11 2026. No macro, syntax, notation, axiom, sorry.
-/
import Derived.Test.YtcloejmakjdgcaaChecked
import GoSem.Claim
import GoSem.ClaimJoined
import GoSem.ClaimMapViews
import Derived.JoinedTies
import Derived.KernelRfl
namespace Go.Proofs.Ytcloejmakjdgcaa
/- THE CELL 'sum', in the pinned program and in every row, IS THE sha256 OF THE DUMP (.gsa) THAT YtcloejmakjdgcaaProg.lean LOADS. Nothing in Lean hashes anything: it is a label: what it is worth is what the hold of that sum in a sandbox is worth. -/
noncomputable def Try.pinned : Pinned := { name := "ytcloejmakjdgcaa", sum := "388c344aba4e03c76688270f1c6d61caef256a0f679e1b60b39d269de77ff6f8", checked := Try.checked }
namespace Rows
def none {H : Type} : Left H := { results := [], args := [] }

/-- 'laws.FnThinned': WHATEVER THE INPUT: true; the input reads as it did. -/
def fnThinnedSpec : ChangeSpec := { name := "fnThinned", fn := fun _ => fun
  | [d] => { results := [.lit (.bool true)], args := [d] }
  | _ => none }
def fnThinnedRow : OpenClaim := { program := "ytcloejmakjdgcaa", sum := "388c344aba4e03c76688270f1c6d61caef256a0f679e1b60b39d269de77ff6f8", func := "loop.example/g00526/laws.FnThinned", spec := "fnThinned", unfollowed := true, recurses := true, apart := false }
def FnThinnedSaid : Prop := fnThinnedRow.holds Try.pinned (OpenSpec.ofChange fnThinnedSpec)

/-- ITS FALSE NEIGHBOUR: 'it returns false'. Refute it at one input. -/
def fnThinnedWrong : ChangeSpec := { name := "fnThinned", fn := fun _ => fun
  | [d] => { results := [.lit (.bool false)], args := [d] }
  | _ => none }
def FnThinnedWrongFalsely : Prop := fnThinnedRow.holds Try.pinned (OpenSpec.ofChange fnThinnedWrong)

/-- 'laws.FnBarns': WHATEVER THE INPUT: true; the input reads as it did. -/
def fnBarnsSpec : ChangeSpec := { name := "fnBarns", fn := fun _ => fun
  | [d] => { results := [.lit (.bool true)], args := [d] }
  | _ => none }
def fnBarnsRow : OpenClaim := { program := "ytcloejmakjdgcaa", sum := "388c344aba4e03c76688270f1c6d61caef256a0f679e1b60b39d269de77ff6f8", func := "loop.example/g00526/laws.FnBarns", spec := "fnBarns", inPlace := ["slices.overlaps[[]loop.example/g00526/impl.Cell]"], unfollowed := true, recurses := true, apart := false }
def FnBarnsSaid : Prop := fnBarnsRow.holds Try.pinned (OpenSpec.ofChange fnBarnsSpec)

/-- ITS FALSE NEIGHBOUR: 'it returns false'. Refute it at one input. -/
def fnBarnsWrong : ChangeSpec := { name := "fnBarns", fn := fun _ => fun
  | [d] => { results := [.lit (.bool false)], args := [d] }
  | _ => none }
def FnBarnsWrongFalsely : Prop := fnBarnsRow.holds Try.pinned (OpenSpec.ofChange fnBarnsWrong)

/-- 'laws.FnSwept': WHATEVER THE INPUT: true; the input reads as it did. -/
def fnSweptSpec : ChangeSpec := { name := "fnSwept", fn := fun _ => fun
  | [d] => { results := [.lit (.bool true)], args := [d] }
  | _ => none }
def fnSweptRow : OpenClaim := { program := "ytcloejmakjdgcaa", sum := "388c344aba4e03c76688270f1c6d61caef256a0f679e1b60b39d269de77ff6f8", func := "loop.example/g00526/laws.FnSwept", spec := "fnSwept", unfollowed := true, recurses := true, apart := false }
def FnSweptSaid : Prop := fnSweptRow.holds Try.pinned (OpenSpec.ofChange fnSweptSpec)

/-- ITS FALSE NEIGHBOUR: 'it returns false'. Refute it at one input. -/
def fnSweptWrong : ChangeSpec := { name := "fnSwept", fn := fun _ => fun
  | [d] => { results := [.lit (.bool false)], args := [d] }
  | _ => none }
def FnSweptWrongFalsely : Prop := fnSweptRow.holds Try.pinned (OpenSpec.ofChange fnSweptWrong)

/-- 'laws.FnExactThinned': WHATEVER THE INPUT: true; the input reads as it did. -/
def fnExactThinnedSpec : ChangeSpec := { name := "fnExactThinned", fn := fun _ => fun
  | [d1, d2, d3] => { results := [.lit (.bool true)], args := [d1, d2, d3] }
  | _ => none }
def fnExactThinnedRow : OpenClaim := { program := "ytcloejmakjdgcaa", sum := "388c344aba4e03c76688270f1c6d61caef256a0f679e1b60b39d269de77ff6f8", func := "loop.example/g00526/laws.FnExactThinned", spec := "fnExactThinned", unfollowed := true, recurses := true, apart := false }
def FnExactThinnedSaid : Prop := fnExactThinnedRow.holds Try.pinned (OpenSpec.ofChange fnExactThinnedSpec)

/-- ITS FALSE NEIGHBOUR: 'it returns false'. Refute it at one input. -/
def fnExactThinnedWrong : ChangeSpec := { name := "fnExactThinned", fn := fun _ => fun
  | [d1, d2, d3] => { results := [.lit (.bool false)], args := [d1, d2, d3] }
  | _ => none }
def FnExactThinnedWrongFalsely : Prop := fnExactThinnedRow.holds Try.pinned (OpenSpec.ofChange fnExactThinnedWrong)

/-- 'laws.FnExactSwept': WHATEVER THE INPUT: true; the input reads as it did. -/
def fnExactSweptSpec : ChangeSpec := { name := "fnExactSwept", fn := fun _ => fun
  | [d1, d2, d3] => { results := [.lit (.bool true)], args := [d1, d2, d3] }
  | _ => none }
def fnExactSweptRow : OpenClaim := { program := "ytcloejmakjdgcaa", sum := "388c344aba4e03c76688270f1c6d61caef256a0f679e1b60b39d269de77ff6f8", func := "loop.example/g00526/laws.FnExactSwept", spec := "fnExactSwept", unfollowed := true, recurses := true, apart := false }
def FnExactSweptSaid : Prop := fnExactSweptRow.holds Try.pinned (OpenSpec.ofChange fnExactSweptSpec)

/-- ITS FALSE NEIGHBOUR: 'it returns false'. Refute it at one input. -/
def fnExactSweptWrong : ChangeSpec := { name := "fnExactSwept", fn := fun _ => fun
  | [d1, d2, d3] => { results := [.lit (.bool false)], args := [d1, d2, d3] }
  | _ => none }
def FnExactSweptWrongFalsely : Prop := fnExactSweptRow.holds Try.pinned (OpenSpec.ofChange fnExactSweptWrong)

/-- 'laws.FnExactAllCells': WHATEVER THE INPUT: true; the input reads as it did. -/
def fnExactAllCellsSpec : ChangeSpec := { name := "fnExactAllCells", fn := fun _ => fun
  | [d] => { results := [.lit (.bool true)], args := [d] }
  | _ => none }
def fnExactAllCellsRow : OpenClaim := { program := "ytcloejmakjdgcaa", sum := "388c344aba4e03c76688270f1c6d61caef256a0f679e1b60b39d269de77ff6f8", func := "loop.example/g00526/laws.FnExactAllCells", spec := "fnExactAllCells", unfollowed := true, recurses := true, apart := false }
def FnExactAllCellsSaid : Prop := fnExactAllCellsRow.holds Try.pinned (OpenSpec.ofChange fnExactAllCellsSpec)

/-- ITS FALSE NEIGHBOUR: 'it returns false'. Refute it at one input. -/
def fnExactAllCellsWrong : ChangeSpec := { name := "fnExactAllCells", fn := fun _ => fun
  | [d] => { results := [.lit (.bool false)], args := [d] }
  | _ => none }
def FnExactAllCellsWrongFalsely : Prop := fnExactAllCellsRow.holds Try.pinned (OpenSpec.ofChange fnExactAllCellsWrong)

/-- 'laws.FnExactBinsOk': WHATEVER THE INPUT: true; the input reads as it did. -/
def fnExactBinsOkSpec : ChangeSpec := { name := "fnExactBinsOk", fn := fun _ => fun
  | [d] => { results := [.lit (.bool true)], args := [d] }
  | _ => none }
def fnExactBinsOkRow : OpenClaim := { program := "ytcloejmakjdgcaa", sum := "388c344aba4e03c76688270f1c6d61caef256a0f679e1b60b39d269de77ff6f8", func := "loop.example/g00526/laws.FnExactBinsOk", spec := "fnExactBinsOk", unfollowed := true, recurses := true, apart := false }
def FnExactBinsOkSaid : Prop := fnExactBinsOkRow.holds Try.pinned (OpenSpec.ofChange fnExactBinsOkSpec)

/-- ITS FALSE NEIGHBOUR: 'it returns false'. Refute it at one input. -/
def fnExactBinsOkWrong : ChangeSpec := { name := "fnExactBinsOk", fn := fun _ => fun
  | [d] => { results := [.lit (.bool false)], args := [d] }
  | _ => none }
def FnExactBinsOkWrongFalsely : Prop := fnExactBinsOkRow.holds Try.pinned (OpenSpec.ofChange fnExactBinsOkWrong)

/-- 'laws.FnExactBinsOf': WHATEVER THE INPUT: true; the input reads as it did. -/
def fnExactBinsOfSpec : ChangeSpec := { name := "fnExactBinsOf", fn := fun _ => fun
  | [d1, d2, d3] => { results := [.lit (.bool true)], args := [d1, d2, d3] }
  | _ => none }
def fnExactBinsOfRow : OpenClaim := { program := "ytcloejmakjdgcaa", sum := "388c344aba4e03c76688270f1c6d61caef256a0f679e1b60b39d269de77ff6f8", func := "loop.example/g00526/laws.FnExactBinsOf", spec := "fnExactBinsOf", unfollowed := true, recurses := true, apart := false }
def FnExactBinsOfSaid : Prop := fnExactBinsOfRow.holds Try.pinned (OpenSpec.ofChange fnExactBinsOfSpec)

/-- ITS FALSE NEIGHBOUR: 'it returns false'. Refute it at one input. -/
def fnExactBinsOfWrong : ChangeSpec := { name := "fnExactBinsOf", fn := fun _ => fun
  | [d1, d2, d3] => { results := [.lit (.bool false)], args := [d1, d2, d3] }
  | _ => none }
def FnExactBinsOfWrongFalsely : Prop := fnExactBinsOfRow.holds Try.pinned (OpenSpec.ofChange fnExactBinsOfWrong)

/-- 'laws.FnExactValueIn': WHATEVER THE INPUT: true; the input reads as it did. -/
def fnExactValueInSpec : ChangeSpec := { name := "fnExactValueIn", fn := fun _ => fun
  | [d1, d2] => { results := [.lit (.bool true)], args := [d1, d2] }
  | _ => none }
def fnExactValueInRow : OpenClaim := { program := "ytcloejmakjdgcaa", sum := "388c344aba4e03c76688270f1c6d61caef256a0f679e1b60b39d269de77ff6f8", func := "loop.example/g00526/laws.FnExactValueIn", spec := "fnExactValueIn", unfollowed := true, recurses := true, apart := false }
def FnExactValueInSaid : Prop := fnExactValueInRow.holds Try.pinned (OpenSpec.ofChange fnExactValueInSpec)

/-- ITS FALSE NEIGHBOUR: 'it returns false'. Refute it at one input. -/
def fnExactValueInWrong : ChangeSpec := { name := "fnExactValueIn", fn := fun _ => fun
  | [d1, d2] => { results := [.lit (.bool false)], args := [d1, d2] }
  | _ => none }
def FnExactValueInWrongFalsely : Prop := fnExactValueInRow.holds Try.pinned (OpenSpec.ofChange fnExactValueInWrong)

/-- 'laws.FnExactSetBin': WHATEVER THE INPUT: true; the input reads as it did. -/
def fnExactSetBinSpec : ChangeSpec := { name := "fnExactSetBin", fn := fun _ => fun
  | [d1, d2, d3] => { results := [.lit (.bool true)], args := [d1, d2, d3] }
  | _ => none }
def fnExactSetBinRow : OpenClaim := { program := "ytcloejmakjdgcaa", sum := "388c344aba4e03c76688270f1c6d61caef256a0f679e1b60b39d269de77ff6f8", func := "loop.example/g00526/laws.FnExactSetBin", spec := "fnExactSetBin", inPlace := ["internal/bytealg.abigen_runtime_cmpstring"], unfollowed := true, recurses := true, apart := false }
def FnExactSetBinSaid : Prop := fnExactSetBinRow.holds Try.pinned (OpenSpec.ofChange fnExactSetBinSpec)

/-- ITS FALSE NEIGHBOUR: 'it returns false'. Refute it at one input. -/
def fnExactSetBinWrong : ChangeSpec := { name := "fnExactSetBin", fn := fun _ => fun
  | [d1, d2, d3] => { results := [.lit (.bool false)], args := [d1, d2, d3] }
  | _ => none }
def FnExactSetBinWrongFalsely : Prop := fnExactSetBinRow.holds Try.pinned (OpenSpec.ofChange fnExactSetBinWrong)

/-- 'laws.FnExactCutBin': WHATEVER THE INPUT: true; the input reads as it did. -/
def fnExactCutBinSpec : ChangeSpec := { name := "fnExactCutBin", fn := fun _ => fun
  | [d1, d2] => { results := [.lit (.bool true)], args := [d1, d2] }
  | _ => none }
def fnExactCutBinRow : OpenClaim := { program := "ytcloejmakjdgcaa", sum := "388c344aba4e03c76688270f1c6d61caef256a0f679e1b60b39d269de77ff6f8", func := "loop.example/g00526/laws.FnExactCutBin", spec := "fnExactCutBin", inPlace := ["internal/bytealg.abigen_runtime_cmpstring"], unfollowed := true, recurses := true, apart := false }
def FnExactCutBinSaid : Prop := fnExactCutBinRow.holds Try.pinned (OpenSpec.ofChange fnExactCutBinSpec)

/-- ITS FALSE NEIGHBOUR: 'it returns false'. Refute it at one input. -/
def fnExactCutBinWrong : ChangeSpec := { name := "fnExactCutBin", fn := fun _ => fun
  | [d1, d2] => { results := [.lit (.bool false)], args := [d1, d2] }
  | _ => none }
def FnExactCutBinWrongFalsely : Prop := fnExactCutBinRow.holds Try.pinned (OpenSpec.ofChange fnExactCutBinWrong)

/- THE SECOND FORM. 'bulk': how many values and letters a reading holds, each counted each time it is reached (what is shared counts as often as it is met; a slice's spare places count too). A statement '..UptoSaid' is the law's where the arguments, and the package variables that the reading takes, are together of bulk at most 1048576: NARROWER than '..Said'. Prove '..Said' where nothing that the law and all that it calls make is longer than what came in: it says more and counts as full. Else prove '..UptoSaid'. A law counts once. -/
mutual
def uptoBulk {H : Type} : DataW H → Nat
  | .lit (.string bytes) => bytes.length + 1
  | .lit _ => 1
  | .nil => 1
  | .ptr d => uptoBulk d + 1
  | .slice elems spare => uptoBulkAll elems + uptoBulkAll spare + 1
  | .agg parts => uptoBulkAll parts + 1
  | .iface _ d => uptoBulk d + 1
  | .map entries => uptoBulkEntries entries + 1
  | .held _ => 1
def uptoBulkAll {H : Type} : List (DataW H) → Nat
  | [] => 0
  | d :: r => uptoBulk d + uptoBulkAll r
def uptoBulkEntries {H : Type} : List (Lit × DataW H) → Nat
  | [] => 0
  | x :: r => uptoBulkEntry x + uptoBulkEntries r
def uptoBulkEntry {H : Type} : Lit × DataW H → Nat
  | (.string bytes, d) => bytes.length + uptoBulk d + 1
  | (_, d) => uptoBulk d + 1
 end
def uptoSmall : (H : Type) → List (DataW H) → Bool := fun _ ds => decide (uptoBulkAll ds ≤ 1048576)
def OpenSpec.upto (s : _root_.Go.ChangeSpec) : _root_.Go.OpenSpec := { _root_.Go.OpenSpec.ofChange s with cond := some uptoSmall }

/-- 'laws.FnThinned', WHERE WHAT IT READS IS OF BULK AT MOST 1048576: true; the input reads as it did. -/
def fnThinnedUptoRow : OpenClaim := { program := "ytcloejmakjdgcaa", sum := "388c344aba4e03c76688270f1c6d61caef256a0f679e1b60b39d269de77ff6f8", func := "loop.example/g00526/laws.FnThinned", spec := "fnThinned", unfollowed := true, recurses := true, apart := false, narrowed := true }
def FnThinnedUptoSaid : Prop := fnThinnedUptoRow.holds Try.pinned (OpenSpec.upto fnThinnedSpec)

/-- 'laws.FnBarns', WHERE WHAT IT READS IS OF BULK AT MOST 1048576: true; the input reads as it did. -/
def fnBarnsUptoRow : OpenClaim := { program := "ytcloejmakjdgcaa", sum := "388c344aba4e03c76688270f1c6d61caef256a0f679e1b60b39d269de77ff6f8", func := "loop.example/g00526/laws.FnBarns", spec := "fnBarns", inPlace := ["slices.overlaps[[]loop.example/g00526/impl.Cell]"], unfollowed := true, recurses := true, apart := false, narrowed := true }
def FnBarnsUptoSaid : Prop := fnBarnsUptoRow.holds Try.pinned (OpenSpec.upto fnBarnsSpec)

/-- 'laws.FnSwept', WHERE WHAT IT READS IS OF BULK AT MOST 1048576: true; the input reads as it did. -/
def fnSweptUptoRow : OpenClaim := { program := "ytcloejmakjdgcaa", sum := "388c344aba4e03c76688270f1c6d61caef256a0f679e1b60b39d269de77ff6f8", func := "loop.example/g00526/laws.FnSwept", spec := "fnSwept", unfollowed := true, recurses := true, apart := false, narrowed := true }
def FnSweptUptoSaid : Prop := fnSweptUptoRow.holds Try.pinned (OpenSpec.upto fnSweptSpec)

/-- 'laws.FnExactThinned', WHERE WHAT IT READS IS OF BULK AT MOST 1048576: true; the input reads as it did. -/
def fnExactThinnedUptoRow : OpenClaim := { program := "ytcloejmakjdgcaa", sum := "388c344aba4e03c76688270f1c6d61caef256a0f679e1b60b39d269de77ff6f8", func := "loop.example/g00526/laws.FnExactThinned", spec := "fnExactThinned", unfollowed := true, recurses := true, apart := false, narrowed := true }
def FnExactThinnedUptoSaid : Prop := fnExactThinnedUptoRow.holds Try.pinned (OpenSpec.upto fnExactThinnedSpec)

/-- 'laws.FnExactSwept', WHERE WHAT IT READS IS OF BULK AT MOST 1048576: true; the input reads as it did. -/
def fnExactSweptUptoRow : OpenClaim := { program := "ytcloejmakjdgcaa", sum := "388c344aba4e03c76688270f1c6d61caef256a0f679e1b60b39d269de77ff6f8", func := "loop.example/g00526/laws.FnExactSwept", spec := "fnExactSwept", unfollowed := true, recurses := true, apart := false, narrowed := true }
def FnExactSweptUptoSaid : Prop := fnExactSweptUptoRow.holds Try.pinned (OpenSpec.upto fnExactSweptSpec)

/-- 'laws.FnExactAllCells', WHERE WHAT IT READS IS OF BULK AT MOST 1048576: true; the input reads as it did. -/
def fnExactAllCellsUptoRow : OpenClaim := { program := "ytcloejmakjdgcaa", sum := "388c344aba4e03c76688270f1c6d61caef256a0f679e1b60b39d269de77ff6f8", func := "loop.example/g00526/laws.FnExactAllCells", spec := "fnExactAllCells", unfollowed := true, recurses := true, apart := false, narrowed := true }
def FnExactAllCellsUptoSaid : Prop := fnExactAllCellsUptoRow.holds Try.pinned (OpenSpec.upto fnExactAllCellsSpec)

/-- 'laws.FnExactBinsOk', WHERE WHAT IT READS IS OF BULK AT MOST 1048576: true; the input reads as it did. -/
def fnExactBinsOkUptoRow : OpenClaim := { program := "ytcloejmakjdgcaa", sum := "388c344aba4e03c76688270f1c6d61caef256a0f679e1b60b39d269de77ff6f8", func := "loop.example/g00526/laws.FnExactBinsOk", spec := "fnExactBinsOk", unfollowed := true, recurses := true, apart := false, narrowed := true }
def FnExactBinsOkUptoSaid : Prop := fnExactBinsOkUptoRow.holds Try.pinned (OpenSpec.upto fnExactBinsOkSpec)

/-- 'laws.FnExactBinsOf', WHERE WHAT IT READS IS OF BULK AT MOST 1048576: true; the input reads as it did. -/
def fnExactBinsOfUptoRow : OpenClaim := { program := "ytcloejmakjdgcaa", sum := "388c344aba4e03c76688270f1c6d61caef256a0f679e1b60b39d269de77ff6f8", func := "loop.example/g00526/laws.FnExactBinsOf", spec := "fnExactBinsOf", unfollowed := true, recurses := true, apart := false, narrowed := true }
def FnExactBinsOfUptoSaid : Prop := fnExactBinsOfUptoRow.holds Try.pinned (OpenSpec.upto fnExactBinsOfSpec)

/-- 'laws.FnExactValueIn', WHERE WHAT IT READS IS OF BULK AT MOST 1048576: true; the input reads as it did. -/
def fnExactValueInUptoRow : OpenClaim := { program := "ytcloejmakjdgcaa", sum := "388c344aba4e03c76688270f1c6d61caef256a0f679e1b60b39d269de77ff6f8", func := "loop.example/g00526/laws.FnExactValueIn", spec := "fnExactValueIn", unfollowed := true, recurses := true, apart := false, narrowed := true }
def FnExactValueInUptoSaid : Prop := fnExactValueInUptoRow.holds Try.pinned (OpenSpec.upto fnExactValueInSpec)

/-- 'laws.FnExactSetBin', WHERE WHAT IT READS IS OF BULK AT MOST 1048576: true; the input reads as it did. -/
def fnExactSetBinUptoRow : OpenClaim := { program := "ytcloejmakjdgcaa", sum := "388c344aba4e03c76688270f1c6d61caef256a0f679e1b60b39d269de77ff6f8", func := "loop.example/g00526/laws.FnExactSetBin", spec := "fnExactSetBin", inPlace := ["internal/bytealg.abigen_runtime_cmpstring"], unfollowed := true, recurses := true, apart := false, narrowed := true }
def FnExactSetBinUptoSaid : Prop := fnExactSetBinUptoRow.holds Try.pinned (OpenSpec.upto fnExactSetBinSpec)

/-- 'laws.FnExactCutBin', WHERE WHAT IT READS IS OF BULK AT MOST 1048576: true; the input reads as it did. -/
def fnExactCutBinUptoRow : OpenClaim := { program := "ytcloejmakjdgcaa", sum := "388c344aba4e03c76688270f1c6d61caef256a0f679e1b60b39d269de77ff6f8", func := "loop.example/g00526/laws.FnExactCutBin", spec := "fnExactCutBin", inPlace := ["internal/bytealg.abigen_runtime_cmpstring"], unfollowed := true, recurses := true, apart := false, narrowed := true }
def FnExactCutBinUptoSaid : Prop := fnExactCutBinUptoRow.holds Try.pinned (OpenSpec.upto fnExactCutBinSpec)

end Rows
end Go.Proofs.Ytcloejmakjdgcaa
