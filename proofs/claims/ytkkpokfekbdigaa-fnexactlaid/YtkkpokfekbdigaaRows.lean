/-
  No cell of these rows narrows 'for every input' (looked for: loops, veiled, ifaces, maps, wideKeys, modest, calm, conditions, laid).
  DERIVED. THE GIVEN ROWS OF THIS SEAT. 13 by the template 'for every input the law returns true; each argument reads behind the call as it read before'; 0 by the template 'total and deterministic' (their statements: YtkkpokfekbdigaaTotals.lean).
  GIVEN WITH THE SEED: the statements are not yours to turn. If you find one false, say at which input.
  Laid BY PROGRAM, IN A SANDBOX (cutbox-rows.mjs): the forced cells as the released guide's own fill.sh prints them over the translation 5f1e06612f281ee5… (all of the seat's roots in one cut). By AI agents, Wed Nov 11 2026. No macro, syntax, notation, axiom, sorry.
-/
import Derived.Test.YtkkpokfekbdigaaChecked
import GoSem.Claim
import GoSem.ClaimJoined
import GoSem.ClaimMapViews
import Derived.JoinedTies
import Derived.KernelRfl
namespace Go.Proofs.Ytkkpokfekbdigaa
/- THE CELL 'sum', in the pinned program and in every row, IS THE sha256 OF THE DUMP (.gsa) THAT YtkkpokfekbdigaaProg.lean LOADS. Nothing in Lean hashes anything: it is a label: what it is worth is what the hold of that sum in a sandbox is worth. -/
noncomputable def Try.pinned : Pinned := { name := "ytkkpokfekbdigaa", sum := "5f1e06612f281ee54f9691c542894e300375dbaf28380b31f5868d529626ac92", checked := Try.checked }
namespace Rows
def none {H : Type} : Left H := { results := [], args := [] }

/-- 'laws.FnCells': WHATEVER THE INPUT: true; the input reads as it did. -/
def fnCellsSpec : ChangeSpec := { name := "fnCells", fn := fun _ => fun
  | [d] => { results := [.lit (.bool true)], args := [d] }
  | _ => none }
def fnCellsRow : OpenClaim := { program := "ytkkpokfekbdigaa", sum := "5f1e06612f281ee54f9691c542894e300375dbaf28380b31f5868d529626ac92", func := "loop.example/g00526/laws.FnCells", spec := "fnCells", unfollowed := true, recurses := true, apart := false }
def FnCellsSaid : Prop := fnCellsRow.holds Try.pinned (OpenSpec.ofChange fnCellsSpec)

/-- ITS FALSE NEIGHBOUR: 'it returns false'. Refute it at one input. -/
def fnCellsWrong : ChangeSpec := { name := "fnCells", fn := fun _ => fun
  | [d] => { results := [.lit (.bool false)], args := [d] }
  | _ => none }
def FnCellsWrongFalsely : Prop := fnCellsRow.holds Try.pinned (OpenSpec.ofChange fnCellsWrong)

/-- 'laws.FnMerged': WHATEVER THE INPUT: true; the input reads as it did. -/
def fnMergedSpec : ChangeSpec := { name := "fnMerged", fn := fun _ => fun
  | [d] => { results := [.lit (.bool true)], args := [d] }
  | _ => none }
def fnMergedRow : OpenClaim := { program := "ytkkpokfekbdigaa", sum := "5f1e06612f281ee54f9691c542894e300375dbaf28380b31f5868d529626ac92", func := "loop.example/g00526/laws.FnMerged", spec := "fnMerged", unfollowed := true, recurses := true, apart := false }
def FnMergedSaid : Prop := fnMergedRow.holds Try.pinned (OpenSpec.ofChange fnMergedSpec)

/-- ITS FALSE NEIGHBOUR: 'it returns false'. Refute it at one input. -/
def fnMergedWrong : ChangeSpec := { name := "fnMerged", fn := fun _ => fun
  | [d] => { results := [.lit (.bool false)], args := [d] }
  | _ => none }
def FnMergedWrongFalsely : Prop := fnMergedRow.holds Try.pinned (OpenSpec.ofChange fnMergedWrong)

/-- 'laws.FnFindBarn': WHATEVER THE INPUT: true; the input reads as it did. -/
def fnFindBarnSpec : ChangeSpec := { name := "fnFindBarn", fn := fun _ => fun
  | [d] => { results := [.lit (.bool true)], args := [d] }
  | _ => none }
def fnFindBarnRow : OpenClaim := { program := "ytkkpokfekbdigaa", sum := "5f1e06612f281ee54f9691c542894e300375dbaf28380b31f5868d529626ac92", func := "loop.example/g00526/laws.FnFindBarn", spec := "fnFindBarn", unfollowed := true, recurses := true, apart := false }
def FnFindBarnSaid : Prop := fnFindBarnRow.holds Try.pinned (OpenSpec.ofChange fnFindBarnSpec)

/-- ITS FALSE NEIGHBOUR: 'it returns false'. Refute it at one input. -/
def fnFindBarnWrong : ChangeSpec := { name := "fnFindBarn", fn := fun _ => fun
  | [d] => { results := [.lit (.bool false)], args := [d] }
  | _ => none }
def FnFindBarnWrongFalsely : Prop := fnFindBarnRow.holds Try.pinned (OpenSpec.ofChange fnFindBarnWrong)

/-- 'laws.FnExactKeyOk': WHATEVER THE INPUT: true; the input reads as it did. -/
def fnExactKeyOkSpec : ChangeSpec := { name := "fnExactKeyOk", fn := fun _ => fun
  | [d] => { results := [.lit (.bool true)], args := [d] }
  | _ => none }
def fnExactKeyOkRow : OpenClaim := { program := "ytkkpokfekbdigaa", sum := "5f1e06612f281ee54f9691c542894e300375dbaf28380b31f5868d529626ac92", func := "loop.example/g00526/laws.FnExactKeyOk", spec := "fnExactKeyOk", apart := false }
def FnExactKeyOkSaid : Prop := fnExactKeyOkRow.holds Try.pinned (OpenSpec.ofChange fnExactKeyOkSpec)

/-- ITS FALSE NEIGHBOUR: 'it returns false'. Refute it at one input. -/
def fnExactKeyOkWrong : ChangeSpec := { name := "fnExactKeyOk", fn := fun _ => fun
  | [d] => { results := [.lit (.bool false)], args := [d] }
  | _ => none }
def FnExactKeyOkWrongFalsely : Prop := fnExactKeyOkRow.holds Try.pinned (OpenSpec.ofChange fnExactKeyOkWrong)

/-- 'laws.FnExactCellOk': WHATEVER THE INPUT: true; the input reads as it did. -/
def fnExactCellOkSpec : ChangeSpec := { name := "fnExactCellOk", fn := fun _ => fun
  | [d] => { results := [.lit (.bool true)], args := [d] }
  | _ => none }
def fnExactCellOkRow : OpenClaim := { program := "ytkkpokfekbdigaa", sum := "5f1e06612f281ee54f9691c542894e300375dbaf28380b31f5868d529626ac92", func := "loop.example/g00526/laws.FnExactCellOk", spec := "fnExactCellOk", apart := false }
def FnExactCellOkSaid : Prop := fnExactCellOkRow.holds Try.pinned (OpenSpec.ofChange fnExactCellOkSpec)

/-- ITS FALSE NEIGHBOUR: 'it returns false'. Refute it at one input. -/
def fnExactCellOkWrong : ChangeSpec := { name := "fnExactCellOk", fn := fun _ => fun
  | [d] => { results := [.lit (.bool false)], args := [d] }
  | _ => none }
def FnExactCellOkWrongFalsely : Prop := fnExactCellOkRow.holds Try.pinned (OpenSpec.ofChange fnExactCellOkWrong)

/-- 'laws.FnExactCellsOk': WHATEVER THE INPUT: true; the input reads as it did. -/
def fnExactCellsOkSpec : ChangeSpec := { name := "fnExactCellsOk", fn := fun _ => fun
  | [d] => { results := [.lit (.bool true)], args := [d] }
  | _ => none }
def fnExactCellsOkRow : OpenClaim := { program := "ytkkpokfekbdigaa", sum := "5f1e06612f281ee54f9691c542894e300375dbaf28380b31f5868d529626ac92", func := "loop.example/g00526/laws.FnExactCellsOk", spec := "fnExactCellsOk", apart := false }
def FnExactCellsOkSaid : Prop := fnExactCellsOkRow.holds Try.pinned (OpenSpec.ofChange fnExactCellsOkSpec)

/-- ITS FALSE NEIGHBOUR: 'it returns false'. Refute it at one input. -/
def fnExactCellsOkWrong : ChangeSpec := { name := "fnExactCellsOk", fn := fun _ => fun
  | [d] => { results := [.lit (.bool false)], args := [d] }
  | _ => none }
def FnExactCellsOkWrongFalsely : Prop := fnExactCellsOkRow.holds Try.pinned (OpenSpec.ofChange fnExactCellsOkWrong)

/-- 'laws.FnExactPutCell': WHATEVER THE INPUT: true; the input reads as it did. -/
def fnExactPutCellSpec : ChangeSpec := { name := "fnExactPutCell", fn := fun _ => fun
  | [d1, d2] => { results := [.lit (.bool true)], args := [d1, d2] }
  | _ => none }
def fnExactPutCellRow : OpenClaim := { program := "ytkkpokfekbdigaa", sum := "5f1e06612f281ee54f9691c542894e300375dbaf28380b31f5868d529626ac92", func := "loop.example/g00526/laws.FnExactPutCell", spec := "fnExactPutCell", unfollowed := true, recurses := true, apart := false }
def FnExactPutCellSaid : Prop := fnExactPutCellRow.holds Try.pinned (OpenSpec.ofChange fnExactPutCellSpec)

/-- ITS FALSE NEIGHBOUR: 'it returns false'. Refute it at one input. -/
def fnExactPutCellWrong : ChangeSpec := { name := "fnExactPutCell", fn := fun _ => fun
  | [d1, d2] => { results := [.lit (.bool false)], args := [d1, d2] }
  | _ => none }
def FnExactPutCellWrongFalsely : Prop := fnExactPutCellRow.holds Try.pinned (OpenSpec.ofChange fnExactPutCellWrong)

/-- 'laws.FnExactFind': WHATEVER THE INPUT: true; the input reads as it did. -/
def fnExactFindSpec : ChangeSpec := { name := "fnExactFind", fn := fun _ => fun
  | [d1, d2, d3, d4] => { results := [.lit (.bool true)], args := [d1, d2, d3, d4] }
  | _ => none }
def fnExactFindRow : OpenClaim := { program := "ytkkpokfekbdigaa", sum := "5f1e06612f281ee54f9691c542894e300375dbaf28380b31f5868d529626ac92", func := "loop.example/g00526/laws.FnExactFind", spec := "fnExactFind", unfollowed := true, recurses := true, apart := false }
def FnExactFindSaid : Prop := fnExactFindRow.holds Try.pinned (OpenSpec.ofChange fnExactFindSpec)

/-- ITS FALSE NEIGHBOUR: 'it returns false'. Refute it at one input. -/
def fnExactFindWrong : ChangeSpec := { name := "fnExactFind", fn := fun _ => fun
  | [d1, d2, d3, d4] => { results := [.lit (.bool false)], args := [d1, d2, d3, d4] }
  | _ => none }
def FnExactFindWrongFalsely : Prop := fnExactFindRow.holds Try.pinned (OpenSpec.ofChange fnExactFindWrong)

/-- 'laws.FnExactMerged': WHATEVER THE INPUT: true; the input reads as it did. -/
def fnExactMergedSpec : ChangeSpec := { name := "fnExactMerged", fn := fun _ => fun
  | [d1, d2] => { results := [.lit (.bool true)], args := [d1, d2] }
  | _ => none }
def fnExactMergedRow : OpenClaim := { program := "ytkkpokfekbdigaa", sum := "5f1e06612f281ee54f9691c542894e300375dbaf28380b31f5868d529626ac92", func := "loop.example/g00526/laws.FnExactMerged", spec := "fnExactMerged", unfollowed := true, recurses := true, apart := false }
def FnExactMergedSaid : Prop := fnExactMergedRow.holds Try.pinned (OpenSpec.ofChange fnExactMergedSpec)

/-- ITS FALSE NEIGHBOUR: 'it returns false'. Refute it at one input. -/
def fnExactMergedWrong : ChangeSpec := { name := "fnExactMerged", fn := fun _ => fun
  | [d1, d2] => { results := [.lit (.bool false)], args := [d1, d2] }
  | _ => none }
def FnExactMergedWrongFalsely : Prop := fnExactMergedRow.holds Try.pinned (OpenSpec.ofChange fnExactMergedWrong)

/-- 'laws.FnExactBarnOk': WHATEVER THE INPUT: true; the input reads as it did. -/
def fnExactBarnOkSpec : ChangeSpec := { name := "fnExactBarnOk", fn := fun _ => fun
  | [d] => { results := [.lit (.bool true)], args := [d] }
  | _ => none }
def fnExactBarnOkRow : OpenClaim := { program := "ytkkpokfekbdigaa", sum := "5f1e06612f281ee54f9691c542894e300375dbaf28380b31f5868d529626ac92", func := "loop.example/g00526/laws.FnExactBarnOk", spec := "fnExactBarnOk", unfollowed := true, recurses := true, apart := false }
def FnExactBarnOkSaid : Prop := fnExactBarnOkRow.holds Try.pinned (OpenSpec.ofChange fnExactBarnOkSpec)

/-- ITS FALSE NEIGHBOUR: 'it returns false'. Refute it at one input. -/
def fnExactBarnOkWrong : ChangeSpec := { name := "fnExactBarnOk", fn := fun _ => fun
  | [d] => { results := [.lit (.bool false)], args := [d] }
  | _ => none }
def FnExactBarnOkWrongFalsely : Prop := fnExactBarnOkRow.holds Try.pinned (OpenSpec.ofChange fnExactBarnOkWrong)

/-- 'laws.FnExactPutBarn': WHATEVER THE INPUT: true; the input reads as it did. -/
def fnExactPutBarnSpec : ChangeSpec := { name := "fnExactPutBarn", fn := fun _ => fun
  | [d1, d2] => { results := [.lit (.bool true)], args := [d1, d2] }
  | _ => none }
def fnExactPutBarnRow : OpenClaim := { program := "ytkkpokfekbdigaa", sum := "5f1e06612f281ee54f9691c542894e300375dbaf28380b31f5868d529626ac92", func := "loop.example/g00526/laws.FnExactPutBarn", spec := "fnExactPutBarn", unfollowed := true, recurses := true, apart := false }
def FnExactPutBarnSaid : Prop := fnExactPutBarnRow.holds Try.pinned (OpenSpec.ofChange fnExactPutBarnSpec)

/-- ITS FALSE NEIGHBOUR: 'it returns false'. Refute it at one input. -/
def fnExactPutBarnWrong : ChangeSpec := { name := "fnExactPutBarn", fn := fun _ => fun
  | [d1, d2] => { results := [.lit (.bool false)], args := [d1, d2] }
  | _ => none }
def FnExactPutBarnWrongFalsely : Prop := fnExactPutBarnRow.holds Try.pinned (OpenSpec.ofChange fnExactPutBarnWrong)

/-- 'laws.FnExactLaid': WHATEVER THE INPUT: true; the input reads as it did. -/
def fnExactLaidSpec : ChangeSpec := { name := "fnExactLaid", fn := fun _ => fun
  | [d] => { results := [.lit (.bool true)], args := [d] }
  | _ => none }
def fnExactLaidRow : OpenClaim := { program := "ytkkpokfekbdigaa", sum := "5f1e06612f281ee54f9691c542894e300375dbaf28380b31f5868d529626ac92", func := "loop.example/g00526/laws.FnExactLaid", spec := "fnExactLaid", inPlace := ["slices.overlaps[[]loop.example/g00526/impl.Cell]"], unfollowed := true, recurses := true, apart := false }
def FnExactLaidSaid : Prop := fnExactLaidRow.holds Try.pinned (OpenSpec.ofChange fnExactLaidSpec)

/-- ITS FALSE NEIGHBOUR: 'it returns false'. Refute it at one input. -/
def fnExactLaidWrong : ChangeSpec := { name := "fnExactLaid", fn := fun _ => fun
  | [d] => { results := [.lit (.bool false)], args := [d] }
  | _ => none }
def FnExactLaidWrongFalsely : Prop := fnExactLaidRow.holds Try.pinned (OpenSpec.ofChange fnExactLaidWrong)

/-- 'laws.FnExactFindBarn': WHATEVER THE INPUT: true; the input reads as it did. -/
def fnExactFindBarnSpec : ChangeSpec := { name := "fnExactFindBarn", fn := fun _ => fun
  | [d1, d2, d3, d4] => { results := [.lit (.bool true)], args := [d1, d2, d3, d4] }
  | _ => none }
def fnExactFindBarnRow : OpenClaim := { program := "ytkkpokfekbdigaa", sum := "5f1e06612f281ee54f9691c542894e300375dbaf28380b31f5868d529626ac92", func := "loop.example/g00526/laws.FnExactFindBarn", spec := "fnExactFindBarn", unfollowed := true, recurses := true, apart := false }
def FnExactFindBarnSaid : Prop := fnExactFindBarnRow.holds Try.pinned (OpenSpec.ofChange fnExactFindBarnSpec)

/-- ITS FALSE NEIGHBOUR: 'it returns false'. Refute it at one input. -/
def fnExactFindBarnWrong : ChangeSpec := { name := "fnExactFindBarn", fn := fun _ => fun
  | [d1, d2, d3, d4] => { results := [.lit (.bool false)], args := [d1, d2, d3, d4] }
  | _ => none }
def FnExactFindBarnWrongFalsely : Prop := fnExactFindBarnRow.holds Try.pinned (OpenSpec.ofChange fnExactFindBarnWrong)

/- THE SECOND FORM. 'bulk': how many values and letters a reading holds, each counted each time it is reached (what is shared counts as often as it is met; a slice's spare places count too). A statement '..UptoSaid' is the law's where the arguments, and the package variables that the reading takes, are together of bulk at most 1048576: NARROWER than '..Said'. Prove '..Said' where nothing that the law and all that it calls make is longer than what came in: it says more and counts as full. Else prove '..UptoSaid'. A law counts once. -/
mutual
def uptoBulk {H : Type} : DataW H → Nat
  | .lit (.string bytes) => bytes.length + 1
  | .lit _ => 1
  | .nil => 1
  | .ptr d => uptoBulk d + 1
  | .slice elems spare => uptoBulkAll elems + uptoBulkAll spare + 1
  | .agg parts => uptoBulkAll parts + 1
  | .iface _ d => uptoBulk d + 1
  | .map entries => uptoBulkEntries entries + 1
  | .held _ => 1
def uptoBulkAll {H : Type} : List (DataW H) → Nat
  | [] => 0
  | d :: r => uptoBulk d + uptoBulkAll r
def uptoBulkEntries {H : Type} : List (Lit × DataW H) → Nat
  | [] => 0
  | x :: r => uptoBulkEntry x + uptoBulkEntries r
def uptoBulkEntry {H : Type} : Lit × DataW H → Nat
  | (.string bytes, d) => bytes.length + uptoBulk d + 1
  | (_, d) => uptoBulk d + 1
 end
def uptoSmall : (H : Type) → List (DataW H) → Bool := fun _ ds => decide (uptoBulkAll ds ≤ 1048576)
def OpenSpec.upto (s : _root_.Go.ChangeSpec) : _root_.Go.OpenSpec := { _root_.Go.OpenSpec.ofChange s with cond := some uptoSmall }

/-- 'laws.FnCells', WHERE WHAT IT READS IS OF BULK AT MOST 1048576: true; the input reads as it did. -/
def fnCellsUptoRow : OpenClaim := { program := "ytkkpokfekbdigaa", sum := "5f1e06612f281ee54f9691c542894e300375dbaf28380b31f5868d529626ac92", func := "loop.example/g00526/laws.FnCells", spec := "fnCells", unfollowed := true, recurses := true, apart := false, narrowed := true }
def FnCellsUptoSaid : Prop := fnCellsUptoRow.holds Try.pinned (OpenSpec.upto fnCellsSpec)

/-- 'laws.FnMerged', WHERE WHAT IT READS IS OF BULK AT MOST 1048576: true; the input reads as it did. -/
def fnMergedUptoRow : OpenClaim := { program := "ytkkpokfekbdigaa", sum := "5f1e06612f281ee54f9691c542894e300375dbaf28380b31f5868d529626ac92", func := "loop.example/g00526/laws.FnMerged", spec := "fnMerged", unfollowed := true, recurses := true, apart := false, narrowed := true }
def FnMergedUptoSaid : Prop := fnMergedUptoRow.holds Try.pinned (OpenSpec.upto fnMergedSpec)

/-- 'laws.FnFindBarn', WHERE WHAT IT READS IS OF BULK AT MOST 1048576: true; the input reads as it did. -/
def fnFindBarnUptoRow : OpenClaim := { program := "ytkkpokfekbdigaa", sum := "5f1e06612f281ee54f9691c542894e300375dbaf28380b31f5868d529626ac92", func := "loop.example/g00526/laws.FnFindBarn", spec := "fnFindBarn", unfollowed := true, recurses := true, apart := false, narrowed := true }
def FnFindBarnUptoSaid : Prop := fnFindBarnUptoRow.holds Try.pinned (OpenSpec.upto fnFindBarnSpec)

/-- 'laws.FnExactKeyOk', WHERE WHAT IT READS IS OF BULK AT MOST 1048576: true; the input reads as it did. -/
def fnExactKeyOkUptoRow : OpenClaim := { program := "ytkkpokfekbdigaa", sum := "5f1e06612f281ee54f9691c542894e300375dbaf28380b31f5868d529626ac92", func := "loop.example/g00526/laws.FnExactKeyOk", spec := "fnExactKeyOk", apart := false, narrowed := true }
def FnExactKeyOkUptoSaid : Prop := fnExactKeyOkUptoRow.holds Try.pinned (OpenSpec.upto fnExactKeyOkSpec)

/-- 'laws.FnExactCellOk', WHERE WHAT IT READS IS OF BULK AT MOST 1048576: true; the input reads as it did. -/
def fnExactCellOkUptoRow : OpenClaim := { program := "ytkkpokfekbdigaa", sum := "5f1e06612f281ee54f9691c542894e300375dbaf28380b31f5868d529626ac92", func := "loop.example/g00526/laws.FnExactCellOk", spec := "fnExactCellOk", apart := false, narrowed := true }
def FnExactCellOkUptoSaid : Prop := fnExactCellOkUptoRow.holds Try.pinned (OpenSpec.upto fnExactCellOkSpec)

/-- 'laws.FnExactCellsOk', WHERE WHAT IT READS IS OF BULK AT MOST 1048576: true; the input reads as it did. -/
def fnExactCellsOkUptoRow : OpenClaim := { program := "ytkkpokfekbdigaa", sum := "5f1e06612f281ee54f9691c542894e300375dbaf28380b31f5868d529626ac92", func := "loop.example/g00526/laws.FnExactCellsOk", spec := "fnExactCellsOk", apart := false, narrowed := true }
def FnExactCellsOkUptoSaid : Prop := fnExactCellsOkUptoRow.holds Try.pinned (OpenSpec.upto fnExactCellsOkSpec)

/-- 'laws.FnExactPutCell', WHERE WHAT IT READS IS OF BULK AT MOST 1048576: true; the input reads as it did. -/
def fnExactPutCellUptoRow : OpenClaim := { program := "ytkkpokfekbdigaa", sum := "5f1e06612f281ee54f9691c542894e300375dbaf28380b31f5868d529626ac92", func := "loop.example/g00526/laws.FnExactPutCell", spec := "fnExactPutCell", unfollowed := true, recurses := true, apart := false, narrowed := true }
def FnExactPutCellUptoSaid : Prop := fnExactPutCellUptoRow.holds Try.pinned (OpenSpec.upto fnExactPutCellSpec)

/-- 'laws.FnExactFind', WHERE WHAT IT READS IS OF BULK AT MOST 1048576: true; the input reads as it did. -/
def fnExactFindUptoRow : OpenClaim := { program := "ytkkpokfekbdigaa", sum := "5f1e06612f281ee54f9691c542894e300375dbaf28380b31f5868d529626ac92", func := "loop.example/g00526/laws.FnExactFind", spec := "fnExactFind", unfollowed := true, recurses := true, apart := false, narrowed := true }
def FnExactFindUptoSaid : Prop := fnExactFindUptoRow.holds Try.pinned (OpenSpec.upto fnExactFindSpec)

/-- 'laws.FnExactMerged', WHERE WHAT IT READS IS OF BULK AT MOST 1048576: true; the input reads as it did. -/
def fnExactMergedUptoRow : OpenClaim := { program := "ytkkpokfekbdigaa", sum := "5f1e06612f281ee54f9691c542894e300375dbaf28380b31f5868d529626ac92", func := "loop.example/g00526/laws.FnExactMerged", spec := "fnExactMerged", unfollowed := true, recurses := true, apart := false, narrowed := true }
def FnExactMergedUptoSaid : Prop := fnExactMergedUptoRow.holds Try.pinned (OpenSpec.upto fnExactMergedSpec)

/-- 'laws.FnExactBarnOk', WHERE WHAT IT READS IS OF BULK AT MOST 1048576: true; the input reads as it did. -/
def fnExactBarnOkUptoRow : OpenClaim := { program := "ytkkpokfekbdigaa", sum := "5f1e06612f281ee54f9691c542894e300375dbaf28380b31f5868d529626ac92", func := "loop.example/g00526/laws.FnExactBarnOk", spec := "fnExactBarnOk", unfollowed := true, recurses := true, apart := false, narrowed := true }
def FnExactBarnOkUptoSaid : Prop := fnExactBarnOkUptoRow.holds Try.pinned (OpenSpec.upto fnExactBarnOkSpec)

/-- 'laws.FnExactPutBarn', WHERE WHAT IT READS IS OF BULK AT MOST 1048576: true; the input reads as it did. -/
def fnExactPutBarnUptoRow : OpenClaim := { program := "ytkkpokfekbdigaa", sum := "5f1e06612f281ee54f9691c542894e300375dbaf28380b31f5868d529626ac92", func := "loop.example/g00526/laws.FnExactPutBarn", spec := "fnExactPutBarn", unfollowed := true, recurses := true, apart := false, narrowed := true }
def FnExactPutBarnUptoSaid : Prop := fnExactPutBarnUptoRow.holds Try.pinned (OpenSpec.upto fnExactPutBarnSpec)

/-- 'laws.FnExactLaid', WHERE WHAT IT READS IS OF BULK AT MOST 1048576: true; the input reads as it did. -/
def fnExactLaidUptoRow : OpenClaim := { program := "ytkkpokfekbdigaa", sum := "5f1e06612f281ee54f9691c542894e300375dbaf28380b31f5868d529626ac92", func := "loop.example/g00526/laws.FnExactLaid", spec := "fnExactLaid", inPlace := ["slices.overlaps[[]loop.example/g00526/impl.Cell]"], unfollowed := true, recurses := true, apart := false, narrowed := true }
def FnExactLaidUptoSaid : Prop := fnExactLaidUptoRow.holds Try.pinned (OpenSpec.upto fnExactLaidSpec)

/-- 'laws.FnExactFindBarn', WHERE WHAT IT READS IS OF BULK AT MOST 1048576: true; the input reads as it did. -/
def fnExactFindBarnUptoRow : OpenClaim := { program := "ytkkpokfekbdigaa", sum := "5f1e06612f281ee54f9691c542894e300375dbaf28380b31f5868d529626ac92", func := "loop.example/g00526/laws.FnExactFindBarn", spec := "fnExactFindBarn", unfollowed := true, recurses := true, apart := false, narrowed := true }
def FnExactFindBarnUptoSaid : Prop := fnExactFindBarnUptoRow.holds Try.pinned (OpenSpec.upto fnExactFindBarnSpec)

end Rows
end Go.Proofs.Ytkkpokfekbdigaa
