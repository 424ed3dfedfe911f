/-
  No cell of these rows narrows 'for every input' (looked for: loops, veiled, ifaces, maps, wideKeys, modest, calm, conditions, laid).
  DERIVED. THE GIVEN ROWS OF THIS SEAT. 11 by the template 'for every input the law returns true; each argument reads behind the call as it read before'; 0 by the template 'total and deterministic' (their statements: YtopcjiaakefmeaaTotals.lean).
  GIVEN WITH THE SEED: the statements are not yours to turn. If you find one false, say at which input.
  Laid BY PROGRAM, IN A SANDBOX (cutbox-rows.mjs): the forced cells as the released guide's own fill.sh prints them over the translation f12b8252f914b331… (all of the seat's roots in one cut). By AI agents, Wed Nov 11 2026. No macro, syntax, notation, axiom, sorry.
-/
import Derived.Test.YtopcjiaakefmeaaChecked
import GoSem.Claim
import GoSem.ClaimJoined
import GoSem.ClaimMapViews
import Derived.JoinedTies
import Derived.KernelRfl
namespace Go.Proofs.Ytopcjiaakefmeaa
/- THE CELL 'sum', in the pinned program and in every row, IS THE sha256 OF THE DUMP (.gsa) THAT YtopcjiaakefmeaaProg.lean LOADS. Nothing in Lean hashes anything: it is a label: what it is worth is what the hold of that sum in a sandbox is worth. -/
noncomputable def Try.pinned : Pinned := { name := "ytopcjiaakefmeaa", sum := "f12b8252f914b331ebc60499669a133ec7576eceee7c3b32c455930590d9366e", checked := Try.checked }
namespace Rows
def none {H : Type} : Left H := { results := [], args := [] }

/-- 'laws.FnThinned': WHATEVER THE INPUT: true; the input reads as it did. -/
def fnThinnedSpec : ChangeSpec := { name := "fnThinned", fn := fun _ => fun
  | [d] => { results := [.lit (.bool true)], args := [d] }
  | _ => none }
def fnThinnedRow : OpenClaim := { program := "ytopcjiaakefmeaa", sum := "f12b8252f914b331ebc60499669a133ec7576eceee7c3b32c455930590d9366e", func := "loop.example/g00526/laws.FnThinned", spec := "fnThinned", unfollowed := true, recurses := true, apart := false }
def FnThinnedSaid : Prop := fnThinnedRow.holds Try.pinned (OpenSpec.ofChange fnThinnedSpec)

/-- ITS FALSE NEIGHBOUR: 'it returns false'. Refute it at one input. -/
def fnThinnedWrong : ChangeSpec := { name := "fnThinned", fn := fun _ => fun
  | [d] => { results := [.lit (.bool false)], args := [d] }
  | _ => none }
def FnThinnedWrongFalsely : Prop := fnThinnedRow.holds Try.pinned (OpenSpec.ofChange fnThinnedWrong)

/-- 'laws.FnBarns': WHATEVER THE INPUT: true; the input reads as it did. -/
def fnBarnsSpec : ChangeSpec := { name := "fnBarns", fn := fun _ => fun
  | [d] => { results := [.lit (.bool true)], args := [d] }
  | _ => none }
def fnBarnsRow : OpenClaim := { program := "ytopcjiaakefmeaa", sum := "f12b8252f914b331ebc60499669a133ec7576eceee7c3b32c455930590d9366e", func := "loop.example/g00526/laws.FnBarns", spec := "fnBarns", inPlace := ["slices.overlaps[[]loop.example/g00526/impl.Cell]"], unfollowed := true, recurses := true, apart := false }
def FnBarnsSaid : Prop := fnBarnsRow.holds Try.pinned (OpenSpec.ofChange fnBarnsSpec)

/-- ITS FALSE NEIGHBOUR: 'it returns false'. Refute it at one input. -/
def fnBarnsWrong : ChangeSpec := { name := "fnBarns", fn := fun _ => fun
  | [d] => { results := [.lit (.bool false)], args := [d] }
  | _ => none }
def FnBarnsWrongFalsely : Prop := fnBarnsRow.holds Try.pinned (OpenSpec.ofChange fnBarnsWrong)

/-- 'laws.FnFindBarn': WHATEVER THE INPUT: true; the input reads as it did. -/
def fnFindBarnSpec : ChangeSpec := { name := "fnFindBarn", fn := fun _ => fun
  | [d] => { results := [.lit (.bool true)], args := [d] }
  | _ => none }
def fnFindBarnRow : OpenClaim := { program := "ytopcjiaakefmeaa", sum := "f12b8252f914b331ebc60499669a133ec7576eceee7c3b32c455930590d9366e", func := "loop.example/g00526/laws.FnFindBarn", spec := "fnFindBarn", unfollowed := true, recurses := true, apart := false }
def FnFindBarnSaid : Prop := fnFindBarnRow.holds Try.pinned (OpenSpec.ofChange fnFindBarnSpec)

/-- ITS FALSE NEIGHBOUR: 'it returns false'. Refute it at one input. -/
def fnFindBarnWrong : ChangeSpec := { name := "fnFindBarn", fn := fun _ => fun
  | [d] => { results := [.lit (.bool false)], args := [d] }
  | _ => none }
def FnFindBarnWrongFalsely : Prop := fnFindBarnRow.holds Try.pinned (OpenSpec.ofChange fnFindBarnWrong)

/-- 'laws.FnSwept': WHATEVER THE INPUT: true; the input reads as it did. -/
def fnSweptSpec : ChangeSpec := { name := "fnSwept", fn := fun _ => fun
  | [d] => { results := [.lit (.bool true)], args := [d] }
  | _ => none }
def fnSweptRow : OpenClaim := { program := "ytopcjiaakefmeaa", sum := "f12b8252f914b331ebc60499669a133ec7576eceee7c3b32c455930590d9366e", func := "loop.example/g00526/laws.FnSwept", spec := "fnSwept", unfollowed := true, recurses := true, apart := false }
def FnSweptSaid : Prop := fnSweptRow.holds Try.pinned (OpenSpec.ofChange fnSweptSpec)

/-- ITS FALSE NEIGHBOUR: 'it returns false'. Refute it at one input. -/
def fnSweptWrong : ChangeSpec := { name := "fnSwept", fn := fun _ => fun
  | [d] => { results := [.lit (.bool false)], args := [d] }
  | _ => none }
def FnSweptWrongFalsely : Prop := fnSweptRow.holds Try.pinned (OpenSpec.ofChange fnSweptWrong)

/-- 'laws.FnExactThinned': WHATEVER THE INPUT: true; the input reads as it did. -/
def fnExactThinnedSpec : ChangeSpec := { name := "fnExactThinned", fn := fun _ => fun
  | [d1, d2, d3] => { results := [.lit (.bool true)], args := [d1, d2, d3] }
  | _ => none }
def fnExactThinnedRow : OpenClaim := { program := "ytopcjiaakefmeaa", sum := "f12b8252f914b331ebc60499669a133ec7576eceee7c3b32c455930590d9366e", func := "loop.example/g00526/laws.FnExactThinned", spec := "fnExactThinned", apart := false }
def FnExactThinnedSaid : Prop := fnExactThinnedRow.holds Try.pinned (OpenSpec.ofChange fnExactThinnedSpec)

/-- ITS FALSE NEIGHBOUR: 'it returns false'. Refute it at one input. -/
def fnExactThinnedWrong : ChangeSpec := { name := "fnExactThinned", fn := fun _ => fun
  | [d1, d2, d3] => { results := [.lit (.bool false)], args := [d1, d2, d3] }
  | _ => none }
def FnExactThinnedWrongFalsely : Prop := fnExactThinnedRow.holds Try.pinned (OpenSpec.ofChange fnExactThinnedWrong)

/-- 'laws.FnExactBarnOk': WHATEVER THE INPUT: true; the input reads as it did. -/
def fnExactBarnOkSpec : ChangeSpec := { name := "fnExactBarnOk", fn := fun _ => fun
  | [d] => { results := [.lit (.bool true)], args := [d] }
  | _ => none }
def fnExactBarnOkRow : OpenClaim := { program := "ytopcjiaakefmeaa", sum := "f12b8252f914b331ebc60499669a133ec7576eceee7c3b32c455930590d9366e", func := "loop.example/g00526/laws.FnExactBarnOk", spec := "fnExactBarnOk", unfollowed := true, recurses := true, apart := false }
def FnExactBarnOkSaid : Prop := fnExactBarnOkRow.holds Try.pinned (OpenSpec.ofChange fnExactBarnOkSpec)

/-- ITS FALSE NEIGHBOUR: 'it returns false'. Refute it at one input. -/
def fnExactBarnOkWrong : ChangeSpec := { name := "fnExactBarnOk", fn := fun _ => fun
  | [d] => { results := [.lit (.bool false)], args := [d] }
  | _ => none }
def FnExactBarnOkWrongFalsely : Prop := fnExactBarnOkRow.holds Try.pinned (OpenSpec.ofChange fnExactBarnOkWrong)

/-- 'laws.FnExactPutBarn': WHATEVER THE INPUT: true; the input reads as it did. -/
def fnExactPutBarnSpec : ChangeSpec := { name := "fnExactPutBarn", fn := fun _ => fun
  | [d1, d2] => { results := [.lit (.bool true)], args := [d1, d2] }
  | _ => none }
def fnExactPutBarnRow : OpenClaim := { program := "ytopcjiaakefmeaa", sum := "f12b8252f914b331ebc60499669a133ec7576eceee7c3b32c455930590d9366e", func := "loop.example/g00526/laws.FnExactPutBarn", spec := "fnExactPutBarn", unfollowed := true, recurses := true, apart := false }
def FnExactPutBarnSaid : Prop := fnExactPutBarnRow.holds Try.pinned (OpenSpec.ofChange fnExactPutBarnSpec)

/-- ITS FALSE NEIGHBOUR: 'it returns false'. Refute it at one input. -/
def fnExactPutBarnWrong : ChangeSpec := { name := "fnExactPutBarn", fn := fun _ => fun
  | [d1, d2] => { results := [.lit (.bool false)], args := [d1, d2] }
  | _ => none }
def FnExactPutBarnWrongFalsely : Prop := fnExactPutBarnRow.holds Try.pinned (OpenSpec.ofChange fnExactPutBarnWrong)

/-- 'laws.FnExactLaid': WHATEVER THE INPUT: true; the input reads as it did. -/
def fnExactLaidSpec : ChangeSpec := { name := "fnExactLaid", fn := fun _ => fun
  | [d] => { results := [.lit (.bool true)], args := [d] }
  | _ => none }
def fnExactLaidRow : OpenClaim := { program := "ytopcjiaakefmeaa", sum := "f12b8252f914b331ebc60499669a133ec7576eceee7c3b32c455930590d9366e", func := "loop.example/g00526/laws.FnExactLaid", spec := "fnExactLaid", inPlace := ["slices.overlaps[[]loop.example/g00526/impl.Cell]"], unfollowed := true, recurses := true, apart := false }
def FnExactLaidSaid : Prop := fnExactLaidRow.holds Try.pinned (OpenSpec.ofChange fnExactLaidSpec)

/-- ITS FALSE NEIGHBOUR: 'it returns false'. Refute it at one input. -/
def fnExactLaidWrong : ChangeSpec := { name := "fnExactLaid", fn := fun _ => fun
  | [d] => { results := [.lit (.bool false)], args := [d] }
  | _ => none }
def FnExactLaidWrongFalsely : Prop := fnExactLaidRow.holds Try.pinned (OpenSpec.ofChange fnExactLaidWrong)

/-- 'laws.FnExactSwept': WHATEVER THE INPUT: true; the input reads as it did. -/
def fnExactSweptSpec : ChangeSpec := { name := "fnExactSwept", fn := fun _ => fun
  | [d1, d2, d3] => { results := [.lit (.bool true)], args := [d1, d2, d3] }
  | _ => none }
def fnExactSweptRow : OpenClaim := { program := "ytopcjiaakefmeaa", sum := "f12b8252f914b331ebc60499669a133ec7576eceee7c3b32c455930590d9366e", func := "loop.example/g00526/laws.FnExactSwept", spec := "fnExactSwept", unfollowed := true, recurses := true, apart := false }
def FnExactSweptSaid : Prop := fnExactSweptRow.holds Try.pinned (OpenSpec.ofChange fnExactSweptSpec)

/-- ITS FALSE NEIGHBOUR: 'it returns false'. Refute it at one input. -/
def fnExactSweptWrong : ChangeSpec := { name := "fnExactSwept", fn := fun _ => fun
  | [d1, d2, d3] => { results := [.lit (.bool false)], args := [d1, d2, d3] }
  | _ => none }
def FnExactSweptWrongFalsely : Prop := fnExactSweptRow.holds Try.pinned (OpenSpec.ofChange fnExactSweptWrong)

/-- 'laws.FnExactFindBarn': WHATEVER THE INPUT: true; the input reads as it did. -/
def fnExactFindBarnSpec : ChangeSpec := { name := "fnExactFindBarn", fn := fun _ => fun
  | [d1, d2, d3, d4] => { results := [.lit (.bool true)], args := [d1, d2, d3, d4] }
  | _ => none }
def fnExactFindBarnRow : OpenClaim := { program := "ytopcjiaakefmeaa", sum := "f12b8252f914b331ebc60499669a133ec7576eceee7c3b32c455930590d9366e", func := "loop.example/g00526/laws.FnExactFindBarn", spec := "fnExactFindBarn", unfollowed := true, recurses := true, apart := false }
def FnExactFindBarnSaid : Prop := fnExactFindBarnRow.holds Try.pinned (OpenSpec.ofChange fnExactFindBarnSpec)

/-- ITS FALSE NEIGHBOUR: 'it returns false'. Refute it at one input. -/
def fnExactFindBarnWrong : ChangeSpec := { name := "fnExactFindBarn", fn := fun _ => fun
  | [d1, d2, d3, d4] => { results := [.lit (.bool false)], args := [d1, d2, d3, d4] }
  | _ => none }
def FnExactFindBarnWrongFalsely : Prop := fnExactFindBarnRow.holds Try.pinned (OpenSpec.ofChange fnExactFindBarnWrong)

/-- 'laws.FnExactAllCells': WHATEVER THE INPUT: true; the input reads as it did. -/
def fnExactAllCellsSpec : ChangeSpec := { name := "fnExactAllCells", fn := fun _ => fun
  | [d] => { results := [.lit (.bool true)], args := [d] }
  | _ => none }
def fnExactAllCellsRow : OpenClaim := { program := "ytopcjiaakefmeaa", sum := "f12b8252f914b331ebc60499669a133ec7576eceee7c3b32c455930590d9366e", func := "loop.example/g00526/laws.FnExactAllCells", spec := "fnExactAllCells", unfollowed := true, recurses := true, apart := false }
def FnExactAllCellsSaid : Prop := fnExactAllCellsRow.holds Try.pinned (OpenSpec.ofChange fnExactAllCellsSpec)

/-- ITS FALSE NEIGHBOUR: 'it returns false'. Refute it at one input. -/
def fnExactAllCellsWrong : ChangeSpec := { name := "fnExactAllCells", fn := fun _ => fun
  | [d] => { results := [.lit (.bool false)], args := [d] }
  | _ => none }
def FnExactAllCellsWrongFalsely : Prop := fnExactAllCellsRow.holds Try.pinned (OpenSpec.ofChange fnExactAllCellsWrong)

/- THE SECOND FORM. 'bulk': how many values and letters a reading holds, each counted each time it is reached (what is shared counts as often as it is met; a slice's spare places count too). A statement '..UptoSaid' is the law's where the arguments, and the package variables that the reading takes, are together of bulk at most 1048576: NARROWER than '..Said'. Prove '..Said' where nothing that the law and all that it calls make is longer than what came in: it says more and counts as full. Else prove '..UptoSaid'. A law counts once. -/
mutual
def uptoBulk {H : Type} : DataW H → Nat
  | .lit (.string bytes) => bytes.length + 1
  | .lit _ => 1
  | .nil => 1
  | .ptr d => uptoBulk d + 1
  | .slice elems spare => uptoBulkAll elems + uptoBulkAll spare + 1
  | .agg parts => uptoBulkAll parts + 1
  | .iface _ d => uptoBulk d + 1
  | .map entries => uptoBulkEntries entries + 1
  | .held _ => 1
def uptoBulkAll {H : Type} : List (DataW H) → Nat
  | [] => 0
  | d :: r => uptoBulk d + uptoBulkAll r
def uptoBulkEntries {H : Type} : List (Lit × DataW H) → Nat
  | [] => 0
  | x :: r => uptoBulkEntry x + uptoBulkEntries r
def uptoBulkEntry {H : Type} : Lit × DataW H → Nat
  | (.string bytes, d) => bytes.length + uptoBulk d + 1
  | (_, d) => uptoBulk d + 1
 end
def uptoSmall : (H : Type) → List (DataW H) → Bool := fun _ ds => decide (uptoBulkAll ds ≤ 1048576)
def OpenSpec.upto (s : _root_.Go.ChangeSpec) : _root_.Go.OpenSpec := { _root_.Go.OpenSpec.ofChange s with cond := some uptoSmall }

/-- 'laws.FnThinned', WHERE WHAT IT READS IS OF BULK AT MOST 1048576: true; the input reads as it did. -/
def fnThinnedUptoRow : OpenClaim := { program := "ytopcjiaakefmeaa", sum := "f12b8252f914b331ebc60499669a133ec7576eceee7c3b32c455930590d9366e", func := "loop.example/g00526/laws.FnThinned", spec := "fnThinned", unfollowed := true, recurses := true, apart := false, narrowed := true }
def FnThinnedUptoSaid : Prop := fnThinnedUptoRow.holds Try.pinned (OpenSpec.upto fnThinnedSpec)

/-- 'laws.FnBarns', WHERE WHAT IT READS IS OF BULK AT MOST 1048576: true; the input reads as it did. -/
def fnBarnsUptoRow : OpenClaim := { program := "ytopcjiaakefmeaa", sum := "f12b8252f914b331ebc60499669a133ec7576eceee7c3b32c455930590d9366e", func := "loop.example/g00526/laws.FnBarns", spec := "fnBarns", inPlace := ["slices.overlaps[[]loop.example/g00526/impl.Cell]"], unfollowed := true, recurses := true, apart := false, narrowed := true }
def FnBarnsUptoSaid : Prop := fnBarnsUptoRow.holds Try.pinned (OpenSpec.upto fnBarnsSpec)

/-- 'laws.FnFindBarn', WHERE WHAT IT READS IS OF BULK AT MOST 1048576: true; the input reads as it did. -/
def fnFindBarnUptoRow : OpenClaim := { program := "ytopcjiaakefmeaa", sum := "f12b8252f914b331ebc60499669a133ec7576eceee7c3b32c455930590d9366e", func := "loop.example/g00526/laws.FnFindBarn", spec := "fnFindBarn", unfollowed := true, recurses := true, apart := false, narrowed := true }
def FnFindBarnUptoSaid : Prop := fnFindBarnUptoRow.holds Try.pinned (OpenSpec.upto fnFindBarnSpec)

/-- 'laws.FnSwept', WHERE WHAT IT READS IS OF BULK AT MOST 1048576: true; the input reads as it did. -/
def fnSweptUptoRow : OpenClaim := { program := "ytopcjiaakefmeaa", sum := "f12b8252f914b331ebc60499669a133ec7576eceee7c3b32c455930590d9366e", func := "loop.example/g00526/laws.FnSwept", spec := "fnSwept", unfollowed := true, recurses := true, apart := false, narrowed := true }
def FnSweptUptoSaid : Prop := fnSweptUptoRow.holds Try.pinned (OpenSpec.upto fnSweptSpec)

/-- 'laws.FnExactThinned', WHERE WHAT IT READS IS OF BULK AT MOST 1048576: true; the input reads as it did. -/
def fnExactThinnedUptoRow : OpenClaim := { program := "ytopcjiaakefmeaa", sum := "f12b8252f914b331ebc60499669a133ec7576eceee7c3b32c455930590d9366e", func := "loop.example/g00526/laws.FnExactThinned", spec := "fnExactThinned", apart := false, narrowed := true }
def FnExactThinnedUptoSaid : Prop := fnExactThinnedUptoRow.holds Try.pinned (OpenSpec.upto fnExactThinnedSpec)

/-- 'laws.FnExactBarnOk', WHERE WHAT IT READS IS OF BULK AT MOST 1048576: true; the input reads as it did. -/
def fnExactBarnOkUptoRow : OpenClaim := { program := "ytopcjiaakefmeaa", sum := "f12b8252f914b331ebc60499669a133ec7576eceee7c3b32c455930590d9366e", func := "loop.example/g00526/laws.FnExactBarnOk", spec := "fnExactBarnOk", unfollowed := true, recurses := true, apart := false, narrowed := true }
def FnExactBarnOkUptoSaid : Prop := fnExactBarnOkUptoRow.holds Try.pinned (OpenSpec.upto fnExactBarnOkSpec)

/-- 'laws.FnExactPutBarn', WHERE WHAT IT READS IS OF BULK AT MOST 1048576: true; the input reads as it did. -/
def fnExactPutBarnUptoRow : OpenClaim := { program := "ytopcjiaakefmeaa", sum := "f12b8252f914b331ebc60499669a133ec7576eceee7c3b32c455930590d9366e", func := "loop.example/g00526/laws.FnExactPutBarn", spec := "fnExactPutBarn", unfollowed := true, recurses := true, apart := false, narrowed := true }
def FnExactPutBarnUptoSaid : Prop := fnExactPutBarnUptoRow.holds Try.pinned (OpenSpec.upto fnExactPutBarnSpec)

/-- 'laws.FnExactLaid', WHERE WHAT IT READS IS OF BULK AT MOST 1048576: true; the input reads as it did. -/
def fnExactLaidUptoRow : OpenClaim := { program := "ytopcjiaakefmeaa", sum := "f12b8252f914b331ebc60499669a133ec7576eceee7c3b32c455930590d9366e", func := "loop.example/g00526/laws.FnExactLaid", spec := "fnExactLaid", inPlace := ["slices.overlaps[[]loop.example/g00526/impl.Cell]"], unfollowed := true, recurses := true, apart := false, narrowed := true }
def FnExactLaidUptoSaid : Prop := fnExactLaidUptoRow.holds Try.pinned (OpenSpec.upto fnExactLaidSpec)

/-- 'laws.FnExactSwept', WHERE WHAT IT READS IS OF BULK AT MOST 1048576: true; the input reads as it did. -/
def fnExactSweptUptoRow : OpenClaim := { program := "ytopcjiaakefmeaa", sum := "f12b8252f914b331ebc60499669a133ec7576eceee7c3b32c455930590d9366e", func := "loop.example/g00526/laws.FnExactSwept", spec := "fnExactSwept", unfollowed := true, recurses := true, apart := false, narrowed := true }
def FnExactSweptUptoSaid : Prop := fnExactSweptUptoRow.holds Try.pinned (OpenSpec.upto fnExactSweptSpec)

/-- 'laws.FnExactFindBarn', WHERE WHAT IT READS IS OF BULK AT MOST 1048576: true; the input reads as it did. -/
def fnExactFindBarnUptoRow : OpenClaim := { program := "ytopcjiaakefmeaa", sum := "f12b8252f914b331ebc60499669a133ec7576eceee7c3b32c455930590d9366e", func := "loop.example/g00526/laws.FnExactFindBarn", spec := "fnExactFindBarn", unfollowed := true, recurses := true, apart := false, narrowed := true }
def FnExactFindBarnUptoSaid : Prop := fnExactFindBarnUptoRow.holds Try.pinned (OpenSpec.upto fnExactFindBarnSpec)

/-- 'laws.FnExactAllCells', WHERE WHAT IT READS IS OF BULK AT MOST 1048576: true; the input reads as it did. -/
def fnExactAllCellsUptoRow : OpenClaim := { program := "ytopcjiaakefmeaa", sum := "f12b8252f914b331ebc60499669a133ec7576eceee7c3b32c455930590d9366e", func := "loop.example/g00526/laws.FnExactAllCells", spec := "fnExactAllCells", unfollowed := true, recurses := true, apart := false, narrowed := true }
def FnExactAllCellsUptoSaid : Prop := fnExactAllCellsUptoRow.holds Try.pinned (OpenSpec.upto fnExactAllCellsSpec)

end Rows
end Go.Proofs.Ytopcjiaakefmeaa
