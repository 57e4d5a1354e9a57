/-
  No cell of these rows narrows 'for every input' (looked for: loops, veiled, ifaces, maps, wideKeys, modest, calm, conditions, laid).
  DERIVED. THE GIVEN ROWS OF THIS SEAT. 12 by the template 'for every input the law returns true; each argument reads behind the call as it read before'; 0 by the template 'total and deterministic' (their statements: YtlfikjjdhmaemaaTotals.lean).
  GIVEN WITH THE SEED: the statements are not yours to turn. If you find one false, say at which input.
  Laid BY PROGRAM, IN A SANDBOX (cutbox-rows.mjs): the forced cells as the released guide's own fill.sh prints them over the translation 9d35d41e4d52a492… (all of the seat's roots in one cut). By AI agents, Wed Nov 11 2026. No macro, syntax, notation, axiom, sorry.
-/
import Derived.Test.YtlfikjjdhmaemaaChecked
import GoSem.Claim
import GoSem.ClaimJoined
import GoSem.ClaimMapViews
import Derived.JoinedTies
import Derived.KernelRfl
namespace Go.Proofs.Ytlfikjjdhmaemaa
/- THE CELL 'sum', in the pinned program and in every row, IS THE sha256 OF THE DUMP (.gsa) THAT YtlfikjjdhmaemaaProg.lean LOADS. Nothing in Lean hashes anything: it is a label: what it is worth is what the hold of that sum in a sandbox is worth. -/
noncomputable def Try.pinned : Pinned := { name := "ytlfikjjdhmaemaa", sum := "9d35d41e4d52a4927529b2c13ae5a859a2fa79a28976640850bda6b2880a2e93", checked := Try.checked }
namespace Rows
def none {H : Type} : Left H := { results := [], args := [] }

/-- 'laws.FnExactTakePart': WHATEVER THE INPUT: true; the input reads as it did. -/
def fnExactTakePartSpec : ChangeSpec := { name := "fnExactTakePart", fn := fun _ => fun
  | [d1, d2] => { results := [.lit (.bool true)], args := [d1, d2] }
  | _ => none }
def fnExactTakePartRow : OpenClaim := { program := "ytlfikjjdhmaemaa", sum := "9d35d41e4d52a4927529b2c13ae5a859a2fa79a28976640850bda6b2880a2e93", func := "loop.example/g01296/laws.FnExactTakePart", spec := "fnExactTakePart", unfollowed := true, recurses := true, apart := false }
def FnExactTakePartSaid : Prop := fnExactTakePartRow.holds Try.pinned (OpenSpec.ofChange fnExactTakePartSpec)

/-- ITS FALSE NEIGHBOUR: 'it returns false'. Refute it at one input. -/
def fnExactTakePartWrong : ChangeSpec := { name := "fnExactTakePart", fn := fun _ => fun
  | [d1, d2] => { results := [.lit (.bool false)], args := [d1, d2] }
  | _ => none }
def FnExactTakePartWrongFalsely : Prop := fnExactTakePartRow.holds Try.pinned (OpenSpec.ofChange fnExactTakePartWrong)

/-- 'laws.FnExactReplaceSquare': WHATEVER THE INPUT: true; the input reads as it did. -/
def fnExactReplaceSquareSpec : ChangeSpec := { name := "fnExactReplaceSquare", fn := fun _ => fun
  | [d1, d2, d3] => { results := [.lit (.bool true)], args := [d1, d2, d3] }
  | _ => none }
def fnExactReplaceSquareRow : OpenClaim := { program := "ytlfikjjdhmaemaa", sum := "9d35d41e4d52a4927529b2c13ae5a859a2fa79a28976640850bda6b2880a2e93", func := "loop.example/g01296/laws.FnExactReplaceSquare", spec := "fnExactReplaceSquare", unfollowed := true, recurses := true, apart := false }
def FnExactReplaceSquareSaid : Prop := fnExactReplaceSquareRow.holds Try.pinned (OpenSpec.ofChange fnExactReplaceSquareSpec)

/-- ITS FALSE NEIGHBOUR: 'it returns false'. Refute it at one input. -/
def fnExactReplaceSquareWrong : ChangeSpec := { name := "fnExactReplaceSquare", fn := fun _ => fun
  | [d1, d2, d3] => { results := [.lit (.bool false)], args := [d1, d2, d3] }
  | _ => none }
def FnExactReplaceSquareWrongFalsely : Prop := fnExactReplaceSquareRow.holds Try.pinned (OpenSpec.ofChange fnExactReplaceSquareWrong)

/-- 'laws.FnExactLinesDown': WHATEVER THE INPUT: true; the input reads as it did. -/
def fnExactLinesDownSpec : ChangeSpec := { name := "fnExactLinesDown", fn := fun _ => fun
  | [d] => { results := [.lit (.bool true)], args := [d] }
  | _ => none }
def fnExactLinesDownRow : OpenClaim := { program := "ytlfikjjdhmaemaa", sum := "9d35d41e4d52a4927529b2c13ae5a859a2fa79a28976640850bda6b2880a2e93", func := "loop.example/g01296/laws.FnExactLinesDown", spec := "fnExactLinesDown", unfollowed := true, recurses := true, apart := false }
def FnExactLinesDownSaid : Prop := fnExactLinesDownRow.holds Try.pinned (OpenSpec.ofChange fnExactLinesDownSpec)

/-- ITS FALSE NEIGHBOUR: 'it returns false'. Refute it at one input. -/
def fnExactLinesDownWrong : ChangeSpec := { name := "fnExactLinesDown", fn := fun _ => fun
  | [d] => { results := [.lit (.bool false)], args := [d] }
  | _ => none }
def FnExactLinesDownWrongFalsely : Prop := fnExactLinesDownRow.holds Try.pinned (OpenSpec.ofChange fnExactLinesDownWrong)

/-- 'laws.FnExactLinesAcross': WHATEVER THE INPUT: true; the input reads as it did. -/
def fnExactLinesAcrossSpec : ChangeSpec := { name := "fnExactLinesAcross", fn := fun _ => fun
  | [d] => { results := [.lit (.bool true)], args := [d] }
  | _ => none }
def fnExactLinesAcrossRow : OpenClaim := { program := "ytlfikjjdhmaemaa", sum := "9d35d41e4d52a4927529b2c13ae5a859a2fa79a28976640850bda6b2880a2e93", func := "loop.example/g01296/laws.FnExactLinesAcross", spec := "fnExactLinesAcross", unfollowed := true, recurses := true, apart := false }
def FnExactLinesAcrossSaid : Prop := fnExactLinesAcrossRow.holds Try.pinned (OpenSpec.ofChange fnExactLinesAcrossSpec)

/-- ITS FALSE NEIGHBOUR: 'it returns false'. Refute it at one input. -/
def fnExactLinesAcrossWrong : ChangeSpec := { name := "fnExactLinesAcross", fn := fun _ => fun
  | [d] => { results := [.lit (.bool false)], args := [d] }
  | _ => none }
def FnExactLinesAcrossWrongFalsely : Prop := fnExactLinesAcrossRow.holds Try.pinned (OpenSpec.ofChange fnExactLinesAcrossWrong)

/-- 'laws.FnExactPartAcross': WHATEVER THE INPUT: true; the input reads as it did. -/
def fnExactPartAcrossSpec : ChangeSpec := { name := "fnExactPartAcross", fn := fun _ => fun
  | [d] => { results := [.lit (.bool true)], args := [d] }
  | _ => none }
def fnExactPartAcrossRow : OpenClaim := { program := "ytlfikjjdhmaemaa", sum := "9d35d41e4d52a4927529b2c13ae5a859a2fa79a28976640850bda6b2880a2e93", func := "loop.example/g01296/laws.FnExactPartAcross", spec := "fnExactPartAcross", unfollowed := true, recurses := true, apart := false }
def FnExactPartAcrossSaid : Prop := fnExactPartAcrossRow.holds Try.pinned (OpenSpec.ofChange fnExactPartAcrossSpec)

/-- ITS FALSE NEIGHBOUR: 'it returns false'. Refute it at one input. -/
def fnExactPartAcrossWrong : ChangeSpec := { name := "fnExactPartAcross", fn := fun _ => fun
  | [d] => { results := [.lit (.bool false)], args := [d] }
  | _ => none }
def FnExactPartAcrossWrongFalsely : Prop := fnExactPartAcrossRow.holds Try.pinned (OpenSpec.ofChange fnExactPartAcrossWrong)

/-- 'laws.FnExactPartDown': WHATEVER THE INPUT: true; the input reads as it did. -/
def fnExactPartDownSpec : ChangeSpec := { name := "fnExactPartDown", fn := fun _ => fun
  | [d] => { results := [.lit (.bool true)], args := [d] }
  | _ => none }
def fnExactPartDownRow : OpenClaim := { program := "ytlfikjjdhmaemaa", sum := "9d35d41e4d52a4927529b2c13ae5a859a2fa79a28976640850bda6b2880a2e93", func := "loop.example/g01296/laws.FnExactPartDown", spec := "fnExactPartDown", unfollowed := true, recurses := true, apart := false }
def FnExactPartDownSaid : Prop := fnExactPartDownRow.holds Try.pinned (OpenSpec.ofChange fnExactPartDownSpec)

/-- ITS FALSE NEIGHBOUR: 'it returns false'. Refute it at one input. -/
def fnExactPartDownWrong : ChangeSpec := { name := "fnExactPartDown", fn := fun _ => fun
  | [d] => { results := [.lit (.bool false)], args := [d] }
  | _ => none }
def FnExactPartDownWrongFalsely : Prop := fnExactPartDownRow.holds Try.pinned (OpenSpec.ofChange fnExactPartDownWrong)

/-- 'laws.FnExactRatioOfWord': WHATEVER THE INPUT: true; the input reads as it did. -/
def fnExactRatioOfWordSpec : ChangeSpec := { name := "fnExactRatioOfWord", fn := fun _ => fun
  | [d] => { results := [.lit (.bool true)], args := [d] }
  | _ => none }
def fnExactRatioOfWordRow : OpenClaim := { program := "ytlfikjjdhmaemaa", sum := "9d35d41e4d52a4927529b2c13ae5a859a2fa79a28976640850bda6b2880a2e93", func := "loop.example/g01296/laws.FnExactRatioOfWord", spec := "fnExactRatioOfWord", apart := false }
def FnExactRatioOfWordSaid : Prop := fnExactRatioOfWordRow.holds Try.pinned (OpenSpec.ofChange fnExactRatioOfWordSpec)

/-- ITS FALSE NEIGHBOUR: 'it returns false'. Refute it at one input. -/
def fnExactRatioOfWordWrong : ChangeSpec := { name := "fnExactRatioOfWord", fn := fun _ => fun
  | [d] => { results := [.lit (.bool false)], args := [d] }
  | _ => none }
def FnExactRatioOfWordWrongFalsely : Prop := fnExactRatioOfWordRow.holds Try.pinned (OpenSpec.ofChange fnExactRatioOfWordWrong)

/-- 'laws.FnExactCutOfWord': WHATEVER THE INPUT: true; the input reads as it did. -/
def fnExactCutOfWordSpec : ChangeSpec := { name := "fnExactCutOfWord", fn := fun _ => fun
  | [d] => { results := [.lit (.bool true)], args := [d] }
  | _ => none }
def fnExactCutOfWordRow : OpenClaim := { program := "ytlfikjjdhmaemaa", sum := "9d35d41e4d52a4927529b2c13ae5a859a2fa79a28976640850bda6b2880a2e93", func := "loop.example/g01296/laws.FnExactCutOfWord", spec := "fnExactCutOfWord", unfollowed := true, recurses := true, apart := false }
def FnExactCutOfWordSaid : Prop := fnExactCutOfWordRow.holds Try.pinned (OpenSpec.ofChange fnExactCutOfWordSpec)

/-- ITS FALSE NEIGHBOUR: 'it returns false'. Refute it at one input. -/
def fnExactCutOfWordWrong : ChangeSpec := { name := "fnExactCutOfWord", fn := fun _ => fun
  | [d] => { results := [.lit (.bool false)], args := [d] }
  | _ => none }
def FnExactCutOfWordWrongFalsely : Prop := fnExactCutOfWordRow.holds Try.pinned (OpenSpec.ofChange fnExactCutOfWordWrong)

/-- 'laws.FnExactRatiosOf': WHATEVER THE INPUT: true; the input reads as it did. -/
def fnExactRatiosOfSpec : ChangeSpec := { name := "fnExactRatiosOf", fn := fun _ => fun
  | [d] => { results := [.lit (.bool true)], args := [d] }
  | _ => none }
def fnExactRatiosOfRow : OpenClaim := { program := "ytlfikjjdhmaemaa", sum := "9d35d41e4d52a4927529b2c13ae5a859a2fa79a28976640850bda6b2880a2e93", func := "loop.example/g01296/laws.FnExactRatiosOf", spec := "fnExactRatiosOf", inPlace := ["internal/abi.NoEscape"], apart := false }
def FnExactRatiosOfSaid : Prop := fnExactRatiosOfRow.holds Try.pinned (OpenSpec.ofChange fnExactRatiosOfSpec)

/-- ITS FALSE NEIGHBOUR: 'it returns false'. Refute it at one input. -/
def fnExactRatiosOfWrong : ChangeSpec := { name := "fnExactRatiosOf", fn := fun _ => fun
  | [d] => { results := [.lit (.bool false)], args := [d] }
  | _ => none }
def FnExactRatiosOfWrongFalsely : Prop := fnExactRatiosOfRow.holds Try.pinned (OpenSpec.ofChange fnExactRatiosOfWrong)

/-- 'laws.FnExactFewestByLines': WHATEVER THE INPUT: true; the input reads as it did. -/
def fnExactFewestByLinesSpec : ChangeSpec := { name := "fnExactFewestByLines", fn := fun _ => fun
  | [d1, d2] => { results := [.lit (.bool true)], args := [d1, d2] }
  | _ => none }
def fnExactFewestByLinesRow : OpenClaim := { program := "ytlfikjjdhmaemaa", sum := "9d35d41e4d52a4927529b2c13ae5a859a2fa79a28976640850bda6b2880a2e93", func := "loop.example/g01296/laws.FnExactFewestByLines", spec := "fnExactFewestByLines", apart := false }
def FnExactFewestByLinesSaid : Prop := fnExactFewestByLinesRow.holds Try.pinned (OpenSpec.ofChange fnExactFewestByLinesSpec)

/-- ITS FALSE NEIGHBOUR: 'it returns false'. Refute it at one input. -/
def fnExactFewestByLinesWrong : ChangeSpec := { name := "fnExactFewestByLines", fn := fun _ => fun
  | [d1, d2] => { results := [.lit (.bool false)], args := [d1, d2] }
  | _ => none }
def FnExactFewestByLinesWrongFalsely : Prop := fnExactFewestByLinesRow.holds Try.pinned (OpenSpec.ofChange fnExactFewestByLinesWrong)

/-- 'laws.FnExactLinedTable': WHATEVER THE INPUT: true; the input reads as it did. -/
def fnExactLinedTableSpec : ChangeSpec := { name := "fnExactLinedTable", fn := fun _ => fun
  | [d] => { results := [.lit (.bool true)], args := [d] }
  | _ => none }
def fnExactLinedTableRow : OpenClaim := { program := "ytlfikjjdhmaemaa", sum := "9d35d41e4d52a4927529b2c13ae5a859a2fa79a28976640850bda6b2880a2e93", func := "loop.example/g01296/laws.FnExactLinedTable", spec := "fnExactLinedTable", apart := false }
def FnExactLinedTableSaid : Prop := fnExactLinedTableRow.holds Try.pinned (OpenSpec.ofChange fnExactLinedTableSpec)

/-- ITS FALSE NEIGHBOUR: 'it returns false'. Refute it at one input. -/
def fnExactLinedTableWrong : ChangeSpec := { name := "fnExactLinedTable", fn := fun _ => fun
  | [d] => { results := [.lit (.bool false)], args := [d] }
  | _ => none }
def FnExactLinedTableWrongFalsely : Prop := fnExactLinedTableRow.holds Try.pinned (OpenSpec.ofChange fnExactLinedTableWrong)

/-- 'laws.FnExactCutByLines': WHATEVER THE INPUT: true; the input reads as it did. -/
def fnExactCutByLinesSpec : ChangeSpec := { name := "fnExactCutByLines", fn := fun _ => fun
  | [d1, d2] => { results := [.lit (.bool true)], args := [d1, d2] }
  | _ => none }
def fnExactCutByLinesRow : OpenClaim := { program := "ytlfikjjdhmaemaa", sum := "9d35d41e4d52a4927529b2c13ae5a859a2fa79a28976640850bda6b2880a2e93", func := "loop.example/g01296/laws.FnExactCutByLines", spec := "fnExactCutByLines", unfollowed := true, recurses := true, apart := false }
def FnExactCutByLinesSaid : Prop := fnExactCutByLinesRow.holds Try.pinned (OpenSpec.ofChange fnExactCutByLinesSpec)

/-- ITS FALSE NEIGHBOUR: 'it returns false'. Refute it at one input. -/
def fnExactCutByLinesWrong : ChangeSpec := { name := "fnExactCutByLines", fn := fun _ => fun
  | [d1, d2] => { results := [.lit (.bool false)], args := [d1, d2] }
  | _ => none }
def FnExactCutByLinesWrongFalsely : Prop := fnExactCutByLinesRow.holds Try.pinned (OpenSpec.ofChange fnExactCutByLinesWrong)

/- THE SECOND FORM. 'bulk': how many values and letters a reading holds, each counted each time it is reached (what is shared counts as often as it is met; a slice's spare places count too). A statement '..UptoSaid' is the law's where the arguments, and the package variables that the reading takes, are together of bulk at most 1048576: NARROWER than '..Said'. Prove '..Said' where nothing that the law and all that it calls make is longer than what came in: it says more and counts as full. Else prove '..UptoSaid'. A law counts once. -/
mutual
def uptoBulk {H : Type} : DataW H → Nat
  | .lit (.string bytes) => bytes.length + 1
  | .lit _ => 1
  | .nil => 1
  | .ptr d => uptoBulk d + 1
  | .slice elems spare => uptoBulkAll elems + uptoBulkAll spare + 1
  | .agg parts => uptoBulkAll parts + 1
  | .iface _ d => uptoBulk d + 1
  | .map entries => uptoBulkEntries entries + 1
  | .held _ => 1
def uptoBulkAll {H : Type} : List (DataW H) → Nat
  | [] => 0
  | d :: r => uptoBulk d + uptoBulkAll r
def uptoBulkEntries {H : Type} : List (Lit × DataW H) → Nat
  | [] => 0
  | x :: r => uptoBulkEntry x + uptoBulkEntries r
def uptoBulkEntry {H : Type} : Lit × DataW H → Nat
  | (.string bytes, d) => bytes.length + uptoBulk d + 1
  | (_, d) => uptoBulk d + 1
 end
def uptoSmall : (H : Type) → List (DataW H) → Bool := fun _ ds => decide (uptoBulkAll ds ≤ 1048576)
def OpenSpec.upto (s : _root_.Go.ChangeSpec) : _root_.Go.OpenSpec := { _root_.Go.OpenSpec.ofChange s with cond := some uptoSmall }

/-- 'laws.FnExactTakePart', WHERE WHAT IT READS IS OF BULK AT MOST 1048576: true; the input reads as it did. -/
def fnExactTakePartUptoRow : OpenClaim := { program := "ytlfikjjdhmaemaa", sum := "9d35d41e4d52a4927529b2c13ae5a859a2fa79a28976640850bda6b2880a2e93", func := "loop.example/g01296/laws.FnExactTakePart", spec := "fnExactTakePart", unfollowed := true, recurses := true, apart := false, narrowed := true }
def FnExactTakePartUptoSaid : Prop := fnExactTakePartUptoRow.holds Try.pinned (OpenSpec.upto fnExactTakePartSpec)

/-- 'laws.FnExactReplaceSquare', WHERE WHAT IT READS IS OF BULK AT MOST 1048576: true; the input reads as it did. -/
def fnExactReplaceSquareUptoRow : OpenClaim := { program := "ytlfikjjdhmaemaa", sum := "9d35d41e4d52a4927529b2c13ae5a859a2fa79a28976640850bda6b2880a2e93", func := "loop.example/g01296/laws.FnExactReplaceSquare", spec := "fnExactReplaceSquare", unfollowed := true, recurses := true, apart := false, narrowed := true }
def FnExactReplaceSquareUptoSaid : Prop := fnExactReplaceSquareUptoRow.holds Try.pinned (OpenSpec.upto fnExactReplaceSquareSpec)

/-- 'laws.FnExactLinesDown', WHERE WHAT IT READS IS OF BULK AT MOST 1048576: true; the input reads as it did. -/
def fnExactLinesDownUptoRow : OpenClaim := { program := "ytlfikjjdhmaemaa", sum := "9d35d41e4d52a4927529b2c13ae5a859a2fa79a28976640850bda6b2880a2e93", func := "loop.example/g01296/laws.FnExactLinesDown", spec := "fnExactLinesDown", unfollowed := true, recurses := true, apart := false, narrowed := true }
def FnExactLinesDownUptoSaid : Prop := fnExactLinesDownUptoRow.holds Try.pinned (OpenSpec.upto fnExactLinesDownSpec)

/-- 'laws.FnExactLinesAcross', WHERE WHAT IT READS IS OF BULK AT MOST 1048576: true; the input reads as it did. -/
def fnExactLinesAcrossUptoRow : OpenClaim := { program := "ytlfikjjdhmaemaa", sum := "9d35d41e4d52a4927529b2c13ae5a859a2fa79a28976640850bda6b2880a2e93", func := "loop.example/g01296/laws.FnExactLinesAcross", spec := "fnExactLinesAcross", unfollowed := true, recurses := true, apart := false, narrowed := true }
def FnExactLinesAcrossUptoSaid : Prop := fnExactLinesAcrossUptoRow.holds Try.pinned (OpenSpec.upto fnExactLinesAcrossSpec)

/-- 'laws.FnExactPartAcross', WHERE WHAT IT READS IS OF BULK AT MOST 1048576: true; the input reads as it did. -/
def fnExactPartAcrossUptoRow : OpenClaim := { program := "ytlfikjjdhmaemaa", sum := "9d35d41e4d52a4927529b2c13ae5a859a2fa79a28976640850bda6b2880a2e93", func := "loop.example/g01296/laws.FnExactPartAcross", spec := "fnExactPartAcross", unfollowed := true, recurses := true, apart := false, narrowed := true }
def FnExactPartAcrossUptoSaid : Prop := fnExactPartAcrossUptoRow.holds Try.pinned (OpenSpec.upto fnExactPartAcrossSpec)

/-- 'laws.FnExactPartDown', WHERE WHAT IT READS IS OF BULK AT MOST 1048576: true; the input reads as it did. -/
def fnExactPartDownUptoRow : OpenClaim := { program := "ytlfikjjdhmaemaa", sum := "9d35d41e4d52a4927529b2c13ae5a859a2fa79a28976640850bda6b2880a2e93", func := "loop.example/g01296/laws.FnExactPartDown", spec := "fnExactPartDown", unfollowed := true, recurses := true, apart := false, narrowed := true }
def FnExactPartDownUptoSaid : Prop := fnExactPartDownUptoRow.holds Try.pinned (OpenSpec.upto fnExactPartDownSpec)

/-- 'laws.FnExactRatioOfWord', WHERE WHAT IT READS IS OF BULK AT MOST 1048576: true; the input reads as it did. -/
def fnExactRatioOfWordUptoRow : OpenClaim := { program := "ytlfikjjdhmaemaa", sum := "9d35d41e4d52a4927529b2c13ae5a859a2fa79a28976640850bda6b2880a2e93", func := "loop.example/g01296/laws.FnExactRatioOfWord", spec := "fnExactRatioOfWord", apart := false, narrowed := true }
def FnExactRatioOfWordUptoSaid : Prop := fnExactRatioOfWordUptoRow.holds Try.pinned (OpenSpec.upto fnExactRatioOfWordSpec)

/-- 'laws.FnExactCutOfWord', WHERE WHAT IT READS IS OF BULK AT MOST 1048576: true; the input reads as it did. -/
def fnExactCutOfWordUptoRow : OpenClaim := { program := "ytlfikjjdhmaemaa", sum := "9d35d41e4d52a4927529b2c13ae5a859a2fa79a28976640850bda6b2880a2e93", func := "loop.example/g01296/laws.FnExactCutOfWord", spec := "fnExactCutOfWord", unfollowed := true, recurses := true, apart := false, narrowed := true }
def FnExactCutOfWordUptoSaid : Prop := fnExactCutOfWordUptoRow.holds Try.pinned (OpenSpec.upto fnExactCutOfWordSpec)

/-- 'laws.FnExactRatiosOf', WHERE WHAT IT READS IS OF BULK AT MOST 1048576: true; the input reads as it did. -/
def fnExactRatiosOfUptoRow : OpenClaim := { program := "ytlfikjjdhmaemaa", sum := "9d35d41e4d52a4927529b2c13ae5a859a2fa79a28976640850bda6b2880a2e93", func := "loop.example/g01296/laws.FnExactRatiosOf", spec := "fnExactRatiosOf", inPlace := ["internal/abi.NoEscape"], apart := false, narrowed := true }
def FnExactRatiosOfUptoSaid : Prop := fnExactRatiosOfUptoRow.holds Try.pinned (OpenSpec.upto fnExactRatiosOfSpec)

/-- 'laws.FnExactFewestByLines', WHERE WHAT IT READS IS OF BULK AT MOST 1048576: true; the input reads as it did. -/
def fnExactFewestByLinesUptoRow : OpenClaim := { program := "ytlfikjjdhmaemaa", sum := "9d35d41e4d52a4927529b2c13ae5a859a2fa79a28976640850bda6b2880a2e93", func := "loop.example/g01296/laws.FnExactFewestByLines", spec := "fnExactFewestByLines", apart := false, narrowed := true }
def FnExactFewestByLinesUptoSaid : Prop := fnExactFewestByLinesUptoRow.holds Try.pinned (OpenSpec.upto fnExactFewestByLinesSpec)

/-- 'laws.FnExactLinedTable', WHERE WHAT IT READS IS OF BULK AT MOST 1048576: true; the input reads as it did. -/
def fnExactLinedTableUptoRow : OpenClaim := { program := "ytlfikjjdhmaemaa", sum := "9d35d41e4d52a4927529b2c13ae5a859a2fa79a28976640850bda6b2880a2e93", func := "loop.example/g01296/laws.FnExactLinedTable", spec := "fnExactLinedTable", apart := false, narrowed := true }
def FnExactLinedTableUptoSaid : Prop := fnExactLinedTableUptoRow.holds Try.pinned (OpenSpec.upto fnExactLinedTableSpec)

/-- 'laws.FnExactCutByLines', WHERE WHAT IT READS IS OF BULK AT MOST 1048576: true; the input reads as it did. -/
def fnExactCutByLinesUptoRow : OpenClaim := { program := "ytlfikjjdhmaemaa", sum := "9d35d41e4d52a4927529b2c13ae5a859a2fa79a28976640850bda6b2880a2e93", func := "loop.example/g01296/laws.FnExactCutByLines", spec := "fnExactCutByLines", unfollowed := true, recurses := true, apart := false, narrowed := true }
def FnExactCutByLinesUptoSaid : Prop := fnExactCutByLinesUptoRow.holds Try.pinned (OpenSpec.upto fnExactCutByLinesSpec)

end Rows
end Go.Proofs.Ytlfikjjdhmaemaa
