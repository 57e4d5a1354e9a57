/-
  No cell of these rows narrows 'for every input' (looked for: loops, veiled, ifaces, maps, wideKeys, modest, calm, conditions, laid).
  DERIVED. THE GIVEN ROWS OF THIS SEAT. 12 by the template 'for every input the law returns true; each argument reads behind the call as it read before'; 0 by the template 'total and deterministic' (their statements: YtmjdmedlkcmgiaaTotals.lean).
  GIVEN WITH THE SEED: the statements are not yours to turn. If you find one false, say at which input.
  Laid BY PROGRAM, IN A SANDBOX (cutbox-rows.mjs): the forced cells as the released guide's own fill.sh prints them over the translation 4a958b0c4f948a0b… (all of the seat's roots in one cut). By AI agents, Wed Nov 11 2026. No macro, syntax, notation, axiom, sorry.
-/
import Derived.Test.YtmjdmedlkcmgiaaChecked
import GoSem.Claim
import GoSem.ClaimJoined
import GoSem.ClaimMapViews
import Derived.JoinedTies
import Derived.KernelRfl
namespace Go.Proofs.Ytmjdmedlkcmgiaa
/- THE CELL 'sum', in the pinned program and in every row, IS THE sha256 OF THE DUMP (.gsa) THAT YtmjdmedlkcmgiaaProg.lean LOADS. Nothing in Lean hashes anything: it is a label: what it is worth is what the hold of that sum in a sandbox is worth. -/
noncomputable def Try.pinned : Pinned := { name := "ytmjdmedlkcmgiaa", sum := "4a958b0c4f948a0ba32a54ac79cec5a20648ed4a10916825bf798f841d7efbf0", checked := Try.checked }
namespace Rows
def none {H : Type} : Left H := { results := [], args := [] }

/-- 'laws.FnExactCodeOf': WHATEVER THE INPUT: true; the input reads as it did. -/
def fnExactCodeOfSpec : ChangeSpec := { name := "fnExactCodeOf", fn := fun _ => fun
  | [d] => { results := [.lit (.bool true)], args := [d] }
  | _ => none }
def fnExactCodeOfRow : OpenClaim := { program := "ytmjdmedlkcmgiaa", sum := "4a958b0c4f948a0ba32a54ac79cec5a20648ed4a10916825bf798f841d7efbf0", func := "loop.example/g01296/laws.FnExactCodeOf", spec := "fnExactCodeOf", unfollowed := true, recurses := true, apart := false }
def FnExactCodeOfSaid : Prop := fnExactCodeOfRow.holds Try.pinned (OpenSpec.ofChange fnExactCodeOfSpec)

/-- ITS FALSE NEIGHBOUR: 'it returns false'. Refute it at one input. -/
def fnExactCodeOfWrong : ChangeSpec := { name := "fnExactCodeOf", fn := fun _ => fun
  | [d] => { results := [.lit (.bool false)], args := [d] }
  | _ => none }
def FnExactCodeOfWrongFalsely : Prop := fnExactCodeOfRow.holds Try.pinned (OpenSpec.ofChange fnExactCodeOfWrong)

/-- 'laws.FnExactCutOfCode': WHATEVER THE INPUT: true; the input reads as it did. -/
def fnExactCutOfCodeSpec : ChangeSpec := { name := "fnExactCutOfCode", fn := fun _ => fun
  | [d] => { results := [.lit (.bool true)], args := [d] }
  | _ => none }
def fnExactCutOfCodeRow : OpenClaim := { program := "ytmjdmedlkcmgiaa", sum := "4a958b0c4f948a0ba32a54ac79cec5a20648ed4a10916825bf798f841d7efbf0", func := "loop.example/g01296/laws.FnExactCutOfCode", spec := "fnExactCutOfCode", unfollowed := true, recurses := true, apart := false }
def FnExactCutOfCodeSaid : Prop := fnExactCutOfCodeRow.holds Try.pinned (OpenSpec.ofChange fnExactCutOfCodeSpec)

/-- ITS FALSE NEIGHBOUR: 'it returns false'. Refute it at one input. -/
def fnExactCutOfCodeWrong : ChangeSpec := { name := "fnExactCutOfCode", fn := fun _ => fun
  | [d] => { results := [.lit (.bool false)], args := [d] }
  | _ => none }
def FnExactCutOfCodeWrongFalsely : Prop := fnExactCutOfCodeRow.holds Try.pinned (OpenSpec.ofChange fnExactCutOfCodeWrong)

/-- 'laws.FnExactCutOfSides': WHATEVER THE INPUT: true; the input reads as it did. -/
def fnExactCutOfSidesSpec : ChangeSpec := { name := "fnExactCutOfSides", fn := fun _ => fun
  | [d1, d2] => { results := [.lit (.bool true)], args := [d1, d2] }
  | _ => none }
def fnExactCutOfSidesRow : OpenClaim := { program := "ytmjdmedlkcmgiaa", sum := "4a958b0c4f948a0ba32a54ac79cec5a20648ed4a10916825bf798f841d7efbf0", func := "loop.example/g01296/laws.FnExactCutOfSides", spec := "fnExactCutOfSides", unfollowed := true, recurses := true, apart := false }
def FnExactCutOfSidesSaid : Prop := fnExactCutOfSidesRow.holds Try.pinned (OpenSpec.ofChange fnExactCutOfSidesSpec)

/-- ITS FALSE NEIGHBOUR: 'it returns false'. Refute it at one input. -/
def fnExactCutOfSidesWrong : ChangeSpec := { name := "fnExactCutOfSides", fn := fun _ => fun
  | [d1, d2] => { results := [.lit (.bool false)], args := [d1, d2] }
  | _ => none }
def FnExactCutOfSidesWrongFalsely : Prop := fnExactCutOfSidesRow.holds Try.pinned (OpenSpec.ofChange fnExactCutOfSidesWrong)

/-- 'laws.FnExactIsCutCode': WHATEVER THE INPUT: true; the input reads as it did. -/
def fnExactIsCutCodeSpec : ChangeSpec := { name := "fnExactIsCutCode", fn := fun _ => fun
  | [d] => { results := [.lit (.bool true)], args := [d] }
  | _ => none }
def fnExactIsCutCodeRow : OpenClaim := { program := "ytmjdmedlkcmgiaa", sum := "4a958b0c4f948a0ba32a54ac79cec5a20648ed4a10916825bf798f841d7efbf0", func := "loop.example/g01296/laws.FnExactIsCutCode", spec := "fnExactIsCutCode", unfollowed := true, recurses := true, apart := false }
def FnExactIsCutCodeSaid : Prop := fnExactIsCutCodeRow.holds Try.pinned (OpenSpec.ofChange fnExactIsCutCodeSpec)

/-- ITS FALSE NEIGHBOUR: 'it returns false'. Refute it at one input. -/
def fnExactIsCutCodeWrong : ChangeSpec := { name := "fnExactIsCutCode", fn := fun _ => fun
  | [d] => { results := [.lit (.bool false)], args := [d] }
  | _ => none }
def FnExactIsCutCodeWrongFalsely : Prop := fnExactIsCutCodeRow.holds Try.pinned (OpenSpec.ofChange fnExactIsCutCodeWrong)

/-- 'laws.FnExactOrderOfCode': WHATEVER THE INPUT: true; the input reads as it did. -/
def fnExactOrderOfCodeSpec : ChangeSpec := { name := "fnExactOrderOfCode", fn := fun _ => fun
  | [d] => { results := [.lit (.bool true)], args := [d] }
  | _ => none }
def fnExactOrderOfCodeRow : OpenClaim := { program := "ytmjdmedlkcmgiaa", sum := "4a958b0c4f948a0ba32a54ac79cec5a20648ed4a10916825bf798f841d7efbf0", func := "loop.example/g01296/laws.FnExactOrderOfCode", spec := "fnExactOrderOfCode", unfollowed := true, recurses := true, apart := false }
def FnExactOrderOfCodeSaid : Prop := fnExactOrderOfCodeRow.holds Try.pinned (OpenSpec.ofChange fnExactOrderOfCodeSpec)

/-- ITS FALSE NEIGHBOUR: 'it returns false'. Refute it at one input. -/
def fnExactOrderOfCodeWrong : ChangeSpec := { name := "fnExactOrderOfCode", fn := fun _ => fun
  | [d] => { results := [.lit (.bool false)], args := [d] }
  | _ => none }
def FnExactOrderOfCodeWrongFalsely : Prop := fnExactOrderOfCodeRow.holds Try.pinned (OpenSpec.ofChange fnExactOrderOfCodeWrong)

/-- 'laws.FnExactLevelsOf': WHATEVER THE INPUT: true; the input reads as it did. -/
def fnExactLevelsOfSpec : ChangeSpec := { name := "fnExactLevelsOf", fn := fun _ => fun
  | [d] => { results := [.lit (.bool true)], args := [d] }
  | _ => none }
def fnExactLevelsOfRow : OpenClaim := { program := "ytmjdmedlkcmgiaa", sum := "4a958b0c4f948a0ba32a54ac79cec5a20648ed4a10916825bf798f841d7efbf0", func := "loop.example/g01296/laws.FnExactLevelsOf", spec := "fnExactLevelsOf", unfollowed := true, recurses := true, apart := false }
def FnExactLevelsOfSaid : Prop := fnExactLevelsOfRow.holds Try.pinned (OpenSpec.ofChange fnExactLevelsOfSpec)

/-- ITS FALSE NEIGHBOUR: 'it returns false'. Refute it at one input. -/
def fnExactLevelsOfWrong : ChangeSpec := { name := "fnExactLevelsOf", fn := fun _ => fun
  | [d] => { results := [.lit (.bool false)], args := [d] }
  | _ => none }
def FnExactLevelsOfWrongFalsely : Prop := fnExactLevelsOfRow.holds Try.pinned (OpenSpec.ofChange fnExactLevelsOfWrong)

/-- 'laws.FnExactGroupOfSquare': WHATEVER THE INPUT: true; the input reads as it did. -/
def fnExactGroupOfSquareSpec : ChangeSpec := { name := "fnExactGroupOfSquare", fn := fun _ => fun
  | [d1, d2] => { results := [.lit (.bool true)], args := [d1, d2] }
  | _ => none }
def fnExactGroupOfSquareRow : OpenClaim := { program := "ytmjdmedlkcmgiaa", sum := "4a958b0c4f948a0ba32a54ac79cec5a20648ed4a10916825bf798f841d7efbf0", func := "loop.example/g01296/laws.FnExactGroupOfSquare", spec := "fnExactGroupOfSquare", unfollowed := true, recurses := true, apart := false }
def FnExactGroupOfSquareSaid : Prop := fnExactGroupOfSquareRow.holds Try.pinned (OpenSpec.ofChange fnExactGroupOfSquareSpec)

/-- ITS FALSE NEIGHBOUR: 'it returns false'. Refute it at one input. -/
def fnExactGroupOfSquareWrong : ChangeSpec := { name := "fnExactGroupOfSquare", fn := fun _ => fun
  | [d1, d2] => { results := [.lit (.bool false)], args := [d1, d2] }
  | _ => none }
def FnExactGroupOfSquareWrongFalsely : Prop := fnExactGroupOfSquareRow.holds Try.pinned (OpenSpec.ofChange fnExactGroupOfSquareWrong)

/-- 'laws.FnExactWidthOfCode': WHATEVER THE INPUT: true; the input reads as it did. -/
def fnExactWidthOfCodeSpec : ChangeSpec := { name := "fnExactWidthOfCode", fn := fun _ => fun
  | [d] => { results := [.lit (.bool true)], args := [d] }
  | _ => none }
def fnExactWidthOfCodeRow : OpenClaim := { program := "ytmjdmedlkcmgiaa", sum := "4a958b0c4f948a0ba32a54ac79cec5a20648ed4a10916825bf798f841d7efbf0", func := "loop.example/g01296/laws.FnExactWidthOfCode", spec := "fnExactWidthOfCode", unfollowed := true, recurses := true, apart := false }
def FnExactWidthOfCodeSaid : Prop := fnExactWidthOfCodeRow.holds Try.pinned (OpenSpec.ofChange fnExactWidthOfCodeSpec)

/-- ITS FALSE NEIGHBOUR: 'it returns false'. Refute it at one input. -/
def fnExactWidthOfCodeWrong : ChangeSpec := { name := "fnExactWidthOfCode", fn := fun _ => fun
  | [d] => { results := [.lit (.bool false)], args := [d] }
  | _ => none }
def FnExactWidthOfCodeWrongFalsely : Prop := fnExactWidthOfCodeRow.holds Try.pinned (OpenSpec.ofChange fnExactWidthOfCodeWrong)

/-- 'laws.FnExactCompareCodes': WHATEVER THE INPUT: true; the input reads as it did. -/
def fnExactCompareCodesSpec : ChangeSpec := { name := "fnExactCompareCodes", fn := fun _ => fun
  | [d1, d2] => { results := [.lit (.bool true)], args := [d1, d2] }
  | _ => none }
def fnExactCompareCodesRow : OpenClaim := { program := "ytmjdmedlkcmgiaa", sum := "4a958b0c4f948a0ba32a54ac79cec5a20648ed4a10916825bf798f841d7efbf0", func := "loop.example/g01296/laws.FnExactCompareCodes", spec := "fnExactCompareCodes", unfollowed := true, recurses := true, apart := false }
def FnExactCompareCodesSaid : Prop := fnExactCompareCodesRow.holds Try.pinned (OpenSpec.ofChange fnExactCompareCodesSpec)

/-- ITS FALSE NEIGHBOUR: 'it returns false'. Refute it at one input. -/
def fnExactCompareCodesWrong : ChangeSpec := { name := "fnExactCompareCodes", fn := fun _ => fun
  | [d1, d2] => { results := [.lit (.bool false)], args := [d1, d2] }
  | _ => none }
def FnExactCompareCodesWrongFalsely : Prop := fnExactCompareCodesRow.holds Try.pinned (OpenSpec.ofChange fnExactCompareCodesWrong)

/-- 'laws.FnExactIsSimple': WHATEVER THE INPUT: true; the input reads as it did. -/
def fnExactIsSimpleSpec : ChangeSpec := { name := "fnExactIsSimple", fn := fun _ => fun
  | [d] => { results := [.lit (.bool true)], args := [d] }
  | _ => none }
def fnExactIsSimpleRow : OpenClaim := { program := "ytmjdmedlkcmgiaa", sum := "4a958b0c4f948a0ba32a54ac79cec5a20648ed4a10916825bf798f841d7efbf0", func := "loop.example/g01296/laws.FnExactIsSimple", spec := "fnExactIsSimple", unfollowed := true, recurses := true, apart := false }
def FnExactIsSimpleSaid : Prop := fnExactIsSimpleRow.holds Try.pinned (OpenSpec.ofChange fnExactIsSimpleSpec)

/-- ITS FALSE NEIGHBOUR: 'it returns false'. Refute it at one input. -/
def fnExactIsSimpleWrong : ChangeSpec := { name := "fnExactIsSimple", fn := fun _ => fun
  | [d] => { results := [.lit (.bool false)], args := [d] }
  | _ => none }
def FnExactIsSimpleWrongFalsely : Prop := fnExactIsSimpleRow.holds Try.pinned (OpenSpec.ofChange fnExactIsSimpleWrong)

/-- 'laws.FnExactPartsOf': WHATEVER THE INPUT: true; the input reads as it did. -/
def fnExactPartsOfSpec : ChangeSpec := { name := "fnExactPartsOf", fn := fun _ => fun
  | [d] => { results := [.lit (.bool true)], args := [d] }
  | _ => none }
def fnExactPartsOfRow : OpenClaim := { program := "ytmjdmedlkcmgiaa", sum := "4a958b0c4f948a0ba32a54ac79cec5a20648ed4a10916825bf798f841d7efbf0", func := "loop.example/g01296/laws.FnExactPartsOf", spec := "fnExactPartsOf", unfollowed := true, recurses := true, apart := false }
def FnExactPartsOfSaid : Prop := fnExactPartsOfRow.holds Try.pinned (OpenSpec.ofChange fnExactPartsOfSpec)

/-- ITS FALSE NEIGHBOUR: 'it returns false'. Refute it at one input. -/
def fnExactPartsOfWrong : ChangeSpec := { name := "fnExactPartsOf", fn := fun _ => fun
  | [d] => { results := [.lit (.bool false)], args := [d] }
  | _ => none }
def FnExactPartsOfWrongFalsely : Prop := fnExactPartsOfRow.holds Try.pinned (OpenSpec.ofChange fnExactPartsOfWrong)

/-- 'laws.FnExactTurnCut': WHATEVER THE INPUT: true; the input reads as it did. -/
def fnExactTurnCutSpec : ChangeSpec := { name := "fnExactTurnCut", fn := fun _ => fun
  | [d] => { results := [.lit (.bool true)], args := [d] }
  | _ => none }
def fnExactTurnCutRow : OpenClaim := { program := "ytmjdmedlkcmgiaa", sum := "4a958b0c4f948a0ba32a54ac79cec5a20648ed4a10916825bf798f841d7efbf0", func := "loop.example/g01296/laws.FnExactTurnCut", spec := "fnExactTurnCut", unfollowed := true, recurses := true, apart := false }
def FnExactTurnCutSaid : Prop := fnExactTurnCutRow.holds Try.pinned (OpenSpec.ofChange fnExactTurnCutSpec)

/-- ITS FALSE NEIGHBOUR: 'it returns false'. Refute it at one input. -/
def fnExactTurnCutWrong : ChangeSpec := { name := "fnExactTurnCut", fn := fun _ => fun
  | [d] => { results := [.lit (.bool false)], args := [d] }
  | _ => none }
def FnExactTurnCutWrongFalsely : Prop := fnExactTurnCutRow.holds Try.pinned (OpenSpec.ofChange fnExactTurnCutWrong)

/- THE SECOND FORM. 'bulk': how many values and letters a reading holds, each counted each time it is reached (what is shared counts as often as it is met; a slice's spare places count too). A statement '..UptoSaid' is the law's where the arguments, and the package variables that the reading takes, are together of bulk at most 1048576: NARROWER than '..Said'. Prove '..Said' where nothing that the law and all that it calls make is longer than what came in: it says more and counts as full. Else prove '..UptoSaid'. A law counts once. -/
mutual
def uptoBulk {H : Type} : DataW H → Nat
  | .lit (.string bytes) => bytes.length + 1
  | .lit _ => 1
  | .nil => 1
  | .ptr d => uptoBulk d + 1
  | .slice elems spare => uptoBulkAll elems + uptoBulkAll spare + 1
  | .agg parts => uptoBulkAll parts + 1
  | .iface _ d => uptoBulk d + 1
  | .map entries => uptoBulkEntries entries + 1
  | .held _ => 1
def uptoBulkAll {H : Type} : List (DataW H) → Nat
  | [] => 0
  | d :: r => uptoBulk d + uptoBulkAll r
def uptoBulkEntries {H : Type} : List (Lit × DataW H) → Nat
  | [] => 0
  | x :: r => uptoBulkEntry x + uptoBulkEntries r
def uptoBulkEntry {H : Type} : Lit × DataW H → Nat
  | (.string bytes, d) => bytes.length + uptoBulk d + 1
  | (_, d) => uptoBulk d + 1
 end
def uptoSmall : (H : Type) → List (DataW H) → Bool := fun _ ds => decide (uptoBulkAll ds ≤ 1048576)
def OpenSpec.upto (s : _root_.Go.ChangeSpec) : _root_.Go.OpenSpec := { _root_.Go.OpenSpec.ofChange s with cond := some uptoSmall }

/-- 'laws.FnExactCodeOf', WHERE WHAT IT READS IS OF BULK AT MOST 1048576: true; the input reads as it did. -/
def fnExactCodeOfUptoRow : OpenClaim := { program := "ytmjdmedlkcmgiaa", sum := "4a958b0c4f948a0ba32a54ac79cec5a20648ed4a10916825bf798f841d7efbf0", func := "loop.example/g01296/laws.FnExactCodeOf", spec := "fnExactCodeOf", unfollowed := true, recurses := true, apart := false, narrowed := true }
def FnExactCodeOfUptoSaid : Prop := fnExactCodeOfUptoRow.holds Try.pinned (OpenSpec.upto fnExactCodeOfSpec)

/-- 'laws.FnExactCutOfCode', WHERE WHAT IT READS IS OF BULK AT MOST 1048576: true; the input reads as it did. -/
def fnExactCutOfCodeUptoRow : OpenClaim := { program := "ytmjdmedlkcmgiaa", sum := "4a958b0c4f948a0ba32a54ac79cec5a20648ed4a10916825bf798f841d7efbf0", func := "loop.example/g01296/laws.FnExactCutOfCode", spec := "fnExactCutOfCode", unfollowed := true, recurses := true, apart := false, narrowed := true }
def FnExactCutOfCodeUptoSaid : Prop := fnExactCutOfCodeUptoRow.holds Try.pinned (OpenSpec.upto fnExactCutOfCodeSpec)

/-- 'laws.FnExactCutOfSides', WHERE WHAT IT READS IS OF BULK AT MOST 1048576: true; the input reads as it did. -/
def fnExactCutOfSidesUptoRow : OpenClaim := { program := "ytmjdmedlkcmgiaa", sum := "4a958b0c4f948a0ba32a54ac79cec5a20648ed4a10916825bf798f841d7efbf0", func := "loop.example/g01296/laws.FnExactCutOfSides", spec := "fnExactCutOfSides", unfollowed := true, recurses := true, apart := false, narrowed := true }
def FnExactCutOfSidesUptoSaid : Prop := fnExactCutOfSidesUptoRow.holds Try.pinned (OpenSpec.upto fnExactCutOfSidesSpec)

/-- 'laws.FnExactIsCutCode', WHERE WHAT IT READS IS OF BULK AT MOST 1048576: true; the input reads as it did. -/
def fnExactIsCutCodeUptoRow : OpenClaim := { program := "ytmjdmedlkcmgiaa", sum := "4a958b0c4f948a0ba32a54ac79cec5a20648ed4a10916825bf798f841d7efbf0", func := "loop.example/g01296/laws.FnExactIsCutCode", spec := "fnExactIsCutCode", unfollowed := true, recurses := true, apart := false, narrowed := true }
def FnExactIsCutCodeUptoSaid : Prop := fnExactIsCutCodeUptoRow.holds Try.pinned (OpenSpec.upto fnExactIsCutCodeSpec)

/-- 'laws.FnExactOrderOfCode', WHERE WHAT IT READS IS OF BULK AT MOST 1048576: true; the input reads as it did. -/
def fnExactOrderOfCodeUptoRow : OpenClaim := { program := "ytmjdmedlkcmgiaa", sum := "4a958b0c4f948a0ba32a54ac79cec5a20648ed4a10916825bf798f841d7efbf0", func := "loop.example/g01296/laws.FnExactOrderOfCode", spec := "fnExactOrderOfCode", unfollowed := true, recurses := true, apart := false, narrowed := true }
def FnExactOrderOfCodeUptoSaid : Prop := fnExactOrderOfCodeUptoRow.holds Try.pinned (OpenSpec.upto fnExactOrderOfCodeSpec)

/-- 'laws.FnExactLevelsOf', WHERE WHAT IT READS IS OF BULK AT MOST 1048576: true; the input reads as it did. -/
def fnExactLevelsOfUptoRow : OpenClaim := { program := "ytmjdmedlkcmgiaa", sum := "4a958b0c4f948a0ba32a54ac79cec5a20648ed4a10916825bf798f841d7efbf0", func := "loop.example/g01296/laws.FnExactLevelsOf", spec := "fnExactLevelsOf", unfollowed := true, recurses := true, apart := false, narrowed := true }
def FnExactLevelsOfUptoSaid : Prop := fnExactLevelsOfUptoRow.holds Try.pinned (OpenSpec.upto fnExactLevelsOfSpec)

/-- 'laws.FnExactGroupOfSquare', WHERE WHAT IT READS IS OF BULK AT MOST 1048576: true; the input reads as it did. -/
def fnExactGroupOfSquareUptoRow : OpenClaim := { program := "ytmjdmedlkcmgiaa", sum := "4a958b0c4f948a0ba32a54ac79cec5a20648ed4a10916825bf798f841d7efbf0", func := "loop.example/g01296/laws.FnExactGroupOfSquare", spec := "fnExactGroupOfSquare", unfollowed := true, recurses := true, apart := false, narrowed := true }
def FnExactGroupOfSquareUptoSaid : Prop := fnExactGroupOfSquareUptoRow.holds Try.pinned (OpenSpec.upto fnExactGroupOfSquareSpec)

/-- 'laws.FnExactWidthOfCode', WHERE WHAT IT READS IS OF BULK AT MOST 1048576: true; the input reads as it did. -/
def fnExactWidthOfCodeUptoRow : OpenClaim := { program := "ytmjdmedlkcmgiaa", sum := "4a958b0c4f948a0ba32a54ac79cec5a20648ed4a10916825bf798f841d7efbf0", func := "loop.example/g01296/laws.FnExactWidthOfCode", spec := "fnExactWidthOfCode", unfollowed := true, recurses := true, apart := false, narrowed := true }
def FnExactWidthOfCodeUptoSaid : Prop := fnExactWidthOfCodeUptoRow.holds Try.pinned (OpenSpec.upto fnExactWidthOfCodeSpec)

/-- 'laws.FnExactCompareCodes', WHERE WHAT IT READS IS OF BULK AT MOST 1048576: true; the input reads as it did. -/
def fnExactCompareCodesUptoRow : OpenClaim := { program := "ytmjdmedlkcmgiaa", sum := "4a958b0c4f948a0ba32a54ac79cec5a20648ed4a10916825bf798f841d7efbf0", func := "loop.example/g01296/laws.FnExactCompareCodes", spec := "fnExactCompareCodes", unfollowed := true, recurses := true, apart := false, narrowed := true }
def FnExactCompareCodesUptoSaid : Prop := fnExactCompareCodesUptoRow.holds Try.pinned (OpenSpec.upto fnExactCompareCodesSpec)

/-- 'laws.FnExactIsSimple', WHERE WHAT IT READS IS OF BULK AT MOST 1048576: true; the input reads as it did. -/
def fnExactIsSimpleUptoRow : OpenClaim := { program := "ytmjdmedlkcmgiaa", sum := "4a958b0c4f948a0ba32a54ac79cec5a20648ed4a10916825bf798f841d7efbf0", func := "loop.example/g01296/laws.FnExactIsSimple", spec := "fnExactIsSimple", unfollowed := true, recurses := true, apart := false, narrowed := true }
def FnExactIsSimpleUptoSaid : Prop := fnExactIsSimpleUptoRow.holds Try.pinned (OpenSpec.upto fnExactIsSimpleSpec)

/-- 'laws.FnExactPartsOf', WHERE WHAT IT READS IS OF BULK AT MOST 1048576: true; the input reads as it did. -/
def fnExactPartsOfUptoRow : OpenClaim := { program := "ytmjdmedlkcmgiaa", sum := "4a958b0c4f948a0ba32a54ac79cec5a20648ed4a10916825bf798f841d7efbf0", func := "loop.example/g01296/laws.FnExactPartsOf", spec := "fnExactPartsOf", unfollowed := true, recurses := true, apart := false, narrowed := true }
def FnExactPartsOfUptoSaid : Prop := fnExactPartsOfUptoRow.holds Try.pinned (OpenSpec.upto fnExactPartsOfSpec)

/-- 'laws.FnExactTurnCut', WHERE WHAT IT READS IS OF BULK AT MOST 1048576: true; the input reads as it did. -/
def fnExactTurnCutUptoRow : OpenClaim := { program := "ytmjdmedlkcmgiaa", sum := "4a958b0c4f948a0ba32a54ac79cec5a20648ed4a10916825bf798f841d7efbf0", func := "loop.example/g01296/laws.FnExactTurnCut", spec := "fnExactTurnCut", unfollowed := true, recurses := true, apart := false, narrowed := true }
def FnExactTurnCutUptoSaid : Prop := fnExactTurnCutUptoRow.holds Try.pinned (OpenSpec.upto fnExactTurnCutSpec)

end Rows
end Go.Proofs.Ytmjdmedlkcmgiaa
