/-
  No cell of these rows narrows 'for every input' (looked for: loops, veiled, ifaces, maps, wideKeys, modest, calm, conditions, laid).
  DERIVED. THE GIVEN ROWS OF THIS SEAT. 12 by the template 'for every input the law returns true; each argument reads behind the call as it read before'; 0 by the template 'total and deterministic' (their statements: YtdkokblgakgklaaTotals.lean).
  GIVEN WITH THE SEED: the statements are not yours to turn. If you find one false, say at which input.
  Laid BY PROGRAM, IN A SANDBOX (cutbox-rows.mjs): the forced cells as the released guide's own fill.sh prints them over the translation 6edb65c6a4fb4df0… (all of the seat's roots in one cut). By AI agents, Wed Nov 11 2026. No macro, syntax, notation, axiom, sorry.
-/
import Derived.Test.YtdkokblgakgklaaChecked
import GoSem.Claim
import GoSem.ClaimJoined
import GoSem.ClaimMapViews
import Derived.JoinedTies
import Derived.KernelRfl
namespace Go.Proofs.Ytdkokblgakgklaa
/- THE CELL 'sum', in the pinned program and in every row, IS THE sha256 OF THE DUMP (.gsa) THAT YtdkokblgakgklaaProg.lean LOADS. Nothing in Lean hashes anything: it is a label: what it is worth is what the hold of that sum in a sandbox is worth. -/
noncomputable def Try.pinned : Pinned := { name := "ytdkokblgakgklaa", sum := "6edb65c6a4fb4df0237cc137b515a1ec9b86e8d8cfdfeb3aa5c3b1396a1e850e", checked := Try.checked }
namespace Rows
def none {H : Type} : Left H := { results := [], args := [] }

/-- 'laws.FnExactPartDown': WHATEVER THE INPUT: true; the input reads as it did. -/
def fnExactPartDownSpec : ChangeSpec := { name := "fnExactPartDown", fn := fun _ => fun
  | [d] => { results := [.lit (.bool true)], args := [d] }
  | _ => none }
def fnExactPartDownRow : OpenClaim := { program := "ytdkokblgakgklaa", sum := "6edb65c6a4fb4df0237cc137b515a1ec9b86e8d8cfdfeb3aa5c3b1396a1e850e", func := "loop.example/g01296/laws.FnExactPartDown", spec := "fnExactPartDown", unfollowed := true, recurses := true, apart := false }
def FnExactPartDownSaid : Prop := fnExactPartDownRow.holds Try.pinned (OpenSpec.ofChange fnExactPartDownSpec)

/-- ITS FALSE NEIGHBOUR: 'it returns false'. Refute it at one input. -/
def fnExactPartDownWrong : ChangeSpec := { name := "fnExactPartDown", fn := fun _ => fun
  | [d] => { results := [.lit (.bool false)], args := [d] }
  | _ => none }
def FnExactPartDownWrongFalsely : Prop := fnExactPartDownRow.holds Try.pinned (OpenSpec.ofChange fnExactPartDownWrong)

/-- 'laws.FnExactPartAcross': WHATEVER THE INPUT: true; the input reads as it did. -/
def fnExactPartAcrossSpec : ChangeSpec := { name := "fnExactPartAcross", fn := fun _ => fun
  | [d] => { results := [.lit (.bool true)], args := [d] }
  | _ => none }
def fnExactPartAcrossRow : OpenClaim := { program := "ytdkokblgakgklaa", sum := "6edb65c6a4fb4df0237cc137b515a1ec9b86e8d8cfdfeb3aa5c3b1396a1e850e", func := "loop.example/g01296/laws.FnExactPartAcross", spec := "fnExactPartAcross", unfollowed := true, recurses := true, apart := false }
def FnExactPartAcrossSaid : Prop := fnExactPartAcrossRow.holds Try.pinned (OpenSpec.ofChange fnExactPartAcrossSpec)

/-- ITS FALSE NEIGHBOUR: 'it returns false'. Refute it at one input. -/
def fnExactPartAcrossWrong : ChangeSpec := { name := "fnExactPartAcross", fn := fun _ => fun
  | [d] => { results := [.lit (.bool false)], args := [d] }
  | _ => none }
def FnExactPartAcrossWrongFalsely : Prop := fnExactPartAcrossRow.holds Try.pinned (OpenSpec.ofChange fnExactPartAcrossWrong)

/-- 'laws.FnExactJoinMany': WHATEVER THE INPUT: true; the input reads as it did. -/
def fnExactJoinManySpec : ChangeSpec := { name := "fnExactJoinMany", fn := fun _ => fun
  | [d] => { results := [.lit (.bool true)], args := [d] }
  | _ => none }
def fnExactJoinManyRow : OpenClaim := { program := "ytdkokblgakgklaa", sum := "6edb65c6a4fb4df0237cc137b515a1ec9b86e8d8cfdfeb3aa5c3b1396a1e850e", func := "loop.example/g01296/laws.FnExactJoinMany", spec := "fnExactJoinMany", unfollowed := true, recurses := true, apart := false }
def FnExactJoinManySaid : Prop := fnExactJoinManyRow.holds Try.pinned (OpenSpec.ofChange fnExactJoinManySpec)

/-- ITS FALSE NEIGHBOUR: 'it returns false'. Refute it at one input. -/
def fnExactJoinManyWrong : ChangeSpec := { name := "fnExactJoinMany", fn := fun _ => fun
  | [d] => { results := [.lit (.bool false)], args := [d] }
  | _ => none }
def FnExactJoinManyWrongFalsely : Prop := fnExactJoinManyRow.holds Try.pinned (OpenSpec.ofChange fnExactJoinManyWrong)

/-- 'laws.FnExactRowOfSquares': WHATEVER THE INPUT: true; the input reads as it did. -/
def fnExactRowOfSquaresSpec : ChangeSpec := { name := "fnExactRowOfSquares", fn := fun _ => fun
  | [d] => { results := [.lit (.bool true)], args := [d] }
  | _ => none }
def fnExactRowOfSquaresRow : OpenClaim := { program := "ytdkokblgakgklaa", sum := "6edb65c6a4fb4df0237cc137b515a1ec9b86e8d8cfdfeb3aa5c3b1396a1e850e", func := "loop.example/g01296/laws.FnExactRowOfSquares", spec := "fnExactRowOfSquares", unfollowed := true, recurses := true, apart := false }
def FnExactRowOfSquaresSaid : Prop := fnExactRowOfSquaresRow.holds Try.pinned (OpenSpec.ofChange fnExactRowOfSquaresSpec)

/-- ITS FALSE NEIGHBOUR: 'it returns false'. Refute it at one input. -/
def fnExactRowOfSquaresWrong : ChangeSpec := { name := "fnExactRowOfSquares", fn := fun _ => fun
  | [d] => { results := [.lit (.bool false)], args := [d] }
  | _ => none }
def FnExactRowOfSquaresWrongFalsely : Prop := fnExactRowOfSquaresRow.holds Try.pinned (OpenSpec.ofChange fnExactRowOfSquaresWrong)

/-- 'laws.FnExactCountCuts': WHATEVER THE INPUT: true; the input reads as it did. -/
def fnExactCountCutsSpec : ChangeSpec := { name := "fnExactCountCuts", fn := fun _ => fun
  | [d1, d2] => { results := [.lit (.bool true)], args := [d1, d2] }
  | _ => none }
def fnExactCountCutsRow : OpenClaim := { program := "ytdkokblgakgklaa", sum := "6edb65c6a4fb4df0237cc137b515a1ec9b86e8d8cfdfeb3aa5c3b1396a1e850e", func := "loop.example/g01296/laws.FnExactCountCuts", spec := "fnExactCountCuts", unfollowed := true, recurses := true, apart := false }
def FnExactCountCutsSaid : Prop := fnExactCountCutsRow.holds Try.pinned (OpenSpec.ofChange fnExactCountCutsSpec)

/-- ITS FALSE NEIGHBOUR: 'it returns false'. Refute it at one input. -/
def fnExactCountCutsWrong : ChangeSpec := { name := "fnExactCountCuts", fn := fun _ => fun
  | [d1, d2] => { results := [.lit (.bool false)], args := [d1, d2] }
  | _ => none }
def FnExactCountCutsWrongFalsely : Prop := fnExactCountCutsRow.holds Try.pinned (OpenSpec.ofChange fnExactCountCutsWrong)

/-- 'laws.FnExactCutsBySquares': WHATEVER THE INPUT: true; the input reads as it did. -/
def fnExactCutsBySquaresSpec : ChangeSpec := { name := "fnExactCutsBySquares", fn := fun _ => fun
  | [d1, d2] => { results := [.lit (.bool true)], args := [d1, d2] }
  | _ => none }
def fnExactCutsBySquaresRow : OpenClaim := { program := "ytdkokblgakgklaa", sum := "6edb65c6a4fb4df0237cc137b515a1ec9b86e8d8cfdfeb3aa5c3b1396a1e850e", func := "loop.example/g01296/laws.FnExactCutsBySquares", spec := "fnExactCutsBySquares", unfollowed := true, recurses := true, apart := false }
def FnExactCutsBySquaresSaid : Prop := fnExactCutsBySquaresRow.holds Try.pinned (OpenSpec.ofChange fnExactCutsBySquaresSpec)

/-- ITS FALSE NEIGHBOUR: 'it returns false'. Refute it at one input. -/
def fnExactCutsBySquaresWrong : ChangeSpec := { name := "fnExactCutsBySquares", fn := fun _ => fun
  | [d1, d2] => { results := [.lit (.bool false)], args := [d1, d2] }
  | _ => none }
def FnExactCutsBySquaresWrongFalsely : Prop := fnExactCutsBySquaresRow.holds Try.pinned (OpenSpec.ofChange fnExactCutsBySquaresWrong)

/-- 'laws.FnExactCutsWithMost': WHATEVER THE INPUT: true; the input reads as it did. -/
def fnExactCutsWithMostSpec : ChangeSpec := { name := "fnExactCutsWithMost", fn := fun _ => fun
  | [d1, d2, d3] => { results := [.lit (.bool true)], args := [d1, d2, d3] }
  | _ => none }
def fnExactCutsWithMostRow : OpenClaim := { program := "ytdkokblgakgklaa", sum := "6edb65c6a4fb4df0237cc137b515a1ec9b86e8d8cfdfeb3aa5c3b1396a1e850e", func := "loop.example/g01296/laws.FnExactCutsWithMost", spec := "fnExactCutsWithMost", unfollowed := true, recurses := true, apart := false }
def FnExactCutsWithMostSaid : Prop := fnExactCutsWithMostRow.holds Try.pinned (OpenSpec.ofChange fnExactCutsWithMostSpec)

/-- ITS FALSE NEIGHBOUR: 'it returns false'. Refute it at one input. -/
def fnExactCutsWithMostWrong : ChangeSpec := { name := "fnExactCutsWithMost", fn := fun _ => fun
  | [d1, d2, d3] => { results := [.lit (.bool false)], args := [d1, d2, d3] }
  | _ => none }
def FnExactCutsWithMostWrongFalsely : Prop := fnExactCutsWithMostRow.holds Try.pinned (OpenSpec.ofChange fnExactCutsWithMostWrong)

/-- 'laws.FnExactMeanOfCuts': WHATEVER THE INPUT: true; the input reads as it did. -/
def fnExactMeanOfCutsSpec : ChangeSpec := { name := "fnExactMeanOfCuts", fn := fun _ => fun
  | [d1, d2] => { results := [.lit (.bool true)], args := [d1, d2] }
  | _ => none }
def fnExactMeanOfCutsRow : OpenClaim := { program := "ytdkokblgakgklaa", sum := "6edb65c6a4fb4df0237cc137b515a1ec9b86e8d8cfdfeb3aa5c3b1396a1e850e", func := "loop.example/g01296/laws.FnExactMeanOfCuts", spec := "fnExactMeanOfCuts", unfollowed := true, recurses := true, apart := false }
def FnExactMeanOfCutsSaid : Prop := fnExactMeanOfCutsRow.holds Try.pinned (OpenSpec.ofChange fnExactMeanOfCutsSpec)

/-- ITS FALSE NEIGHBOUR: 'it returns false'. Refute it at one input. -/
def fnExactMeanOfCutsWrong : ChangeSpec := { name := "fnExactMeanOfCuts", fn := fun _ => fun
  | [d1, d2] => { results := [.lit (.bool false)], args := [d1, d2] }
  | _ => none }
def FnExactMeanOfCutsWrongFalsely : Prop := fnExactMeanOfCutsRow.holds Try.pinned (OpenSpec.ofChange fnExactMeanOfCutsWrong)

/-- 'laws.FnExactAllCuts': WHATEVER THE INPUT: true; the input reads as it did. -/
def fnExactAllCutsSpec : ChangeSpec := { name := "fnExactAllCuts", fn := fun _ => fun
  | [d1, d2] => { results := [.lit (.bool true)], args := [d1, d2] }
  | _ => none }
def fnExactAllCutsRow : OpenClaim := { program := "ytdkokblgakgklaa", sum := "6edb65c6a4fb4df0237cc137b515a1ec9b86e8d8cfdfeb3aa5c3b1396a1e850e", func := "loop.example/g01296/laws.FnExactAllCuts", spec := "fnExactAllCuts", unfollowed := true, recurses := true, apart := false }
def FnExactAllCutsSaid : Prop := fnExactAllCutsRow.holds Try.pinned (OpenSpec.ofChange fnExactAllCutsSpec)

/-- ITS FALSE NEIGHBOUR: 'it returns false'. Refute it at one input. -/
def fnExactAllCutsWrong : ChangeSpec := { name := "fnExactAllCuts", fn := fun _ => fun
  | [d1, d2] => { results := [.lit (.bool false)], args := [d1, d2] }
  | _ => none }
def FnExactAllCutsWrongFalsely : Prop := fnExactAllCutsRow.holds Try.pinned (OpenSpec.ofChange fnExactAllCutsWrong)

/-- 'laws.FnExactCutOfRank': WHATEVER THE INPUT: true; the input reads as it did. -/
def fnExactCutOfRankSpec : ChangeSpec := { name := "fnExactCutOfRank", fn := fun _ => fun
  | [d1, d2, d3] => { results := [.lit (.bool true)], args := [d1, d2, d3] }
  | _ => none }
def fnExactCutOfRankRow : OpenClaim := { program := "ytdkokblgakgklaa", sum := "6edb65c6a4fb4df0237cc137b515a1ec9b86e8d8cfdfeb3aa5c3b1396a1e850e", func := "loop.example/g01296/laws.FnExactCutOfRank", spec := "fnExactCutOfRank", unfollowed := true, recurses := true, apart := false }
def FnExactCutOfRankSaid : Prop := fnExactCutOfRankRow.holds Try.pinned (OpenSpec.ofChange fnExactCutOfRankSpec)

/-- ITS FALSE NEIGHBOUR: 'it returns false'. Refute it at one input. -/
def fnExactCutOfRankWrong : ChangeSpec := { name := "fnExactCutOfRank", fn := fun _ => fun
  | [d1, d2, d3] => { results := [.lit (.bool false)], args := [d1, d2, d3] }
  | _ => none }
def FnExactCutOfRankWrongFalsely : Prop := fnExactCutOfRankRow.holds Try.pinned (OpenSpec.ofChange fnExactCutOfRankWrong)

/-- 'laws.FnExactCountMirrored': WHATEVER THE INPUT: true; the input reads as it did. -/
def fnExactCountMirroredSpec : ChangeSpec := { name := "fnExactCountMirrored", fn := fun _ => fun
  | [d1, d2] => { results := [.lit (.bool true)], args := [d1, d2] }
  | _ => none }
def fnExactCountMirroredRow : OpenClaim := { program := "ytdkokblgakgklaa", sum := "6edb65c6a4fb4df0237cc137b515a1ec9b86e8d8cfdfeb3aa5c3b1396a1e850e", func := "loop.example/g01296/laws.FnExactCountMirrored", spec := "fnExactCountMirrored", unfollowed := true, recurses := true, apart := false }
def FnExactCountMirroredSaid : Prop := fnExactCountMirroredRow.holds Try.pinned (OpenSpec.ofChange fnExactCountMirroredSpec)

/-- ITS FALSE NEIGHBOUR: 'it returns false'. Refute it at one input. -/
def fnExactCountMirroredWrong : ChangeSpec := { name := "fnExactCountMirrored", fn := fun _ => fun
  | [d1, d2] => { results := [.lit (.bool false)], args := [d1, d2] }
  | _ => none }
def FnExactCountMirroredWrongFalsely : Prop := fnExactCountMirroredRow.holds Try.pinned (OpenSpec.ofChange fnExactCountMirroredWrong)

/-- 'laws.FnExactCountWithoutCross': WHATEVER THE INPUT: true; the input reads as it did. -/
def fnExactCountWithoutCrossSpec : ChangeSpec := { name := "fnExactCountWithoutCross", fn := fun _ => fun
  | [d1, d2] => { results := [.lit (.bool true)], args := [d1, d2] }
  | _ => none }
def fnExactCountWithoutCrossRow : OpenClaim := { program := "ytdkokblgakgklaa", sum := "6edb65c6a4fb4df0237cc137b515a1ec9b86e8d8cfdfeb3aa5c3b1396a1e850e", func := "loop.example/g01296/laws.FnExactCountWithoutCross", spec := "fnExactCountWithoutCross", unfollowed := true, recurses := true, apart := false }
def FnExactCountWithoutCrossSaid : Prop := fnExactCountWithoutCrossRow.holds Try.pinned (OpenSpec.ofChange fnExactCountWithoutCrossSpec)

/-- ITS FALSE NEIGHBOUR: 'it returns false'. Refute it at one input. -/
def fnExactCountWithoutCrossWrong : ChangeSpec := { name := "fnExactCountWithoutCross", fn := fun _ => fun
  | [d1, d2] => { results := [.lit (.bool false)], args := [d1, d2] }
  | _ => none }
def FnExactCountWithoutCrossWrongFalsely : Prop := fnExactCountWithoutCrossRow.holds Try.pinned (OpenSpec.ofChange fnExactCountWithoutCrossWrong)

/- THE SECOND FORM. 'bulk': how many values and letters a reading holds, each counted each time it is reached (what is shared counts as often as it is met; a slice's spare places count too). A statement '..UptoSaid' is the law's where the arguments, and the package variables that the reading takes, are together of bulk at most 1048576: NARROWER than '..Said'. Prove '..Said' where nothing that the law and all that it calls make is longer than what came in: it says more and counts as full. Else prove '..UptoSaid'. A law counts once. -/
mutual
def uptoBulk {H : Type} : DataW H → Nat
  | .lit (.string bytes) => bytes.length + 1
  | .lit _ => 1
  | .nil => 1
  | .ptr d => uptoBulk d + 1
  | .slice elems spare => uptoBulkAll elems + uptoBulkAll spare + 1
  | .agg parts => uptoBulkAll parts + 1
  | .iface _ d => uptoBulk d + 1
  | .map entries => uptoBulkEntries entries + 1
  | .held _ => 1
def uptoBulkAll {H : Type} : List (DataW H) → Nat
  | [] => 0
  | d :: r => uptoBulk d + uptoBulkAll r
def uptoBulkEntries {H : Type} : List (Lit × DataW H) → Nat
  | [] => 0
  | x :: r => uptoBulkEntry x + uptoBulkEntries r
def uptoBulkEntry {H : Type} : Lit × DataW H → Nat
  | (.string bytes, d) => bytes.length + uptoBulk d + 1
  | (_, d) => uptoBulk d + 1
 end
def uptoSmall : (H : Type) → List (DataW H) → Bool := fun _ ds => decide (uptoBulkAll ds ≤ 1048576)
def OpenSpec.upto (s : _root_.Go.ChangeSpec) : _root_.Go.OpenSpec := { _root_.Go.OpenSpec.ofChange s with cond := some uptoSmall }

/-- 'laws.FnExactPartDown', WHERE WHAT IT READS IS OF BULK AT MOST 1048576: true; the input reads as it did. -/
def fnExactPartDownUptoRow : OpenClaim := { program := "ytdkokblgakgklaa", sum := "6edb65c6a4fb4df0237cc137b515a1ec9b86e8d8cfdfeb3aa5c3b1396a1e850e", func := "loop.example/g01296/laws.FnExactPartDown", spec := "fnExactPartDown", unfollowed := true, recurses := true, apart := false, narrowed := true }
def FnExactPartDownUptoSaid : Prop := fnExactPartDownUptoRow.holds Try.pinned (OpenSpec.upto fnExactPartDownSpec)

/-- 'laws.FnExactPartAcross', WHERE WHAT IT READS IS OF BULK AT MOST 1048576: true; the input reads as it did. -/
def fnExactPartAcrossUptoRow : OpenClaim := { program := "ytdkokblgakgklaa", sum := "6edb65c6a4fb4df0237cc137b515a1ec9b86e8d8cfdfeb3aa5c3b1396a1e850e", func := "loop.example/g01296/laws.FnExactPartAcross", spec := "fnExactPartAcross", unfollowed := true, recurses := true, apart := false, narrowed := true }
def FnExactPartAcrossUptoSaid : Prop := fnExactPartAcrossUptoRow.holds Try.pinned (OpenSpec.upto fnExactPartAcrossSpec)

/-- 'laws.FnExactJoinMany', WHERE WHAT IT READS IS OF BULK AT MOST 1048576: true; the input reads as it did. -/
def fnExactJoinManyUptoRow : OpenClaim := { program := "ytdkokblgakgklaa", sum := "6edb65c6a4fb4df0237cc137b515a1ec9b86e8d8cfdfeb3aa5c3b1396a1e850e", func := "loop.example/g01296/laws.FnExactJoinMany", spec := "fnExactJoinMany", unfollowed := true, recurses := true, apart := false, narrowed := true }
def FnExactJoinManyUptoSaid : Prop := fnExactJoinManyUptoRow.holds Try.pinned (OpenSpec.upto fnExactJoinManySpec)

/-- 'laws.FnExactRowOfSquares', WHERE WHAT IT READS IS OF BULK AT MOST 1048576: true; the input reads as it did. -/
def fnExactRowOfSquaresUptoRow : OpenClaim := { program := "ytdkokblgakgklaa", sum := "6edb65c6a4fb4df0237cc137b515a1ec9b86e8d8cfdfeb3aa5c3b1396a1e850e", func := "loop.example/g01296/laws.FnExactRowOfSquares", spec := "fnExactRowOfSquares", unfollowed := true, recurses := true, apart := false, narrowed := true }
def FnExactRowOfSquaresUptoSaid : Prop := fnExactRowOfSquaresUptoRow.holds Try.pinned (OpenSpec.upto fnExactRowOfSquaresSpec)

/-- 'laws.FnExactCountCuts', WHERE WHAT IT READS IS OF BULK AT MOST 1048576: true; the input reads as it did. -/
def fnExactCountCutsUptoRow : OpenClaim := { program := "ytdkokblgakgklaa", sum := "6edb65c6a4fb4df0237cc137b515a1ec9b86e8d8cfdfeb3aa5c3b1396a1e850e", func := "loop.example/g01296/laws.FnExactCountCuts", spec := "fnExactCountCuts", unfollowed := true, recurses := true, apart := false, narrowed := true }
def FnExactCountCutsUptoSaid : Prop := fnExactCountCutsUptoRow.holds Try.pinned (OpenSpec.upto fnExactCountCutsSpec)

/-- 'laws.FnExactCutsBySquares', WHERE WHAT IT READS IS OF BULK AT MOST 1048576: true; the input reads as it did. -/
def fnExactCutsBySquaresUptoRow : OpenClaim := { program := "ytdkokblgakgklaa", sum := "6edb65c6a4fb4df0237cc137b515a1ec9b86e8d8cfdfeb3aa5c3b1396a1e850e", func := "loop.example/g01296/laws.FnExactCutsBySquares", spec := "fnExactCutsBySquares", unfollowed := true, recurses := true, apart := false, narrowed := true }
def FnExactCutsBySquaresUptoSaid : Prop := fnExactCutsBySquaresUptoRow.holds Try.pinned (OpenSpec.upto fnExactCutsBySquaresSpec)

/-- 'laws.FnExactCutsWithMost', WHERE WHAT IT READS IS OF BULK AT MOST 1048576: true; the input reads as it did. -/
def fnExactCutsWithMostUptoRow : OpenClaim := { program := "ytdkokblgakgklaa", sum := "6edb65c6a4fb4df0237cc137b515a1ec9b86e8d8cfdfeb3aa5c3b1396a1e850e", func := "loop.example/g01296/laws.FnExactCutsWithMost", spec := "fnExactCutsWithMost", unfollowed := true, recurses := true, apart := false, narrowed := true }
def FnExactCutsWithMostUptoSaid : Prop := fnExactCutsWithMostUptoRow.holds Try.pinned (OpenSpec.upto fnExactCutsWithMostSpec)

/-- 'laws.FnExactMeanOfCuts', WHERE WHAT IT READS IS OF BULK AT MOST 1048576: true; the input reads as it did. -/
def fnExactMeanOfCutsUptoRow : OpenClaim := { program := "ytdkokblgakgklaa", sum := "6edb65c6a4fb4df0237cc137b515a1ec9b86e8d8cfdfeb3aa5c3b1396a1e850e", func := "loop.example/g01296/laws.FnExactMeanOfCuts", spec := "fnExactMeanOfCuts", unfollowed := true, recurses := true, apart := false, narrowed := true }
def FnExactMeanOfCutsUptoSaid : Prop := fnExactMeanOfCutsUptoRow.holds Try.pinned (OpenSpec.upto fnExactMeanOfCutsSpec)

/-- 'laws.FnExactAllCuts', WHERE WHAT IT READS IS OF BULK AT MOST 1048576: true; the input reads as it did. -/
def fnExactAllCutsUptoRow : OpenClaim := { program := "ytdkokblgakgklaa", sum := "6edb65c6a4fb4df0237cc137b515a1ec9b86e8d8cfdfeb3aa5c3b1396a1e850e", func := "loop.example/g01296/laws.FnExactAllCuts", spec := "fnExactAllCuts", unfollowed := true, recurses := true, apart := false, narrowed := true }
def FnExactAllCutsUptoSaid : Prop := fnExactAllCutsUptoRow.holds Try.pinned (OpenSpec.upto fnExactAllCutsSpec)

/-- 'laws.FnExactCutOfRank', WHERE WHAT IT READS IS OF BULK AT MOST 1048576: true; the input reads as it did. -/
def fnExactCutOfRankUptoRow : OpenClaim := { program := "ytdkokblgakgklaa", sum := "6edb65c6a4fb4df0237cc137b515a1ec9b86e8d8cfdfeb3aa5c3b1396a1e850e", func := "loop.example/g01296/laws.FnExactCutOfRank", spec := "fnExactCutOfRank", unfollowed := true, recurses := true, apart := false, narrowed := true }
def FnExactCutOfRankUptoSaid : Prop := fnExactCutOfRankUptoRow.holds Try.pinned (OpenSpec.upto fnExactCutOfRankSpec)

/-- 'laws.FnExactCountMirrored', WHERE WHAT IT READS IS OF BULK AT MOST 1048576: true; the input reads as it did. -/
def fnExactCountMirroredUptoRow : OpenClaim := { program := "ytdkokblgakgklaa", sum := "6edb65c6a4fb4df0237cc137b515a1ec9b86e8d8cfdfeb3aa5c3b1396a1e850e", func := "loop.example/g01296/laws.FnExactCountMirrored", spec := "fnExactCountMirrored", unfollowed := true, recurses := true, apart := false, narrowed := true }
def FnExactCountMirroredUptoSaid : Prop := fnExactCountMirroredUptoRow.holds Try.pinned (OpenSpec.upto fnExactCountMirroredSpec)

/-- 'laws.FnExactCountWithoutCross', WHERE WHAT IT READS IS OF BULK AT MOST 1048576: true; the input reads as it did. -/
def fnExactCountWithoutCrossUptoRow : OpenClaim := { program := "ytdkokblgakgklaa", sum := "6edb65c6a4fb4df0237cc137b515a1ec9b86e8d8cfdfeb3aa5c3b1396a1e850e", func := "loop.example/g01296/laws.FnExactCountWithoutCross", spec := "fnExactCountWithoutCross", unfollowed := true, recurses := true, apart := false, narrowed := true }
def FnExactCountWithoutCrossUptoSaid : Prop := fnExactCountWithoutCrossUptoRow.holds Try.pinned (OpenSpec.upto fnExactCountWithoutCrossSpec)

end Rows
end Go.Proofs.Ytdkokblgakgklaa
