/-
  No cell of these rows narrows 'for every input' (looked for: loops, veiled, ifaces, maps, wideKeys, modest, calm, conditions, laid).
  DERIVED. THE GIVEN ROWS OF THIS SEAT. 12 by the template 'for every input the law returns true; each argument reads behind the call as it read before'; 0 by the template 'total and deterministic' (their statements: YtgajpghlbjaciaaTotals.lean).
  GIVEN WITH THE SEED: the statements are not yours to turn. If you find one false, say at which input.
  Laid BY PROGRAM, IN A SANDBOX (cutbox-rows.mjs): the forced cells as the released guide's own fill.sh prints them over the translation a4f2795800f33207… (all of the seat's roots in one cut). By AI agents, Wed Nov 11 2026. No macro, syntax, notation, axiom, sorry.
-/
import Derived.Test.YtgajpghlbjaciaaChecked
import GoSem.Claim
import GoSem.ClaimJoined
import GoSem.ClaimMapViews
import Derived.JoinedTies
import Derived.KernelRfl
namespace Go.Proofs.Ytgajpghlbjaciaa
/- THE CELL 'sum', in the pinned program and in every row, IS THE sha256 OF THE DUMP (.gsa) THAT YtgajpghlbjaciaaProg.lean LOADS. Nothing in Lean hashes anything: it is a label: what it is worth is what the hold of that sum in a sandbox is worth. -/
noncomputable def Try.pinned : Pinned := { name := "ytgajpghlbjaciaa", sum := "a4f2795800f33207a34079d58a7497a904af1c6aef094567c376582bacd09950", checked := Try.checked }
namespace Rows
def none {H : Type} : Left H := { results := [], args := [] }

/-- 'laws.FnExactBesideCuts': WHATEVER THE INPUT: true; the input reads as it did. -/
def fnExactBesideCutsSpec : ChangeSpec := { name := "fnExactBesideCuts", fn := fun _ => fun
  | [d1, d2] => { results := [.lit (.bool true)], args := [d1, d2] }
  | _ => none }
def fnExactBesideCutsRow : OpenClaim := { program := "ytgajpghlbjaciaa", sum := "a4f2795800f33207a34079d58a7497a904af1c6aef094567c376582bacd09950", func := "loop.example/g01296/laws.FnExactBesideCuts", spec := "fnExactBesideCuts", unfollowed := true, recurses := true, apart := false }
def FnExactBesideCutsSaid : Prop := fnExactBesideCutsRow.holds Try.pinned (OpenSpec.ofChange fnExactBesideCutsSpec)

/-- ITS FALSE NEIGHBOUR: 'it returns false'. Refute it at one input. -/
def fnExactBesideCutsWrong : ChangeSpec := { name := "fnExactBesideCuts", fn := fun _ => fun
  | [d1, d2] => { results := [.lit (.bool false)], args := [d1, d2] }
  | _ => none }
def FnExactBesideCutsWrongFalsely : Prop := fnExactBesideCutsRow.holds Try.pinned (OpenSpec.ofChange fnExactBesideCutsWrong)

/-- 'laws.FnExactUnderCuts': WHATEVER THE INPUT: true; the input reads as it did. -/
def fnExactUnderCutsSpec : ChangeSpec := { name := "fnExactUnderCuts", fn := fun _ => fun
  | [d1, d2] => { results := [.lit (.bool true)], args := [d1, d2] }
  | _ => none }
def fnExactUnderCutsRow : OpenClaim := { program := "ytgajpghlbjaciaa", sum := "a4f2795800f33207a34079d58a7497a904af1c6aef094567c376582bacd09950", func := "loop.example/g01296/laws.FnExactUnderCuts", spec := "fnExactUnderCuts", unfollowed := true, recurses := true, apart := false }
def FnExactUnderCutsSaid : Prop := fnExactUnderCutsRow.holds Try.pinned (OpenSpec.ofChange fnExactUnderCutsSpec)

/-- ITS FALSE NEIGHBOUR: 'it returns false'. Refute it at one input. -/
def fnExactUnderCutsWrong : ChangeSpec := { name := "fnExactUnderCuts", fn := fun _ => fun
  | [d1, d2] => { results := [.lit (.bool false)], args := [d1, d2] }
  | _ => none }
def FnExactUnderCutsWrongFalsely : Prop := fnExactUnderCutsRow.holds Try.pinned (OpenSpec.ofChange fnExactUnderCutsWrong)

/-- 'laws.FnExactPutSquare': WHATEVER THE INPUT: true; the input reads as it did. -/
def fnExactPutSquareSpec : ChangeSpec := { name := "fnExactPutSquare", fn := fun _ => fun
  | [d1, d2] => { results := [.lit (.bool true)], args := [d1, d2] }
  | _ => none }
def fnExactPutSquareRow : OpenClaim := { program := "ytgajpghlbjaciaa", sum := "a4f2795800f33207a34079d58a7497a904af1c6aef094567c376582bacd09950", func := "loop.example/g01296/laws.FnExactPutSquare", spec := "fnExactPutSquare", unfollowed := true, recurses := true, apart := false }
def FnExactPutSquareSaid : Prop := fnExactPutSquareRow.holds Try.pinned (OpenSpec.ofChange fnExactPutSquareSpec)

/-- ITS FALSE NEIGHBOUR: 'it returns false'. Refute it at one input. -/
def fnExactPutSquareWrong : ChangeSpec := { name := "fnExactPutSquare", fn := fun _ => fun
  | [d1, d2] => { results := [.lit (.bool false)], args := [d1, d2] }
  | _ => none }
def FnExactPutSquareWrongFalsely : Prop := fnExactPutSquareRow.holds Try.pinned (OpenSpec.ofChange fnExactPutSquareWrong)

/-- 'laws.FnExactPartAcross': WHATEVER THE INPUT: true; the input reads as it did. -/
def fnExactPartAcrossSpec : ChangeSpec := { name := "fnExactPartAcross", fn := fun _ => fun
  | [d] => { results := [.lit (.bool true)], args := [d] }
  | _ => none }
def fnExactPartAcrossRow : OpenClaim := { program := "ytgajpghlbjaciaa", sum := "a4f2795800f33207a34079d58a7497a904af1c6aef094567c376582bacd09950", func := "loop.example/g01296/laws.FnExactPartAcross", spec := "fnExactPartAcross", unfollowed := true, recurses := true, apart := false }
def FnExactPartAcrossSaid : Prop := fnExactPartAcrossRow.holds Try.pinned (OpenSpec.ofChange fnExactPartAcrossSpec)

/-- ITS FALSE NEIGHBOUR: 'it returns false'. Refute it at one input. -/
def fnExactPartAcrossWrong : ChangeSpec := { name := "fnExactPartAcross", fn := fun _ => fun
  | [d] => { results := [.lit (.bool false)], args := [d] }
  | _ => none }
def FnExactPartAcrossWrongFalsely : Prop := fnExactPartAcrossRow.holds Try.pinned (OpenSpec.ofChange fnExactPartAcrossWrong)

/-- 'laws.FnExactPartDown': WHATEVER THE INPUT: true; the input reads as it did. -/
def fnExactPartDownSpec : ChangeSpec := { name := "fnExactPartDown", fn := fun _ => fun
  | [d] => { results := [.lit (.bool true)], args := [d] }
  | _ => none }
def fnExactPartDownRow : OpenClaim := { program := "ytgajpghlbjaciaa", sum := "a4f2795800f33207a34079d58a7497a904af1c6aef094567c376582bacd09950", func := "loop.example/g01296/laws.FnExactPartDown", spec := "fnExactPartDown", unfollowed := true, recurses := true, apart := false }
def FnExactPartDownSaid : Prop := fnExactPartDownRow.holds Try.pinned (OpenSpec.ofChange fnExactPartDownSpec)

/-- ITS FALSE NEIGHBOUR: 'it returns false'. Refute it at one input. -/
def fnExactPartDownWrong : ChangeSpec := { name := "fnExactPartDown", fn := fun _ => fun
  | [d] => { results := [.lit (.bool false)], args := [d] }
  | _ => none }
def FnExactPartDownWrongFalsely : Prop := fnExactPartDownRow.holds Try.pinned (OpenSpec.ofChange fnExactPartDownWrong)

/-- 'laws.FnExactTakePart': WHATEVER THE INPUT: true; the input reads as it did. -/
def fnExactTakePartSpec : ChangeSpec := { name := "fnExactTakePart", fn := fun _ => fun
  | [d1, d2] => { results := [.lit (.bool true)], args := [d1, d2] }
  | _ => none }
def fnExactTakePartRow : OpenClaim := { program := "ytgajpghlbjaciaa", sum := "a4f2795800f33207a34079d58a7497a904af1c6aef094567c376582bacd09950", func := "loop.example/g01296/laws.FnExactTakePart", spec := "fnExactTakePart", unfollowed := true, recurses := true, apart := false }
def FnExactTakePartSaid : Prop := fnExactTakePartRow.holds Try.pinned (OpenSpec.ofChange fnExactTakePartSpec)

/-- ITS FALSE NEIGHBOUR: 'it returns false'. Refute it at one input. -/
def fnExactTakePartWrong : ChangeSpec := { name := "fnExactTakePart", fn := fun _ => fun
  | [d1, d2] => { results := [.lit (.bool false)], args := [d1, d2] }
  | _ => none }
def FnExactTakePartWrongFalsely : Prop := fnExactTakePartRow.holds Try.pinned (OpenSpec.ofChange fnExactTakePartWrong)

/-- 'laws.FnExactReplaceSquare': WHATEVER THE INPUT: true; the input reads as it did. -/
def fnExactReplaceSquareSpec : ChangeSpec := { name := "fnExactReplaceSquare", fn := fun _ => fun
  | [d1, d2, d3] => { results := [.lit (.bool true)], args := [d1, d2, d3] }
  | _ => none }
def fnExactReplaceSquareRow : OpenClaim := { program := "ytgajpghlbjaciaa", sum := "a4f2795800f33207a34079d58a7497a904af1c6aef094567c376582bacd09950", func := "loop.example/g01296/laws.FnExactReplaceSquare", spec := "fnExactReplaceSquare", unfollowed := true, recurses := true, apart := false }
def FnExactReplaceSquareSaid : Prop := fnExactReplaceSquareRow.holds Try.pinned (OpenSpec.ofChange fnExactReplaceSquareSpec)

/-- ITS FALSE NEIGHBOUR: 'it returns false'. Refute it at one input. -/
def fnExactReplaceSquareWrong : ChangeSpec := { name := "fnExactReplaceSquare", fn := fun _ => fun
  | [d1, d2, d3] => { results := [.lit (.bool false)], args := [d1, d2, d3] }
  | _ => none }
def FnExactReplaceSquareWrongFalsely : Prop := fnExactReplaceSquareRow.holds Try.pinned (OpenSpec.ofChange fnExactReplaceSquareWrong)

/-- 'laws.FnExactSpiralCut': WHATEVER THE INPUT: true; the input reads as it did. -/
def fnExactSpiralCutSpec : ChangeSpec := { name := "fnExactSpiralCut", fn := fun _ => fun
  | [d] => { results := [.lit (.bool true)], args := [d] }
  | _ => none }
def fnExactSpiralCutRow : OpenClaim := { program := "ytgajpghlbjaciaa", sum := "a4f2795800f33207a34079d58a7497a904af1c6aef094567c376582bacd09950", func := "loop.example/g01296/laws.FnExactSpiralCut", spec := "fnExactSpiralCut", unfollowed := true, recurses := true, apart := false }
def FnExactSpiralCutSaid : Prop := fnExactSpiralCutRow.holds Try.pinned (OpenSpec.ofChange fnExactSpiralCutSpec)

/-- ITS FALSE NEIGHBOUR: 'it returns false'. Refute it at one input. -/
def fnExactSpiralCutWrong : ChangeSpec := { name := "fnExactSpiralCut", fn := fun _ => fun
  | [d] => { results := [.lit (.bool false)], args := [d] }
  | _ => none }
def FnExactSpiralCutWrongFalsely : Prop := fnExactSpiralCutRow.holds Try.pinned (OpenSpec.ofChange fnExactSpiralCutWrong)

/-- 'laws.FnExactLinesDown': WHATEVER THE INPUT: true; the input reads as it did. -/
def fnExactLinesDownSpec : ChangeSpec := { name := "fnExactLinesDown", fn := fun _ => fun
  | [d] => { results := [.lit (.bool true)], args := [d] }
  | _ => none }
def fnExactLinesDownRow : OpenClaim := { program := "ytgajpghlbjaciaa", sum := "a4f2795800f33207a34079d58a7497a904af1c6aef094567c376582bacd09950", func := "loop.example/g01296/laws.FnExactLinesDown", spec := "fnExactLinesDown", unfollowed := true, recurses := true, apart := false }
def FnExactLinesDownSaid : Prop := fnExactLinesDownRow.holds Try.pinned (OpenSpec.ofChange fnExactLinesDownSpec)

/-- ITS FALSE NEIGHBOUR: 'it returns false'. Refute it at one input. -/
def fnExactLinesDownWrong : ChangeSpec := { name := "fnExactLinesDown", fn := fun _ => fun
  | [d] => { results := [.lit (.bool false)], args := [d] }
  | _ => none }
def FnExactLinesDownWrongFalsely : Prop := fnExactLinesDownRow.holds Try.pinned (OpenSpec.ofChange fnExactLinesDownWrong)

/-- 'laws.FnExactLinesAcross': WHATEVER THE INPUT: true; the input reads as it did. -/
def fnExactLinesAcrossSpec : ChangeSpec := { name := "fnExactLinesAcross", fn := fun _ => fun
  | [d] => { results := [.lit (.bool true)], args := [d] }
  | _ => none }
def fnExactLinesAcrossRow : OpenClaim := { program := "ytgajpghlbjaciaa", sum := "a4f2795800f33207a34079d58a7497a904af1c6aef094567c376582bacd09950", func := "loop.example/g01296/laws.FnExactLinesAcross", spec := "fnExactLinesAcross", unfollowed := true, recurses := true, apart := false }
def FnExactLinesAcrossSaid : Prop := fnExactLinesAcrossRow.holds Try.pinned (OpenSpec.ofChange fnExactLinesAcrossSpec)

/-- ITS FALSE NEIGHBOUR: 'it returns false'. Refute it at one input. -/
def fnExactLinesAcrossWrong : ChangeSpec := { name := "fnExactLinesAcross", fn := fun _ => fun
  | [d] => { results := [.lit (.bool false)], args := [d] }
  | _ => none }
def FnExactLinesAcrossWrongFalsely : Prop := fnExactLinesAcrossRow.holds Try.pinned (OpenSpec.ofChange fnExactLinesAcrossWrong)

/-- 'laws.FnExactRowOfSquares': WHATEVER THE INPUT: true; the input reads as it did. -/
def fnExactRowOfSquaresSpec : ChangeSpec := { name := "fnExactRowOfSquares", fn := fun _ => fun
  | [d] => { results := [.lit (.bool true)], args := [d] }
  | _ => none }
def fnExactRowOfSquaresRow : OpenClaim := { program := "ytgajpghlbjaciaa", sum := "a4f2795800f33207a34079d58a7497a904af1c6aef094567c376582bacd09950", func := "loop.example/g01296/laws.FnExactRowOfSquares", spec := "fnExactRowOfSquares", unfollowed := true, recurses := true, apart := false }
def FnExactRowOfSquaresSaid : Prop := fnExactRowOfSquaresRow.holds Try.pinned (OpenSpec.ofChange fnExactRowOfSquaresSpec)

/-- ITS FALSE NEIGHBOUR: 'it returns false'. Refute it at one input. -/
def fnExactRowOfSquaresWrong : ChangeSpec := { name := "fnExactRowOfSquares", fn := fun _ => fun
  | [d] => { results := [.lit (.bool false)], args := [d] }
  | _ => none }
def FnExactRowOfSquaresWrongFalsely : Prop := fnExactRowOfSquaresRow.holds Try.pinned (OpenSpec.ofChange fnExactRowOfSquaresWrong)

/-- 'laws.FnExactJoinMany': WHATEVER THE INPUT: true; the input reads as it did. -/
def fnExactJoinManySpec : ChangeSpec := { name := "fnExactJoinMany", fn := fun _ => fun
  | [d] => { results := [.lit (.bool true)], args := [d] }
  | _ => none }
def fnExactJoinManyRow : OpenClaim := { program := "ytgajpghlbjaciaa", sum := "a4f2795800f33207a34079d58a7497a904af1c6aef094567c376582bacd09950", func := "loop.example/g01296/laws.FnExactJoinMany", spec := "fnExactJoinMany", unfollowed := true, recurses := true, apart := false }
def FnExactJoinManySaid : Prop := fnExactJoinManyRow.holds Try.pinned (OpenSpec.ofChange fnExactJoinManySpec)

/-- ITS FALSE NEIGHBOUR: 'it returns false'. Refute it at one input. -/
def fnExactJoinManyWrong : ChangeSpec := { name := "fnExactJoinMany", fn := fun _ => fun
  | [d] => { results := [.lit (.bool false)], args := [d] }
  | _ => none }
def FnExactJoinManyWrongFalsely : Prop := fnExactJoinManyRow.holds Try.pinned (OpenSpec.ofChange fnExactJoinManyWrong)

/- THE SECOND FORM. 'bulk': how many values and letters a reading holds, each counted each time it is reached (what is shared counts as often as it is met; a slice's spare places count too). A statement '..UptoSaid' is the law's where the arguments, and the package variables that the reading takes, are together of bulk at most 1048576: NARROWER than '..Said'. Prove '..Said' where nothing that the law and all that it calls make is longer than what came in: it says more and counts as full. Else prove '..UptoSaid'. A law counts once. -/
mutual
def uptoBulk {H : Type} : DataW H → Nat
  | .lit (.string bytes) => bytes.length + 1
  | .lit _ => 1
  | .nil => 1
  | .ptr d => uptoBulk d + 1
  | .slice elems spare => uptoBulkAll elems + uptoBulkAll spare + 1
  | .agg parts => uptoBulkAll parts + 1
  | .iface _ d => uptoBulk d + 1
  | .map entries => uptoBulkEntries entries + 1
  | .held _ => 1
def uptoBulkAll {H : Type} : List (DataW H) → Nat
  | [] => 0
  | d :: r => uptoBulk d + uptoBulkAll r
def uptoBulkEntries {H : Type} : List (Lit × DataW H) → Nat
  | [] => 0
  | x :: r => uptoBulkEntry x + uptoBulkEntries r
def uptoBulkEntry {H : Type} : Lit × DataW H → Nat
  | (.string bytes, d) => bytes.length + uptoBulk d + 1
  | (_, d) => uptoBulk d + 1
 end
def uptoSmall : (H : Type) → List (DataW H) → Bool := fun _ ds => decide (uptoBulkAll ds ≤ 1048576)
def OpenSpec.upto (s : _root_.Go.ChangeSpec) : _root_.Go.OpenSpec := { _root_.Go.OpenSpec.ofChange s with cond := some uptoSmall }

/-- 'laws.FnExactBesideCuts', WHERE WHAT IT READS IS OF BULK AT MOST 1048576: true; the input reads as it did. -/
def fnExactBesideCutsUptoRow : OpenClaim := { program := "ytgajpghlbjaciaa", sum := "a4f2795800f33207a34079d58a7497a904af1c6aef094567c376582bacd09950", func := "loop.example/g01296/laws.FnExactBesideCuts", spec := "fnExactBesideCuts", unfollowed := true, recurses := true, apart := false, narrowed := true }
def FnExactBesideCutsUptoSaid : Prop := fnExactBesideCutsUptoRow.holds Try.pinned (OpenSpec.upto fnExactBesideCutsSpec)

/-- 'laws.FnExactUnderCuts', WHERE WHAT IT READS IS OF BULK AT MOST 1048576: true; the input reads as it did. -/
def fnExactUnderCutsUptoRow : OpenClaim := { program := "ytgajpghlbjaciaa", sum := "a4f2795800f33207a34079d58a7497a904af1c6aef094567c376582bacd09950", func := "loop.example/g01296/laws.FnExactUnderCuts", spec := "fnExactUnderCuts", unfollowed := true, recurses := true, apart := false, narrowed := true }
def FnExactUnderCutsUptoSaid : Prop := fnExactUnderCutsUptoRow.holds Try.pinned (OpenSpec.upto fnExactUnderCutsSpec)

/-- 'laws.FnExactPutSquare', WHERE WHAT IT READS IS OF BULK AT MOST 1048576: true; the input reads as it did. -/
def fnExactPutSquareUptoRow : OpenClaim := { program := "ytgajpghlbjaciaa", sum := "a4f2795800f33207a34079d58a7497a904af1c6aef094567c376582bacd09950", func := "loop.example/g01296/laws.FnExactPutSquare", spec := "fnExactPutSquare", unfollowed := true, recurses := true, apart := false, narrowed := true }
def FnExactPutSquareUptoSaid : Prop := fnExactPutSquareUptoRow.holds Try.pinned (OpenSpec.upto fnExactPutSquareSpec)

/-- 'laws.FnExactPartAcross', WHERE WHAT IT READS IS OF BULK AT MOST 1048576: true; the input reads as it did. -/
def fnExactPartAcrossUptoRow : OpenClaim := { program := "ytgajpghlbjaciaa", sum := "a4f2795800f33207a34079d58a7497a904af1c6aef094567c376582bacd09950", func := "loop.example/g01296/laws.FnExactPartAcross", spec := "fnExactPartAcross", unfollowed := true, recurses := true, apart := false, narrowed := true }
def FnExactPartAcrossUptoSaid : Prop := fnExactPartAcrossUptoRow.holds Try.pinned (OpenSpec.upto fnExactPartAcrossSpec)

/-- 'laws.FnExactPartDown', WHERE WHAT IT READS IS OF BULK AT MOST 1048576: true; the input reads as it did. -/
def fnExactPartDownUptoRow : OpenClaim := { program := "ytgajpghlbjaciaa", sum := "a4f2795800f33207a34079d58a7497a904af1c6aef094567c376582bacd09950", func := "loop.example/g01296/laws.FnExactPartDown", spec := "fnExactPartDown", unfollowed := true, recurses := true, apart := false, narrowed := true }
def FnExactPartDownUptoSaid : Prop := fnExactPartDownUptoRow.holds Try.pinned (OpenSpec.upto fnExactPartDownSpec)

/-- 'laws.FnExactTakePart', WHERE WHAT IT READS IS OF BULK AT MOST 1048576: true; the input reads as it did. -/
def fnExactTakePartUptoRow : OpenClaim := { program := "ytgajpghlbjaciaa", sum := "a4f2795800f33207a34079d58a7497a904af1c6aef094567c376582bacd09950", func := "loop.example/g01296/laws.FnExactTakePart", spec := "fnExactTakePart", unfollowed := true, recurses := true, apart := false, narrowed := true }
def FnExactTakePartUptoSaid : Prop := fnExactTakePartUptoRow.holds Try.pinned (OpenSpec.upto fnExactTakePartSpec)

/-- 'laws.FnExactReplaceSquare', WHERE WHAT IT READS IS OF BULK AT MOST 1048576: true; the input reads as it did. -/
def fnExactReplaceSquareUptoRow : OpenClaim := { program := "ytgajpghlbjaciaa", sum := "a4f2795800f33207a34079d58a7497a904af1c6aef094567c376582bacd09950", func := "loop.example/g01296/laws.FnExactReplaceSquare", spec := "fnExactReplaceSquare", unfollowed := true, recurses := true, apart := false, narrowed := true }
def FnExactReplaceSquareUptoSaid : Prop := fnExactReplaceSquareUptoRow.holds Try.pinned (OpenSpec.upto fnExactReplaceSquareSpec)

/-- 'laws.FnExactSpiralCut', WHERE WHAT IT READS IS OF BULK AT MOST 1048576: true; the input reads as it did. -/
def fnExactSpiralCutUptoRow : OpenClaim := { program := "ytgajpghlbjaciaa", sum := "a4f2795800f33207a34079d58a7497a904af1c6aef094567c376582bacd09950", func := "loop.example/g01296/laws.FnExactSpiralCut", spec := "fnExactSpiralCut", unfollowed := true, recurses := true, apart := false, narrowed := true }
def FnExactSpiralCutUptoSaid : Prop := fnExactSpiralCutUptoRow.holds Try.pinned (OpenSpec.upto fnExactSpiralCutSpec)

/-- 'laws.FnExactLinesDown', WHERE WHAT IT READS IS OF BULK AT MOST 1048576: true; the input reads as it did. -/
def fnExactLinesDownUptoRow : OpenClaim := { program := "ytgajpghlbjaciaa", sum := "a4f2795800f33207a34079d58a7497a904af1c6aef094567c376582bacd09950", func := "loop.example/g01296/laws.FnExactLinesDown", spec := "fnExactLinesDown", unfollowed := true, recurses := true, apart := false, narrowed := true }
def FnExactLinesDownUptoSaid : Prop := fnExactLinesDownUptoRow.holds Try.pinned (OpenSpec.upto fnExactLinesDownSpec)

/-- 'laws.FnExactLinesAcross', WHERE WHAT IT READS IS OF BULK AT MOST 1048576: true; the input reads as it did. -/
def fnExactLinesAcrossUptoRow : OpenClaim := { program := "ytgajpghlbjaciaa", sum := "a4f2795800f33207a34079d58a7497a904af1c6aef094567c376582bacd09950", func := "loop.example/g01296/laws.FnExactLinesAcross", spec := "fnExactLinesAcross", unfollowed := true, recurses := true, apart := false, narrowed := true }
def FnExactLinesAcrossUptoSaid : Prop := fnExactLinesAcrossUptoRow.holds Try.pinned (OpenSpec.upto fnExactLinesAcrossSpec)

/-- 'laws.FnExactRowOfSquares', WHERE WHAT IT READS IS OF BULK AT MOST 1048576: true; the input reads as it did. -/
def fnExactRowOfSquaresUptoRow : OpenClaim := { program := "ytgajpghlbjaciaa", sum := "a4f2795800f33207a34079d58a7497a904af1c6aef094567c376582bacd09950", func := "loop.example/g01296/laws.FnExactRowOfSquares", spec := "fnExactRowOfSquares", unfollowed := true, recurses := true, apart := false, narrowed := true }
def FnExactRowOfSquaresUptoSaid : Prop := fnExactRowOfSquaresUptoRow.holds Try.pinned (OpenSpec.upto fnExactRowOfSquaresSpec)

/-- 'laws.FnExactJoinMany', WHERE WHAT IT READS IS OF BULK AT MOST 1048576: true; the input reads as it did. -/
def fnExactJoinManyUptoRow : OpenClaim := { program := "ytgajpghlbjaciaa", sum := "a4f2795800f33207a34079d58a7497a904af1c6aef094567c376582bacd09950", func := "loop.example/g01296/laws.FnExactJoinMany", spec := "fnExactJoinMany", unfollowed := true, recurses := true, apart := false, narrowed := true }
def FnExactJoinManyUptoSaid : Prop := fnExactJoinManyUptoRow.holds Try.pinned (OpenSpec.upto fnExactJoinManySpec)

end Rows
end Go.Proofs.Ytgajpghlbjaciaa
