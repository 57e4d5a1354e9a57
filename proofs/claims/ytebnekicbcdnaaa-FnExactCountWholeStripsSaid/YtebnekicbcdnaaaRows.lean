/-
  No cell of these rows narrows 'for every input' (looked for: loops, veiled, ifaces, maps, wideKeys, modest, calm, conditions, laid).
  DERIVED. THE GIVEN ROWS OF THIS SEAT. 12 by the template 'for every input the law returns true; each argument reads behind the call as it read before'; 0 by the template 'total and deterministic' (their statements: YtebnekicbcdnaaaTotals.lean).
  GIVEN WITH THE SEED: the statements are not yours to turn. If you find one false, say at which input.
  Laid BY PROGRAM, IN A SANDBOX (cutbox-rows.mjs): the forced cells as the released guide's own fill.sh prints them over the translation f5170dc8ab8c7d2f… (all of the seat's roots in one cut). By AI agents, Wed Nov 11 2026. No macro, syntax, notation, axiom, sorry.
-/
import Derived.Test.YtebnekicbcdnaaaChecked
import GoSem.Claim
import GoSem.ClaimJoined
import GoSem.ClaimMapViews
import Derived.JoinedTies
import Derived.KernelRfl
namespace Go.Proofs.Ytebnekicbcdnaaa
/- THE CELL 'sum', in the pinned program and in every row, IS THE sha256 OF THE DUMP (.gsa) THAT YtebnekicbcdnaaaProg.lean LOADS. Nothing in Lean hashes anything: it is a label: what it is worth is what the hold of that sum in a sandbox is worth. -/
noncomputable def Try.pinned : Pinned := { name := "ytebnekicbcdnaaa", sum := "f5170dc8ab8c7d2fe6e670a0443b260795ab4da2d018549836d0640e5fab9442", checked := Try.checked }
namespace Rows
def none {H : Type} : Left H := { results := [], args := [] }

/-- 'laws.FnExactCountStrips': WHATEVER THE INPUT: true; the input reads as it did. -/
def fnExactCountStripsSpec : ChangeSpec := { name := "fnExactCountStrips", fn := fun _ => fun
  | [d1, d2] => { results := [.lit (.bool true)], args := [d1, d2] }
  | _ => none }
def fnExactCountStripsRow : OpenClaim := { program := "ytebnekicbcdnaaa", sum := "f5170dc8ab8c7d2fe6e670a0443b260795ab4da2d018549836d0640e5fab9442", func := "loop.example/g01296/laws.FnExactCountStrips", spec := "fnExactCountStrips", unfollowed := true, recurses := true, plainKeys := false, apart := false }
def FnExactCountStripsSaid : Prop := fnExactCountStripsRow.holds Try.pinned (OpenSpec.ofChange fnExactCountStripsSpec)

/-- ITS FALSE NEIGHBOUR: 'it returns false'. Refute it at one input. -/
def fnExactCountStripsWrong : ChangeSpec := { name := "fnExactCountStrips", fn := fun _ => fun
  | [d1, d2] => { results := [.lit (.bool false)], args := [d1, d2] }
  | _ => none }
def FnExactCountStripsWrongFalsely : Prop := fnExactCountStripsRow.holds Try.pinned (OpenSpec.ofChange fnExactCountStripsWrong)

/-- 'laws.FnExactStripsBySquares': WHATEVER THE INPUT: true; the input reads as it did. -/
def fnExactStripsBySquaresSpec : ChangeSpec := { name := "fnExactStripsBySquares", fn := fun _ => fun
  | [d1, d2] => { results := [.lit (.bool true)], args := [d1, d2] }
  | _ => none }
def fnExactStripsBySquaresRow : OpenClaim := { program := "ytebnekicbcdnaaa", sum := "f5170dc8ab8c7d2fe6e670a0443b260795ab4da2d018549836d0640e5fab9442", func := "loop.example/g01296/laws.FnExactStripsBySquares", spec := "fnExactStripsBySquares", unfollowed := true, recurses := true, plainKeys := false, apart := false }
def FnExactStripsBySquaresSaid : Prop := fnExactStripsBySquaresRow.holds Try.pinned (OpenSpec.ofChange fnExactStripsBySquaresSpec)

/-- ITS FALSE NEIGHBOUR: 'it returns false'. Refute it at one input. -/
def fnExactStripsBySquaresWrong : ChangeSpec := { name := "fnExactStripsBySquares", fn := fun _ => fun
  | [d1, d2] => { results := [.lit (.bool false)], args := [d1, d2] }
  | _ => none }
def FnExactStripsBySquaresWrongFalsely : Prop := fnExactStripsBySquaresRow.holds Try.pinned (OpenSpec.ofChange fnExactStripsBySquaresWrong)

/-- 'laws.FnExactCountStripsWithout': WHATEVER THE INPUT: true; the input reads as it did. -/
def fnExactCountStripsWithoutSpec : ChangeSpec := { name := "fnExactCountStripsWithout", fn := fun _ => fun
  | [d1, d2, d3] => { results := [.lit (.bool true)], args := [d1, d2, d3] }
  | _ => none }
def fnExactCountStripsWithoutRow : OpenClaim := { program := "ytebnekicbcdnaaa", sum := "f5170dc8ab8c7d2fe6e670a0443b260795ab4da2d018549836d0640e5fab9442", func := "loop.example/g01296/laws.FnExactCountStripsWithout", spec := "fnExactCountStripsWithout", unfollowed := true, recurses := true, plainKeys := false, apart := false }
def FnExactCountStripsWithoutSaid : Prop := fnExactCountStripsWithoutRow.holds Try.pinned (OpenSpec.ofChange fnExactCountStripsWithoutSpec)

/-- ITS FALSE NEIGHBOUR: 'it returns false'. Refute it at one input. -/
def fnExactCountStripsWithoutWrong : ChangeSpec := { name := "fnExactCountStripsWithout", fn := fun _ => fun
  | [d1, d2, d3] => { results := [.lit (.bool false)], args := [d1, d2, d3] }
  | _ => none }
def FnExactCountStripsWithoutWrongFalsely : Prop := fnExactCountStripsWithoutRow.holds Try.pinned (OpenSpec.ofChange fnExactCountStripsWithoutWrong)

/-- 'laws.FnExactSquaresOfSide': WHATEVER THE INPUT: true; the input reads as it did. -/
def fnExactSquaresOfSideSpec : ChangeSpec := { name := "fnExactSquaresOfSide", fn := fun _ => fun
  | [d1, d2, d3] => { results := [.lit (.bool true)], args := [d1, d2, d3] }
  | _ => none }
def fnExactSquaresOfSideRow : OpenClaim := { program := "ytebnekicbcdnaaa", sum := "f5170dc8ab8c7d2fe6e670a0443b260795ab4da2d018549836d0640e5fab9442", func := "loop.example/g01296/laws.FnExactSquaresOfSide", spec := "fnExactSquaresOfSide", unfollowed := true, recurses := true, plainKeys := false, apart := false }
def FnExactSquaresOfSideSaid : Prop := fnExactSquaresOfSideRow.holds Try.pinned (OpenSpec.ofChange fnExactSquaresOfSideSpec)

/-- ITS FALSE NEIGHBOUR: 'it returns false'. Refute it at one input. -/
def fnExactSquaresOfSideWrong : ChangeSpec := { name := "fnExactSquaresOfSide", fn := fun _ => fun
  | [d1, d2, d3] => { results := [.lit (.bool false)], args := [d1, d2, d3] }
  | _ => none }
def FnExactSquaresOfSideWrongFalsely : Prop := fnExactSquaresOfSideRow.holds Try.pinned (OpenSpec.ofChange fnExactSquaresOfSideWrong)

/-- 'laws.FnExactMeanSquares': WHATEVER THE INPUT: true; the input reads as it did. -/
def fnExactMeanSquaresSpec : ChangeSpec := { name := "fnExactMeanSquares", fn := fun _ => fun
  | [d1, d2] => { results := [.lit (.bool true)], args := [d1, d2] }
  | _ => none }
def fnExactMeanSquaresRow : OpenClaim := { program := "ytebnekicbcdnaaa", sum := "f5170dc8ab8c7d2fe6e670a0443b260795ab4da2d018549836d0640e5fab9442", func := "loop.example/g01296/laws.FnExactMeanSquares", spec := "fnExactMeanSquares", unfollowed := true, recurses := true, plainKeys := false, apart := false }
def FnExactMeanSquaresSaid : Prop := fnExactMeanSquaresRow.holds Try.pinned (OpenSpec.ofChange fnExactMeanSquaresSpec)

/-- ITS FALSE NEIGHBOUR: 'it returns false'. Refute it at one input. -/
def fnExactMeanSquaresWrong : ChangeSpec := { name := "fnExactMeanSquares", fn := fun _ => fun
  | [d1, d2] => { results := [.lit (.bool false)], args := [d1, d2] }
  | _ => none }
def FnExactMeanSquaresWrongFalsely : Prop := fnExactMeanSquaresRow.holds Try.pinned (OpenSpec.ofChange fnExactMeanSquaresWrong)

/-- 'laws.FnExactFewestInStrip': WHATEVER THE INPUT: true; the input reads as it did. -/
def fnExactFewestInStripSpec : ChangeSpec := { name := "fnExactFewestInStrip", fn := fun _ => fun
  | [d1, d2] => { results := [.lit (.bool true)], args := [d1, d2] }
  | _ => none }
def fnExactFewestInStripRow : OpenClaim := { program := "ytebnekicbcdnaaa", sum := "f5170dc8ab8c7d2fe6e670a0443b260795ab4da2d018549836d0640e5fab9442", func := "loop.example/g01296/laws.FnExactFewestInStrip", spec := "fnExactFewestInStrip", unfollowed := true, recurses := true, plainKeys := false, apart := false }
def FnExactFewestInStripSaid : Prop := fnExactFewestInStripRow.holds Try.pinned (OpenSpec.ofChange fnExactFewestInStripSpec)

/-- ITS FALSE NEIGHBOUR: 'it returns false'. Refute it at one input. -/
def fnExactFewestInStripWrong : ChangeSpec := { name := "fnExactFewestInStrip", fn := fun _ => fun
  | [d1, d2] => { results := [.lit (.bool false)], args := [d1, d2] }
  | _ => none }
def FnExactFewestInStripWrongFalsely : Prop := fnExactFewestInStripRow.holds Try.pinned (OpenSpec.ofChange fnExactFewestInStripWrong)

/-- 'laws.FnExactAllStrips': WHATEVER THE INPUT: true; the input reads as it did. -/
def fnExactAllStripsSpec : ChangeSpec := { name := "fnExactAllStrips", fn := fun _ => fun
  | [d1, d2] => { results := [.lit (.bool true)], args := [d1, d2] }
  | _ => none }
def fnExactAllStripsRow : OpenClaim := { program := "ytebnekicbcdnaaa", sum := "f5170dc8ab8c7d2fe6e670a0443b260795ab4da2d018549836d0640e5fab9442", func := "loop.example/g01296/laws.FnExactAllStrips", spec := "fnExactAllStrips", unfollowed := true, recurses := true, plainKeys := false, apart := false }
def FnExactAllStripsSaid : Prop := fnExactAllStripsRow.holds Try.pinned (OpenSpec.ofChange fnExactAllStripsSpec)

/-- ITS FALSE NEIGHBOUR: 'it returns false'. Refute it at one input. -/
def fnExactAllStripsWrong : ChangeSpec := { name := "fnExactAllStrips", fn := fun _ => fun
  | [d1, d2] => { results := [.lit (.bool false)], args := [d1, d2] }
  | _ => none }
def FnExactAllStripsWrongFalsely : Prop := fnExactAllStripsRow.holds Try.pinned (OpenSpec.ofChange fnExactAllStripsWrong)

/-- 'laws.FnExactFillSides': WHATEVER THE INPUT: true; the input reads as it did. -/
def fnExactFillSidesSpec : ChangeSpec := { name := "fnExactFillSides", fn := fun _ => fun
  | [d] => { results := [.lit (.bool true)], args := [d] }
  | _ => none }
def fnExactFillSidesRow : OpenClaim := { program := "ytebnekicbcdnaaa", sum := "f5170dc8ab8c7d2fe6e670a0443b260795ab4da2d018549836d0640e5fab9442", func := "loop.example/g01296/laws.FnExactFillSides", spec := "fnExactFillSides", unfollowed := true, recurses := true, plainKeys := false, apart := false }
def FnExactFillSidesSaid : Prop := fnExactFillSidesRow.holds Try.pinned (OpenSpec.ofChange fnExactFillSidesSpec)

/-- ITS FALSE NEIGHBOUR: 'it returns false'. Refute it at one input. -/
def fnExactFillSidesWrong : ChangeSpec := { name := "fnExactFillSides", fn := fun _ => fun
  | [d] => { results := [.lit (.bool false)], args := [d] }
  | _ => none }
def FnExactFillSidesWrongFalsely : Prop := fnExactFillSidesRow.holds Try.pinned (OpenSpec.ofChange fnExactFillSidesWrong)

/-- 'laws.FnExactRankOfStrip': WHATEVER THE INPUT: true; the input reads as it did. -/
def fnExactRankOfStripSpec : ChangeSpec := { name := "fnExactRankOfStrip", fn := fun _ => fun
  | [d] => { results := [.lit (.bool true)], args := [d] }
  | _ => none }
def fnExactRankOfStripRow : OpenClaim := { program := "ytebnekicbcdnaaa", sum := "f5170dc8ab8c7d2fe6e670a0443b260795ab4da2d018549836d0640e5fab9442", func := "loop.example/g01296/laws.FnExactRankOfStrip", spec := "fnExactRankOfStrip", unfollowed := true, recurses := true, plainKeys := false, apart := false }
def FnExactRankOfStripSaid : Prop := fnExactRankOfStripRow.holds Try.pinned (OpenSpec.ofChange fnExactRankOfStripSpec)

/-- ITS FALSE NEIGHBOUR: 'it returns false'. Refute it at one input. -/
def fnExactRankOfStripWrong : ChangeSpec := { name := "fnExactRankOfStrip", fn := fun _ => fun
  | [d] => { results := [.lit (.bool false)], args := [d] }
  | _ => none }
def FnExactRankOfStripWrongFalsely : Prop := fnExactRankOfStripRow.holds Try.pinned (OpenSpec.ofChange fnExactRankOfStripWrong)

/-- 'laws.FnExactStripOfRank': WHATEVER THE INPUT: true; the input reads as it did. -/
def fnExactStripOfRankSpec : ChangeSpec := { name := "fnExactStripOfRank", fn := fun _ => fun
  | [d1, d2, d3] => { results := [.lit (.bool true)], args := [d1, d2, d3] }
  | _ => none }
def fnExactStripOfRankRow : OpenClaim := { program := "ytebnekicbcdnaaa", sum := "f5170dc8ab8c7d2fe6e670a0443b260795ab4da2d018549836d0640e5fab9442", func := "loop.example/g01296/laws.FnExactStripOfRank", spec := "fnExactStripOfRank", unfollowed := true, recurses := true, plainKeys := false, apart := false }
def FnExactStripOfRankSaid : Prop := fnExactStripOfRankRow.holds Try.pinned (OpenSpec.ofChange fnExactStripOfRankSpec)

/-- ITS FALSE NEIGHBOUR: 'it returns false'. Refute it at one input. -/
def fnExactStripOfRankWrong : ChangeSpec := { name := "fnExactStripOfRank", fn := fun _ => fun
  | [d1, d2, d3] => { results := [.lit (.bool false)], args := [d1, d2, d3] }
  | _ => none }
def FnExactStripOfRankWrongFalsely : Prop := fnExactStripOfRankRow.holds Try.pinned (OpenSpec.ofChange fnExactStripOfRankWrong)

/-- 'laws.FnExactCountWholeStrips': WHATEVER THE INPUT: true; the input reads as it did. -/
def fnExactCountWholeStripsSpec : ChangeSpec := { name := "fnExactCountWholeStrips", fn := fun _ => fun
  | [d1, d2] => { results := [.lit (.bool true)], args := [d1, d2] }
  | _ => none }
def fnExactCountWholeStripsRow : OpenClaim := { program := "ytebnekicbcdnaaa", sum := "f5170dc8ab8c7d2fe6e670a0443b260795ab4da2d018549836d0640e5fab9442", func := "loop.example/g01296/laws.FnExactCountWholeStrips", spec := "fnExactCountWholeStrips", unfollowed := true, recurses := true, plainKeys := false, apart := false }
def FnExactCountWholeStripsSaid : Prop := fnExactCountWholeStripsRow.holds Try.pinned (OpenSpec.ofChange fnExactCountWholeStripsSpec)

/-- ITS FALSE NEIGHBOUR: 'it returns false'. Refute it at one input. -/
def fnExactCountWholeStripsWrong : ChangeSpec := { name := "fnExactCountWholeStrips", fn := fun _ => fun
  | [d1, d2] => { results := [.lit (.bool false)], args := [d1, d2] }
  | _ => none }
def FnExactCountWholeStripsWrongFalsely : Prop := fnExactCountWholeStripsRow.holds Try.pinned (OpenSpec.ofChange fnExactCountWholeStripsWrong)

/-- 'laws.FnExactStripsThrough': WHATEVER THE INPUT: true; the input reads as it did. -/
def fnExactStripsThroughSpec : ChangeSpec := { name := "fnExactStripsThrough", fn := fun _ => fun
  | [d1, d2, d3] => { results := [.lit (.bool true)], args := [d1, d2, d3] }
  | _ => none }
def fnExactStripsThroughRow : OpenClaim := { program := "ytebnekicbcdnaaa", sum := "f5170dc8ab8c7d2fe6e670a0443b260795ab4da2d018549836d0640e5fab9442", func := "loop.example/g01296/laws.FnExactStripsThrough", spec := "fnExactStripsThrough", unfollowed := true, recurses := true, plainKeys := false, apart := false }
def FnExactStripsThroughSaid : Prop := fnExactStripsThroughRow.holds Try.pinned (OpenSpec.ofChange fnExactStripsThroughSpec)

/-- ITS FALSE NEIGHBOUR: 'it returns false'. Refute it at one input. -/
def fnExactStripsThroughWrong : ChangeSpec := { name := "fnExactStripsThrough", fn := fun _ => fun
  | [d1, d2, d3] => { results := [.lit (.bool false)], args := [d1, d2, d3] }
  | _ => none }
def FnExactStripsThroughWrongFalsely : Prop := fnExactStripsThroughRow.holds Try.pinned (OpenSpec.ofChange fnExactStripsThroughWrong)

/- THE SECOND FORM. 'bulk': how many values and letters a reading holds, each counted each time it is reached (what is shared counts as often as it is met; a slice's spare places count too). A statement '..UptoSaid' is the law's where the arguments, and the package variables that the reading takes, are together of bulk at most 1048576: NARROWER than '..Said'. Prove '..Said' where nothing that the law and all that it calls make is longer than what came in: it says more and counts as full. Else prove '..UptoSaid'. A law counts once. -/
mutual
def uptoBulk {H : Type} : DataW H → Nat
  | .lit (.string bytes) => bytes.length + 1
  | .lit _ => 1
  | .nil => 1
  | .ptr d => uptoBulk d + 1
  | .slice elems spare => uptoBulkAll elems + uptoBulkAll spare + 1
  | .agg parts => uptoBulkAll parts + 1
  | .iface _ d => uptoBulk d + 1
  | .map entries => uptoBulkEntries entries + 1
  | .held _ => 1
def uptoBulkAll {H : Type} : List (DataW H) → Nat
  | [] => 0
  | d :: r => uptoBulk d + uptoBulkAll r
def uptoBulkEntries {H : Type} : List (Lit × DataW H) → Nat
  | [] => 0
  | x :: r => uptoBulkEntry x + uptoBulkEntries r
def uptoBulkEntry {H : Type} : Lit × DataW H → Nat
  | (.string bytes, d) => bytes.length + uptoBulk d + 1
  | (_, d) => uptoBulk d + 1
 end
def uptoSmall : (H : Type) → List (DataW H) → Bool := fun _ ds => decide (uptoBulkAll ds ≤ 1048576)
def OpenSpec.upto (s : _root_.Go.ChangeSpec) : _root_.Go.OpenSpec := { _root_.Go.OpenSpec.ofChange s with cond := some uptoSmall }

/-- 'laws.FnExactCountStrips', WHERE WHAT IT READS IS OF BULK AT MOST 1048576: true; the input reads as it did. -/
def fnExactCountStripsUptoRow : OpenClaim := { program := "ytebnekicbcdnaaa", sum := "f5170dc8ab8c7d2fe6e670a0443b260795ab4da2d018549836d0640e5fab9442", func := "loop.example/g01296/laws.FnExactCountStrips", spec := "fnExactCountStrips", unfollowed := true, recurses := true, plainKeys := false, apart := false, narrowed := true }
def FnExactCountStripsUptoSaid : Prop := fnExactCountStripsUptoRow.holds Try.pinned (OpenSpec.upto fnExactCountStripsSpec)

/-- 'laws.FnExactStripsBySquares', WHERE WHAT IT READS IS OF BULK AT MOST 1048576: true; the input reads as it did. -/
def fnExactStripsBySquaresUptoRow : OpenClaim := { program := "ytebnekicbcdnaaa", sum := "f5170dc8ab8c7d2fe6e670a0443b260795ab4da2d018549836d0640e5fab9442", func := "loop.example/g01296/laws.FnExactStripsBySquares", spec := "fnExactStripsBySquares", unfollowed := true, recurses := true, plainKeys := false, apart := false, narrowed := true }
def FnExactStripsBySquaresUptoSaid : Prop := fnExactStripsBySquaresUptoRow.holds Try.pinned (OpenSpec.upto fnExactStripsBySquaresSpec)

/-- 'laws.FnExactCountStripsWithout', WHERE WHAT IT READS IS OF BULK AT MOST 1048576: true; the input reads as it did. -/
def fnExactCountStripsWithoutUptoRow : OpenClaim := { program := "ytebnekicbcdnaaa", sum := "f5170dc8ab8c7d2fe6e670a0443b260795ab4da2d018549836d0640e5fab9442", func := "loop.example/g01296/laws.FnExactCountStripsWithout", spec := "fnExactCountStripsWithout", unfollowed := true, recurses := true, plainKeys := false, apart := false, narrowed := true }
def FnExactCountStripsWithoutUptoSaid : Prop := fnExactCountStripsWithoutUptoRow.holds Try.pinned (OpenSpec.upto fnExactCountStripsWithoutSpec)

/-- 'laws.FnExactSquaresOfSide', WHERE WHAT IT READS IS OF BULK AT MOST 1048576: true; the input reads as it did. -/
def fnExactSquaresOfSideUptoRow : OpenClaim := { program := "ytebnekicbcdnaaa", sum := "f5170dc8ab8c7d2fe6e670a0443b260795ab4da2d018549836d0640e5fab9442", func := "loop.example/g01296/laws.FnExactSquaresOfSide", spec := "fnExactSquaresOfSide", unfollowed := true, recurses := true, plainKeys := false, apart := false, narrowed := true }
def FnExactSquaresOfSideUptoSaid : Prop := fnExactSquaresOfSideUptoRow.holds Try.pinned (OpenSpec.upto fnExactSquaresOfSideSpec)

/-- 'laws.FnExactMeanSquares', WHERE WHAT IT READS IS OF BULK AT MOST 1048576: true; the input reads as it did. -/
def fnExactMeanSquaresUptoRow : OpenClaim := { program := "ytebnekicbcdnaaa", sum := "f5170dc8ab8c7d2fe6e670a0443b260795ab4da2d018549836d0640e5fab9442", func := "loop.example/g01296/laws.FnExactMeanSquares", spec := "fnExactMeanSquares", unfollowed := true, recurses := true, plainKeys := false, apart := false, narrowed := true }
def FnExactMeanSquaresUptoSaid : Prop := fnExactMeanSquaresUptoRow.holds Try.pinned (OpenSpec.upto fnExactMeanSquaresSpec)

/-- 'laws.FnExactFewestInStrip', WHERE WHAT IT READS IS OF BULK AT MOST 1048576: true; the input reads as it did. -/
def fnExactFewestInStripUptoRow : OpenClaim := { program := "ytebnekicbcdnaaa", sum := "f5170dc8ab8c7d2fe6e670a0443b260795ab4da2d018549836d0640e5fab9442", func := "loop.example/g01296/laws.FnExactFewestInStrip", spec := "fnExactFewestInStrip", unfollowed := true, recurses := true, plainKeys := false, apart := false, narrowed := true }
def FnExactFewestInStripUptoSaid : Prop := fnExactFewestInStripUptoRow.holds Try.pinned (OpenSpec.upto fnExactFewestInStripSpec)

/-- 'laws.FnExactAllStrips', WHERE WHAT IT READS IS OF BULK AT MOST 1048576: true; the input reads as it did. -/
def fnExactAllStripsUptoRow : OpenClaim := { program := "ytebnekicbcdnaaa", sum := "f5170dc8ab8c7d2fe6e670a0443b260795ab4da2d018549836d0640e5fab9442", func := "loop.example/g01296/laws.FnExactAllStrips", spec := "fnExactAllStrips", unfollowed := true, recurses := true, plainKeys := false, apart := false, narrowed := true }
def FnExactAllStripsUptoSaid : Prop := fnExactAllStripsUptoRow.holds Try.pinned (OpenSpec.upto fnExactAllStripsSpec)

/-- 'laws.FnExactFillSides', WHERE WHAT IT READS IS OF BULK AT MOST 1048576: true; the input reads as it did. -/
def fnExactFillSidesUptoRow : OpenClaim := { program := "ytebnekicbcdnaaa", sum := "f5170dc8ab8c7d2fe6e670a0443b260795ab4da2d018549836d0640e5fab9442", func := "loop.example/g01296/laws.FnExactFillSides", spec := "fnExactFillSides", unfollowed := true, recurses := true, plainKeys := false, apart := false, narrowed := true }
def FnExactFillSidesUptoSaid : Prop := fnExactFillSidesUptoRow.holds Try.pinned (OpenSpec.upto fnExactFillSidesSpec)

/-- 'laws.FnExactRankOfStrip', WHERE WHAT IT READS IS OF BULK AT MOST 1048576: true; the input reads as it did. -/
def fnExactRankOfStripUptoRow : OpenClaim := { program := "ytebnekicbcdnaaa", sum := "f5170dc8ab8c7d2fe6e670a0443b260795ab4da2d018549836d0640e5fab9442", func := "loop.example/g01296/laws.FnExactRankOfStrip", spec := "fnExactRankOfStrip", unfollowed := true, recurses := true, plainKeys := false, apart := false, narrowed := true }
def FnExactRankOfStripUptoSaid : Prop := fnExactRankOfStripUptoRow.holds Try.pinned (OpenSpec.upto fnExactRankOfStripSpec)

/-- 'laws.FnExactStripOfRank', WHERE WHAT IT READS IS OF BULK AT MOST 1048576: true; the input reads as it did. -/
def fnExactStripOfRankUptoRow : OpenClaim := { program := "ytebnekicbcdnaaa", sum := "f5170dc8ab8c7d2fe6e670a0443b260795ab4da2d018549836d0640e5fab9442", func := "loop.example/g01296/laws.FnExactStripOfRank", spec := "fnExactStripOfRank", unfollowed := true, recurses := true, plainKeys := false, apart := false, narrowed := true }
def FnExactStripOfRankUptoSaid : Prop := fnExactStripOfRankUptoRow.holds Try.pinned (OpenSpec.upto fnExactStripOfRankSpec)

/-- 'laws.FnExactCountWholeStrips', WHERE WHAT IT READS IS OF BULK AT MOST 1048576: true; the input reads as it did. -/
def fnExactCountWholeStripsUptoRow : OpenClaim := { program := "ytebnekicbcdnaaa", sum := "f5170dc8ab8c7d2fe6e670a0443b260795ab4da2d018549836d0640e5fab9442", func := "loop.example/g01296/laws.FnExactCountWholeStrips", spec := "fnExactCountWholeStrips", unfollowed := true, recurses := true, plainKeys := false, apart := false, narrowed := true }
def FnExactCountWholeStripsUptoSaid : Prop := fnExactCountWholeStripsUptoRow.holds Try.pinned (OpenSpec.upto fnExactCountWholeStripsSpec)

/-- 'laws.FnExactStripsThrough', WHERE WHAT IT READS IS OF BULK AT MOST 1048576: true; the input reads as it did. -/
def fnExactStripsThroughUptoRow : OpenClaim := { program := "ytebnekicbcdnaaa", sum := "f5170dc8ab8c7d2fe6e670a0443b260795ab4da2d018549836d0640e5fab9442", func := "loop.example/g01296/laws.FnExactStripsThrough", spec := "fnExactStripsThrough", unfollowed := true, recurses := true, plainKeys := false, apart := false, narrowed := true }
def FnExactStripsThroughUptoSaid : Prop := fnExactStripsThroughUptoRow.holds Try.pinned (OpenSpec.upto fnExactStripsThroughSpec)

end Rows
end Go.Proofs.Ytebnekicbcdnaaa
