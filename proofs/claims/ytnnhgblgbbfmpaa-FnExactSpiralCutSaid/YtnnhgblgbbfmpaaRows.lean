/-
  No cell of these rows narrows 'for every input' (looked for: loops, veiled, ifaces, maps, wideKeys, modest, calm, conditions, laid).
  DERIVED. THE GIVEN ROWS OF THIS SEAT. 12 by the template 'for every input the law returns true; each argument reads behind the call as it read before'; 0 by the template 'total and deterministic' (their statements: YtnnhgblgbbfmpaaTotals.lean).
  GIVEN WITH THE SEED: the statements are not yours to turn. If you find one false, say at which input.
  Laid BY PROGRAM, IN A SANDBOX (cutbox-rows.mjs): the forced cells as the released guide's own fill.sh prints them over the translation bb011e8db3ef595e… (all of the seat's roots in one cut). By AI agents, Wed Nov 11 2026. No macro, syntax, notation, axiom, sorry.
-/
import Derived.Test.YtnnhgblgbbfmpaaChecked
import GoSem.Claim
import GoSem.ClaimJoined
import GoSem.ClaimMapViews
import Derived.JoinedTies
import Derived.KernelRfl
namespace Go.Proofs.Ytnnhgblgbbfmpaa
/- THE CELL 'sum', in the pinned program and in every row, IS THE sha256 OF THE DUMP (.gsa) THAT YtnnhgblgbbfmpaaProg.lean LOADS. Nothing in Lean hashes anything: it is a label: what it is worth is what the hold of that sum in a sandbox is worth. -/
noncomputable def Try.pinned : Pinned := { name := "ytnnhgblgbbfmpaa", sum := "bb011e8db3ef595e19b25cf94e6877483daf4475fec9a0851fd7dfc8bf26d1e2", checked := Try.checked }
namespace Rows
def none {H : Type} : Left H := { results := [], args := [] }

/-- 'laws.FnExactMirrorCut': WHATEVER THE INPUT: true; the input reads as it did. -/
def fnExactMirrorCutSpec : ChangeSpec := { name := "fnExactMirrorCut", fn := fun _ => fun
  | [d] => { results := [.lit (.bool true)], args := [d] }
  | _ => none }
def fnExactMirrorCutRow : OpenClaim := { program := "ytnnhgblgbbfmpaa", sum := "bb011e8db3ef595e19b25cf94e6877483daf4475fec9a0851fd7dfc8bf26d1e2", func := "loop.example/g01296/laws.FnExactMirrorCut", spec := "fnExactMirrorCut", unfollowed := true, recurses := true, apart := false }
def FnExactMirrorCutSaid : Prop := fnExactMirrorCutRow.holds Try.pinned (OpenSpec.ofChange fnExactMirrorCutSpec)

/-- ITS FALSE NEIGHBOUR: 'it returns false'. Refute it at one input. -/
def fnExactMirrorCutWrong : ChangeSpec := { name := "fnExactMirrorCut", fn := fun _ => fun
  | [d] => { results := [.lit (.bool false)], args := [d] }
  | _ => none }
def FnExactMirrorCutWrongFalsely : Prop := fnExactMirrorCutRow.holds Try.pinned (OpenSpec.ofChange fnExactMirrorCutWrong)

/-- 'laws.FnExactGrowCut': WHATEVER THE INPUT: true; the input reads as it did. -/
def fnExactGrowCutSpec : ChangeSpec := { name := "fnExactGrowCut", fn := fun _ => fun
  | [d1, d2] => { results := [.lit (.bool true)], args := [d1, d2] }
  | _ => none }
def fnExactGrowCutRow : OpenClaim := { program := "ytnnhgblgbbfmpaa", sum := "bb011e8db3ef595e19b25cf94e6877483daf4475fec9a0851fd7dfc8bf26d1e2", func := "loop.example/g01296/laws.FnExactGrowCut", spec := "fnExactGrowCut", unfollowed := true, recurses := true, apart := false }
def FnExactGrowCutSaid : Prop := fnExactGrowCutRow.holds Try.pinned (OpenSpec.ofChange fnExactGrowCutSpec)

/-- ITS FALSE NEIGHBOUR: 'it returns false'. Refute it at one input. -/
def fnExactGrowCutWrong : ChangeSpec := { name := "fnExactGrowCut", fn := fun _ => fun
  | [d1, d2] => { results := [.lit (.bool false)], args := [d1, d2] }
  | _ => none }
def FnExactGrowCutWrongFalsely : Prop := fnExactGrowCutRow.holds Try.pinned (OpenSpec.ofChange fnExactGrowCutWrong)

/-- 'laws.FnExactTurnCode': WHATEVER THE INPUT: true; the input reads as it did. -/
def fnExactTurnCodeSpec : ChangeSpec := { name := "fnExactTurnCode", fn := fun _ => fun
  | [d] => { results := [.lit (.bool true)], args := [d] }
  | _ => none }
def fnExactTurnCodeRow : OpenClaim := { program := "ytnnhgblgbbfmpaa", sum := "bb011e8db3ef595e19b25cf94e6877483daf4475fec9a0851fd7dfc8bf26d1e2", func := "loop.example/g01296/laws.FnExactTurnCode", spec := "fnExactTurnCode", unfollowed := true, recurses := true, apart := false }
def FnExactTurnCodeSaid : Prop := fnExactTurnCodeRow.holds Try.pinned (OpenSpec.ofChange fnExactTurnCodeSpec)

/-- ITS FALSE NEIGHBOUR: 'it returns false'. Refute it at one input. -/
def fnExactTurnCodeWrong : ChangeSpec := { name := "fnExactTurnCode", fn := fun _ => fun
  | [d] => { results := [.lit (.bool false)], args := [d] }
  | _ => none }
def FnExactTurnCodeWrongFalsely : Prop := fnExactTurnCodeRow.holds Try.pinned (OpenSpec.ofChange fnExactTurnCodeWrong)

/-- 'laws.FnExactMirrorCode': WHATEVER THE INPUT: true; the input reads as it did. -/
def fnExactMirrorCodeSpec : ChangeSpec := { name := "fnExactMirrorCode", fn := fun _ => fun
  | [d] => { results := [.lit (.bool true)], args := [d] }
  | _ => none }
def fnExactMirrorCodeRow : OpenClaim := { program := "ytnnhgblgbbfmpaa", sum := "bb011e8db3ef595e19b25cf94e6877483daf4475fec9a0851fd7dfc8bf26d1e2", func := "loop.example/g01296/laws.FnExactMirrorCode", spec := "fnExactMirrorCode", unfollowed := true, recurses := true, apart := false }
def FnExactMirrorCodeSaid : Prop := fnExactMirrorCodeRow.holds Try.pinned (OpenSpec.ofChange fnExactMirrorCodeSpec)

/-- ITS FALSE NEIGHBOUR: 'it returns false'. Refute it at one input. -/
def fnExactMirrorCodeWrong : ChangeSpec := { name := "fnExactMirrorCode", fn := fun _ => fun
  | [d] => { results := [.lit (.bool false)], args := [d] }
  | _ => none }
def FnExactMirrorCodeWrongFalsely : Prop := fnExactMirrorCodeRow.holds Try.pinned (OpenSpec.ofChange fnExactMirrorCodeWrong)

/-- 'laws.FnExactGrowCode': WHATEVER THE INPUT: true; the input reads as it did. -/
def fnExactGrowCodeSpec : ChangeSpec := { name := "fnExactGrowCode", fn := fun _ => fun
  | [d1, d2] => { results := [.lit (.bool true)], args := [d1, d2] }
  | _ => none }
def fnExactGrowCodeRow : OpenClaim := { program := "ytnnhgblgbbfmpaa", sum := "bb011e8db3ef595e19b25cf94e6877483daf4475fec9a0851fd7dfc8bf26d1e2", func := "loop.example/g01296/laws.FnExactGrowCode", spec := "fnExactGrowCode", unfollowed := true, recurses := true, apart := false }
def FnExactGrowCodeSaid : Prop := fnExactGrowCodeRow.holds Try.pinned (OpenSpec.ofChange fnExactGrowCodeSpec)

/-- ITS FALSE NEIGHBOUR: 'it returns false'. Refute it at one input. -/
def fnExactGrowCodeWrong : ChangeSpec := { name := "fnExactGrowCode", fn := fun _ => fun
  | [d1, d2] => { results := [.lit (.bool false)], args := [d1, d2] }
  | _ => none }
def FnExactGrowCodeWrongFalsely : Prop := fnExactGrowCodeRow.holds Try.pinned (OpenSpec.ofChange fnExactGrowCodeWrong)

/-- 'laws.FnExactRatioOfCut': WHATEVER THE INPUT: true; the input reads as it did. -/
def fnExactRatioOfCutSpec : ChangeSpec := { name := "fnExactRatioOfCut", fn := fun _ => fun
  | [d] => { results := [.lit (.bool true)], args := [d] }
  | _ => none }
def fnExactRatioOfCutRow : OpenClaim := { program := "ytnnhgblgbbfmpaa", sum := "bb011e8db3ef595e19b25cf94e6877483daf4475fec9a0851fd7dfc8bf26d1e2", func := "loop.example/g01296/laws.FnExactRatioOfCut", spec := "fnExactRatioOfCut", unfollowed := true, recurses := true, apart := false }
def FnExactRatioOfCutSaid : Prop := fnExactRatioOfCutRow.holds Try.pinned (OpenSpec.ofChange fnExactRatioOfCutSpec)

/-- ITS FALSE NEIGHBOUR: 'it returns false'. Refute it at one input. -/
def fnExactRatioOfCutWrong : ChangeSpec := { name := "fnExactRatioOfCut", fn := fun _ => fun
  | [d] => { results := [.lit (.bool false)], args := [d] }
  | _ => none }
def FnExactRatioOfCutWrongFalsely : Prop := fnExactRatioOfCutRow.holds Try.pinned (OpenSpec.ofChange fnExactRatioOfCutWrong)

/-- 'laws.FnExactLinesOf': WHATEVER THE INPUT: true; the input reads as it did. -/
def fnExactLinesOfSpec : ChangeSpec := { name := "fnExactLinesOf", fn := fun _ => fun
  | [d] => { results := [.lit (.bool true)], args := [d] }
  | _ => none }
def fnExactLinesOfRow : OpenClaim := { program := "ytnnhgblgbbfmpaa", sum := "bb011e8db3ef595e19b25cf94e6877483daf4475fec9a0851fd7dfc8bf26d1e2", func := "loop.example/g01296/laws.FnExactLinesOf", spec := "fnExactLinesOf", unfollowed := true, recurses := true, apart := false }
def FnExactLinesOfSaid : Prop := fnExactLinesOfRow.holds Try.pinned (OpenSpec.ofChange fnExactLinesOfSpec)

/-- ITS FALSE NEIGHBOUR: 'it returns false'. Refute it at one input. -/
def fnExactLinesOfWrong : ChangeSpec := { name := "fnExactLinesOf", fn := fun _ => fun
  | [d] => { results := [.lit (.bool false)], args := [d] }
  | _ => none }
def FnExactLinesOfWrongFalsely : Prop := fnExactLinesOfRow.holds Try.pinned (OpenSpec.ofChange fnExactLinesOfWrong)

/-- 'laws.FnExactNetOfCut': WHATEVER THE INPUT: true; the input reads as it did. -/
def fnExactNetOfCutSpec : ChangeSpec := { name := "fnExactNetOfCut", fn := fun _ => fun
  | [d] => { results := [.lit (.bool true)], args := [d] }
  | _ => none }
def fnExactNetOfCutRow : OpenClaim := { program := "ytnnhgblgbbfmpaa", sum := "bb011e8db3ef595e19b25cf94e6877483daf4475fec9a0851fd7dfc8bf26d1e2", func := "loop.example/g01296/laws.FnExactNetOfCut", spec := "fnExactNetOfCut", unfollowed := true, recurses := true, apart := false }
def FnExactNetOfCutSaid : Prop := fnExactNetOfCutRow.holds Try.pinned (OpenSpec.ofChange fnExactNetOfCutSpec)

/-- ITS FALSE NEIGHBOUR: 'it returns false'. Refute it at one input. -/
def fnExactNetOfCutWrong : ChangeSpec := { name := "fnExactNetOfCut", fn := fun _ => fun
  | [d] => { results := [.lit (.bool false)], args := [d] }
  | _ => none }
def FnExactNetOfCutWrongFalsely : Prop := fnExactNetOfCutRow.holds Try.pinned (OpenSpec.ofChange fnExactNetOfCutWrong)

/-- 'laws.FnExactBesideCuts': WHATEVER THE INPUT: true; the input reads as it did. -/
def fnExactBesideCutsSpec : ChangeSpec := { name := "fnExactBesideCuts", fn := fun _ => fun
  | [d1, d2] => { results := [.lit (.bool true)], args := [d1, d2] }
  | _ => none }
def fnExactBesideCutsRow : OpenClaim := { program := "ytnnhgblgbbfmpaa", sum := "bb011e8db3ef595e19b25cf94e6877483daf4475fec9a0851fd7dfc8bf26d1e2", func := "loop.example/g01296/laws.FnExactBesideCuts", spec := "fnExactBesideCuts", unfollowed := true, recurses := true, apart := false }
def FnExactBesideCutsSaid : Prop := fnExactBesideCutsRow.holds Try.pinned (OpenSpec.ofChange fnExactBesideCutsSpec)

/-- ITS FALSE NEIGHBOUR: 'it returns false'. Refute it at one input. -/
def fnExactBesideCutsWrong : ChangeSpec := { name := "fnExactBesideCuts", fn := fun _ => fun
  | [d1, d2] => { results := [.lit (.bool false)], args := [d1, d2] }
  | _ => none }
def FnExactBesideCutsWrongFalsely : Prop := fnExactBesideCutsRow.holds Try.pinned (OpenSpec.ofChange fnExactBesideCutsWrong)

/-- 'laws.FnExactUnderCuts': WHATEVER THE INPUT: true; the input reads as it did. -/
def fnExactUnderCutsSpec : ChangeSpec := { name := "fnExactUnderCuts", fn := fun _ => fun
  | [d1, d2] => { results := [.lit (.bool true)], args := [d1, d2] }
  | _ => none }
def fnExactUnderCutsRow : OpenClaim := { program := "ytnnhgblgbbfmpaa", sum := "bb011e8db3ef595e19b25cf94e6877483daf4475fec9a0851fd7dfc8bf26d1e2", func := "loop.example/g01296/laws.FnExactUnderCuts", spec := "fnExactUnderCuts", unfollowed := true, recurses := true, apart := false }
def FnExactUnderCutsSaid : Prop := fnExactUnderCutsRow.holds Try.pinned (OpenSpec.ofChange fnExactUnderCutsSpec)

/-- ITS FALSE NEIGHBOUR: 'it returns false'. Refute it at one input. -/
def fnExactUnderCutsWrong : ChangeSpec := { name := "fnExactUnderCuts", fn := fun _ => fun
  | [d1, d2] => { results := [.lit (.bool false)], args := [d1, d2] }
  | _ => none }
def FnExactUnderCutsWrongFalsely : Prop := fnExactUnderCutsRow.holds Try.pinned (OpenSpec.ofChange fnExactUnderCutsWrong)

/-- 'laws.FnExactPutSquare': WHATEVER THE INPUT: true; the input reads as it did. -/
def fnExactPutSquareSpec : ChangeSpec := { name := "fnExactPutSquare", fn := fun _ => fun
  | [d1, d2] => { results := [.lit (.bool true)], args := [d1, d2] }
  | _ => none }
def fnExactPutSquareRow : OpenClaim := { program := "ytnnhgblgbbfmpaa", sum := "bb011e8db3ef595e19b25cf94e6877483daf4475fec9a0851fd7dfc8bf26d1e2", func := "loop.example/g01296/laws.FnExactPutSquare", spec := "fnExactPutSquare", unfollowed := true, recurses := true, apart := false }
def FnExactPutSquareSaid : Prop := fnExactPutSquareRow.holds Try.pinned (OpenSpec.ofChange fnExactPutSquareSpec)

/-- ITS FALSE NEIGHBOUR: 'it returns false'. Refute it at one input. -/
def fnExactPutSquareWrong : ChangeSpec := { name := "fnExactPutSquare", fn := fun _ => fun
  | [d1, d2] => { results := [.lit (.bool false)], args := [d1, d2] }
  | _ => none }
def FnExactPutSquareWrongFalsely : Prop := fnExactPutSquareRow.holds Try.pinned (OpenSpec.ofChange fnExactPutSquareWrong)

/-- 'laws.FnExactSpiralCut': WHATEVER THE INPUT: true; the input reads as it did. -/
def fnExactSpiralCutSpec : ChangeSpec := { name := "fnExactSpiralCut", fn := fun _ => fun
  | [d] => { results := [.lit (.bool true)], args := [d] }
  | _ => none }
def fnExactSpiralCutRow : OpenClaim := { program := "ytnnhgblgbbfmpaa", sum := "bb011e8db3ef595e19b25cf94e6877483daf4475fec9a0851fd7dfc8bf26d1e2", func := "loop.example/g01296/laws.FnExactSpiralCut", spec := "fnExactSpiralCut", unfollowed := true, recurses := true, apart := false }
def FnExactSpiralCutSaid : Prop := fnExactSpiralCutRow.holds Try.pinned (OpenSpec.ofChange fnExactSpiralCutSpec)

/-- ITS FALSE NEIGHBOUR: 'it returns false'. Refute it at one input. -/
def fnExactSpiralCutWrong : ChangeSpec := { name := "fnExactSpiralCut", fn := fun _ => fun
  | [d] => { results := [.lit (.bool false)], args := [d] }
  | _ => none }
def FnExactSpiralCutWrongFalsely : Prop := fnExactSpiralCutRow.holds Try.pinned (OpenSpec.ofChange fnExactSpiralCutWrong)

/- THE SECOND FORM. 'bulk': how many values and letters a reading holds, each counted each time it is reached (what is shared counts as often as it is met; a slice's spare places count too). A statement '..UptoSaid' is the law's where the arguments, and the package variables that the reading takes, are together of bulk at most 1048576: NARROWER than '..Said'. Prove '..Said' where nothing that the law and all that it calls make is longer than what came in: it says more and counts as full. Else prove '..UptoSaid'. A law counts once. -/
mutual
def uptoBulk {H : Type} : DataW H → Nat
  | .lit (.string bytes) => bytes.length + 1
  | .lit _ => 1
  | .nil => 1
  | .ptr d => uptoBulk d + 1
  | .slice elems spare => uptoBulkAll elems + uptoBulkAll spare + 1
  | .agg parts => uptoBulkAll parts + 1
  | .iface _ d => uptoBulk d + 1
  | .map entries => uptoBulkEntries entries + 1
  | .held _ => 1
def uptoBulkAll {H : Type} : List (DataW H) → Nat
  | [] => 0
  | d :: r => uptoBulk d + uptoBulkAll r
def uptoBulkEntries {H : Type} : List (Lit × DataW H) → Nat
  | [] => 0
  | x :: r => uptoBulkEntry x + uptoBulkEntries r
def uptoBulkEntry {H : Type} : Lit × DataW H → Nat
  | (.string bytes, d) => bytes.length + uptoBulk d + 1
  | (_, d) => uptoBulk d + 1
 end
def uptoSmall : (H : Type) → List (DataW H) → Bool := fun _ ds => decide (uptoBulkAll ds ≤ 1048576)
def OpenSpec.upto (s : _root_.Go.ChangeSpec) : _root_.Go.OpenSpec := { _root_.Go.OpenSpec.ofChange s with cond := some uptoSmall }

/-- 'laws.FnExactMirrorCut', WHERE WHAT IT READS IS OF BULK AT MOST 1048576: true; the input reads as it did. -/
def fnExactMirrorCutUptoRow : OpenClaim := { program := "ytnnhgblgbbfmpaa", sum := "bb011e8db3ef595e19b25cf94e6877483daf4475fec9a0851fd7dfc8bf26d1e2", func := "loop.example/g01296/laws.FnExactMirrorCut", spec := "fnExactMirrorCut", unfollowed := true, recurses := true, apart := false, narrowed := true }
def FnExactMirrorCutUptoSaid : Prop := fnExactMirrorCutUptoRow.holds Try.pinned (OpenSpec.upto fnExactMirrorCutSpec)

/-- 'laws.FnExactGrowCut', WHERE WHAT IT READS IS OF BULK AT MOST 1048576: true; the input reads as it did. -/
def fnExactGrowCutUptoRow : OpenClaim := { program := "ytnnhgblgbbfmpaa", sum := "bb011e8db3ef595e19b25cf94e6877483daf4475fec9a0851fd7dfc8bf26d1e2", func := "loop.example/g01296/laws.FnExactGrowCut", spec := "fnExactGrowCut", unfollowed := true, recurses := true, apart := false, narrowed := true }
def FnExactGrowCutUptoSaid : Prop := fnExactGrowCutUptoRow.holds Try.pinned (OpenSpec.upto fnExactGrowCutSpec)

/-- 'laws.FnExactTurnCode', WHERE WHAT IT READS IS OF BULK AT MOST 1048576: true; the input reads as it did. -/
def fnExactTurnCodeUptoRow : OpenClaim := { program := "ytnnhgblgbbfmpaa", sum := "bb011e8db3ef595e19b25cf94e6877483daf4475fec9a0851fd7dfc8bf26d1e2", func := "loop.example/g01296/laws.FnExactTurnCode", spec := "fnExactTurnCode", unfollowed := true, recurses := true, apart := false, narrowed := true }
def FnExactTurnCodeUptoSaid : Prop := fnExactTurnCodeUptoRow.holds Try.pinned (OpenSpec.upto fnExactTurnCodeSpec)

/-- 'laws.FnExactMirrorCode', WHERE WHAT IT READS IS OF BULK AT MOST 1048576: true; the input reads as it did. -/
def fnExactMirrorCodeUptoRow : OpenClaim := { program := "ytnnhgblgbbfmpaa", sum := "bb011e8db3ef595e19b25cf94e6877483daf4475fec9a0851fd7dfc8bf26d1e2", func := "loop.example/g01296/laws.FnExactMirrorCode", spec := "fnExactMirrorCode", unfollowed := true, recurses := true, apart := false, narrowed := true }
def FnExactMirrorCodeUptoSaid : Prop := fnExactMirrorCodeUptoRow.holds Try.pinned (OpenSpec.upto fnExactMirrorCodeSpec)

/-- 'laws.FnExactGrowCode', WHERE WHAT IT READS IS OF BULK AT MOST 1048576: true; the input reads as it did. -/
def fnExactGrowCodeUptoRow : OpenClaim := { program := "ytnnhgblgbbfmpaa", sum := "bb011e8db3ef595e19b25cf94e6877483daf4475fec9a0851fd7dfc8bf26d1e2", func := "loop.example/g01296/laws.FnExactGrowCode", spec := "fnExactGrowCode", unfollowed := true, recurses := true, apart := false, narrowed := true }
def FnExactGrowCodeUptoSaid : Prop := fnExactGrowCodeUptoRow.holds Try.pinned (OpenSpec.upto fnExactGrowCodeSpec)

/-- 'laws.FnExactRatioOfCut', WHERE WHAT IT READS IS OF BULK AT MOST 1048576: true; the input reads as it did. -/
def fnExactRatioOfCutUptoRow : OpenClaim := { program := "ytnnhgblgbbfmpaa", sum := "bb011e8db3ef595e19b25cf94e6877483daf4475fec9a0851fd7dfc8bf26d1e2", func := "loop.example/g01296/laws.FnExactRatioOfCut", spec := "fnExactRatioOfCut", unfollowed := true, recurses := true, apart := false, narrowed := true }
def FnExactRatioOfCutUptoSaid : Prop := fnExactRatioOfCutUptoRow.holds Try.pinned (OpenSpec.upto fnExactRatioOfCutSpec)

/-- 'laws.FnExactLinesOf', WHERE WHAT IT READS IS OF BULK AT MOST 1048576: true; the input reads as it did. -/
def fnExactLinesOfUptoRow : OpenClaim := { program := "ytnnhgblgbbfmpaa", sum := "bb011e8db3ef595e19b25cf94e6877483daf4475fec9a0851fd7dfc8bf26d1e2", func := "loop.example/g01296/laws.FnExactLinesOf", spec := "fnExactLinesOf", unfollowed := true, recurses := true, apart := false, narrowed := true }
def FnExactLinesOfUptoSaid : Prop := fnExactLinesOfUptoRow.holds Try.pinned (OpenSpec.upto fnExactLinesOfSpec)

/-- 'laws.FnExactNetOfCut', WHERE WHAT IT READS IS OF BULK AT MOST 1048576: true; the input reads as it did. -/
def fnExactNetOfCutUptoRow : OpenClaim := { program := "ytnnhgblgbbfmpaa", sum := "bb011e8db3ef595e19b25cf94e6877483daf4475fec9a0851fd7dfc8bf26d1e2", func := "loop.example/g01296/laws.FnExactNetOfCut", spec := "fnExactNetOfCut", unfollowed := true, recurses := true, apart := false, narrowed := true }
def FnExactNetOfCutUptoSaid : Prop := fnExactNetOfCutUptoRow.holds Try.pinned (OpenSpec.upto fnExactNetOfCutSpec)

/-- 'laws.FnExactBesideCuts', WHERE WHAT IT READS IS OF BULK AT MOST 1048576: true; the input reads as it did. -/
def fnExactBesideCutsUptoRow : OpenClaim := { program := "ytnnhgblgbbfmpaa", sum := "bb011e8db3ef595e19b25cf94e6877483daf4475fec9a0851fd7dfc8bf26d1e2", func := "loop.example/g01296/laws.FnExactBesideCuts", spec := "fnExactBesideCuts", unfollowed := true, recurses := true, apart := false, narrowed := true }
def FnExactBesideCutsUptoSaid : Prop := fnExactBesideCutsUptoRow.holds Try.pinned (OpenSpec.upto fnExactBesideCutsSpec)

/-- 'laws.FnExactUnderCuts', WHERE WHAT IT READS IS OF BULK AT MOST 1048576: true; the input reads as it did. -/
def fnExactUnderCutsUptoRow : OpenClaim := { program := "ytnnhgblgbbfmpaa", sum := "bb011e8db3ef595e19b25cf94e6877483daf4475fec9a0851fd7dfc8bf26d1e2", func := "loop.example/g01296/laws.FnExactUnderCuts", spec := "fnExactUnderCuts", unfollowed := true, recurses := true, apart := false, narrowed := true }
def FnExactUnderCutsUptoSaid : Prop := fnExactUnderCutsUptoRow.holds Try.pinned (OpenSpec.upto fnExactUnderCutsSpec)

/-- 'laws.FnExactPutSquare', WHERE WHAT IT READS IS OF BULK AT MOST 1048576: true; the input reads as it did. -/
def fnExactPutSquareUptoRow : OpenClaim := { program := "ytnnhgblgbbfmpaa", sum := "bb011e8db3ef595e19b25cf94e6877483daf4475fec9a0851fd7dfc8bf26d1e2", func := "loop.example/g01296/laws.FnExactPutSquare", spec := "fnExactPutSquare", unfollowed := true, recurses := true, apart := false, narrowed := true }
def FnExactPutSquareUptoSaid : Prop := fnExactPutSquareUptoRow.holds Try.pinned (OpenSpec.upto fnExactPutSquareSpec)

/-- 'laws.FnExactSpiralCut', WHERE WHAT IT READS IS OF BULK AT MOST 1048576: true; the input reads as it did. -/
def fnExactSpiralCutUptoRow : OpenClaim := { program := "ytnnhgblgbbfmpaa", sum := "bb011e8db3ef595e19b25cf94e6877483daf4475fec9a0851fd7dfc8bf26d1e2", func := "loop.example/g01296/laws.FnExactSpiralCut", spec := "fnExactSpiralCut", unfollowed := true, recurses := true, apart := false, narrowed := true }
def FnExactSpiralCutUptoSaid : Prop := fnExactSpiralCutUptoRow.holds Try.pinned (OpenSpec.upto fnExactSpiralCutSpec)

end Rows
end Go.Proofs.Ytnnhgblgbbfmpaa
