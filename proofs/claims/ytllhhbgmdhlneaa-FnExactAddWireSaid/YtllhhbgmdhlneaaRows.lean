/-
  No cell of these rows narrows 'for every input' (looked for: loops, veiled, ifaces, maps, wideKeys, modest, calm, conditions, laid).
  DERIVED. THE GIVEN ROWS OF THIS SEAT. 12 by the template 'for every input the law returns true; each argument reads behind the call as it read before'; 0 by the template 'total and deterministic' (their statements: YtllhhbgmdhlneaaTotals.lean).
  GIVEN WITH THE SEED: the statements are not yours to turn. If you find one false, say at which input.
  Laid BY PROGRAM, IN A SANDBOX (cutbox-rows.mjs): the forced cells as the released guide's own fill.sh prints them over the translation 9ca8a28afd568567… (all of the seat's roots in one cut). By AI agents, Wed Nov 11 2026. No macro, syntax, notation, axiom, sorry.
-/
import Derived.Test.YtllhhbgmdhlneaaChecked
import GoSem.Claim
import GoSem.ClaimJoined
import GoSem.ClaimMapViews
import Derived.JoinedTies
import Derived.KernelRfl
namespace Go.Proofs.Ytllhhbgmdhlneaa
/- THE CELL 'sum', in the pinned program and in every row, IS THE sha256 OF THE DUMP (.gsa) THAT YtllhhbgmdhlneaaProg.lean LOADS. Nothing in Lean hashes anything: it is a label: what it is worth is what the hold of that sum in a sandbox is worth. -/
noncomputable def Try.pinned : Pinned := { name := "ytllhhbgmdhlneaa", sum := "9ca8a28afd5685672e7eeec4128f8565aa178f1bb80a9a40e618800f7bcfc6d6", checked := Try.checked }
namespace Rows
def none {H : Type} : Left H := { results := [], args := [] }

/-- 'laws.FnExactWidthOfCode': WHATEVER THE INPUT: true; the input reads as it did. -/
def fnExactWidthOfCodeSpec : ChangeSpec := { name := "fnExactWidthOfCode", fn := fun _ => fun
  | [d] => { results := [.lit (.bool true)], args := [d] }
  | _ => none }
def fnExactWidthOfCodeRow : OpenClaim := { program := "ytllhhbgmdhlneaa", sum := "9ca8a28afd5685672e7eeec4128f8565aa178f1bb80a9a40e618800f7bcfc6d6", func := "loop.example/g01296/laws.FnExactWidthOfCode", spec := "fnExactWidthOfCode", unfollowed := true, recurses := true, apart := false }
def FnExactWidthOfCodeSaid : Prop := fnExactWidthOfCodeRow.holds Try.pinned (OpenSpec.ofChange fnExactWidthOfCodeSpec)

/-- ITS FALSE NEIGHBOUR: 'it returns false'. Refute it at one input. -/
def fnExactWidthOfCodeWrong : ChangeSpec := { name := "fnExactWidthOfCode", fn := fun _ => fun
  | [d] => { results := [.lit (.bool false)], args := [d] }
  | _ => none }
def FnExactWidthOfCodeWrongFalsely : Prop := fnExactWidthOfCodeRow.holds Try.pinned (OpenSpec.ofChange fnExactWidthOfCodeWrong)

/-- 'laws.FnExactTurnCode': WHATEVER THE INPUT: true; the input reads as it did. -/
def fnExactTurnCodeSpec : ChangeSpec := { name := "fnExactTurnCode", fn := fun _ => fun
  | [d] => { results := [.lit (.bool true)], args := [d] }
  | _ => none }
def fnExactTurnCodeRow : OpenClaim := { program := "ytllhhbgmdhlneaa", sum := "9ca8a28afd5685672e7eeec4128f8565aa178f1bb80a9a40e618800f7bcfc6d6", func := "loop.example/g01296/laws.FnExactTurnCode", spec := "fnExactTurnCode", unfollowed := true, recurses := true, apart := false }
def FnExactTurnCodeSaid : Prop := fnExactTurnCodeRow.holds Try.pinned (OpenSpec.ofChange fnExactTurnCodeSpec)

/-- ITS FALSE NEIGHBOUR: 'it returns false'. Refute it at one input. -/
def fnExactTurnCodeWrong : ChangeSpec := { name := "fnExactTurnCode", fn := fun _ => fun
  | [d] => { results := [.lit (.bool false)], args := [d] }
  | _ => none }
def FnExactTurnCodeWrongFalsely : Prop := fnExactTurnCodeRow.holds Try.pinned (OpenSpec.ofChange fnExactTurnCodeWrong)

/-- 'laws.FnExactMirrorCode': WHATEVER THE INPUT: true; the input reads as it did. -/
def fnExactMirrorCodeSpec : ChangeSpec := { name := "fnExactMirrorCode", fn := fun _ => fun
  | [d] => { results := [.lit (.bool true)], args := [d] }
  | _ => none }
def fnExactMirrorCodeRow : OpenClaim := { program := "ytllhhbgmdhlneaa", sum := "9ca8a28afd5685672e7eeec4128f8565aa178f1bb80a9a40e618800f7bcfc6d6", func := "loop.example/g01296/laws.FnExactMirrorCode", spec := "fnExactMirrorCode", unfollowed := true, recurses := true, apart := false }
def FnExactMirrorCodeSaid : Prop := fnExactMirrorCodeRow.holds Try.pinned (OpenSpec.ofChange fnExactMirrorCodeSpec)

/-- ITS FALSE NEIGHBOUR: 'it returns false'. Refute it at one input. -/
def fnExactMirrorCodeWrong : ChangeSpec := { name := "fnExactMirrorCode", fn := fun _ => fun
  | [d] => { results := [.lit (.bool false)], args := [d] }
  | _ => none }
def FnExactMirrorCodeWrongFalsely : Prop := fnExactMirrorCodeRow.holds Try.pinned (OpenSpec.ofChange fnExactMirrorCodeWrong)

/-- 'laws.FnExactGrowCode': WHATEVER THE INPUT: true; the input reads as it did. -/
def fnExactGrowCodeSpec : ChangeSpec := { name := "fnExactGrowCode", fn := fun _ => fun
  | [d1, d2] => { results := [.lit (.bool true)], args := [d1, d2] }
  | _ => none }
def fnExactGrowCodeRow : OpenClaim := { program := "ytllhhbgmdhlneaa", sum := "9ca8a28afd5685672e7eeec4128f8565aa178f1bb80a9a40e618800f7bcfc6d6", func := "loop.example/g01296/laws.FnExactGrowCode", spec := "fnExactGrowCode", unfollowed := true, recurses := true, apart := false }
def FnExactGrowCodeSaid : Prop := fnExactGrowCodeRow.holds Try.pinned (OpenSpec.ofChange fnExactGrowCodeSpec)

/-- ITS FALSE NEIGHBOUR: 'it returns false'. Refute it at one input. -/
def fnExactGrowCodeWrong : ChangeSpec := { name := "fnExactGrowCode", fn := fun _ => fun
  | [d1, d2] => { results := [.lit (.bool false)], args := [d1, d2] }
  | _ => none }
def FnExactGrowCodeWrongFalsely : Prop := fnExactGrowCodeRow.holds Try.pinned (OpenSpec.ofChange fnExactGrowCodeWrong)

/-- 'laws.FnExactCompareCodes': WHATEVER THE INPUT: true; the input reads as it did. -/
def fnExactCompareCodesSpec : ChangeSpec := { name := "fnExactCompareCodes", fn := fun _ => fun
  | [d1, d2] => { results := [.lit (.bool true)], args := [d1, d2] }
  | _ => none }
def fnExactCompareCodesRow : OpenClaim := { program := "ytllhhbgmdhlneaa", sum := "9ca8a28afd5685672e7eeec4128f8565aa178f1bb80a9a40e618800f7bcfc6d6", func := "loop.example/g01296/laws.FnExactCompareCodes", spec := "fnExactCompareCodes", unfollowed := true, recurses := true, apart := false }
def FnExactCompareCodesSaid : Prop := fnExactCompareCodesRow.holds Try.pinned (OpenSpec.ofChange fnExactCompareCodesSpec)

/-- ITS FALSE NEIGHBOUR: 'it returns false'. Refute it at one input. -/
def fnExactCompareCodesWrong : ChangeSpec := { name := "fnExactCompareCodes", fn := fun _ => fun
  | [d1, d2] => { results := [.lit (.bool false)], args := [d1, d2] }
  | _ => none }
def FnExactCompareCodesWrongFalsely : Prop := fnExactCompareCodesRow.holds Try.pinned (OpenSpec.ofChange fnExactCompareCodesWrong)

/-- 'laws.FnExactAddWire': WHATEVER THE INPUT: true; the input reads as it did. -/
def fnExactAddWireSpec : ChangeSpec := { name := "fnExactAddWire", fn := fun _ => fun
  | [d1, d2] => { results := [.lit (.bool true)], args := [d1, d2] }
  | _ => none }
def fnExactAddWireRow : OpenClaim := { program := "ytllhhbgmdhlneaa", sum := "9ca8a28afd5685672e7eeec4128f8565aa178f1bb80a9a40e618800f7bcfc6d6", func := "loop.example/g01296/laws.FnExactAddWire", spec := "fnExactAddWire", apart := false }
def FnExactAddWireSaid : Prop := fnExactAddWireRow.holds Try.pinned (OpenSpec.ofChange fnExactAddWireSpec)

/-- ITS FALSE NEIGHBOUR: 'it returns false'. Refute it at one input. -/
def fnExactAddWireWrong : ChangeSpec := { name := "fnExactAddWire", fn := fun _ => fun
  | [d1, d2] => { results := [.lit (.bool false)], args := [d1, d2] }
  | _ => none }
def FnExactAddWireWrongFalsely : Prop := fnExactAddWireRow.holds Try.pinned (OpenSpec.ofChange fnExactAddWireWrong)

/-- 'laws.FnExactDropWire': WHATEVER THE INPUT: true; the input reads as it did. -/
def fnExactDropWireSpec : ChangeSpec := { name := "fnExactDropWire", fn := fun _ => fun
  | [d1, d2] => { results := [.lit (.bool true)], args := [d1, d2] }
  | _ => none }
def fnExactDropWireRow : OpenClaim := { program := "ytllhhbgmdhlneaa", sum := "9ca8a28afd5685672e7eeec4128f8565aa178f1bb80a9a40e618800f7bcfc6d6", func := "loop.example/g01296/laws.FnExactDropWire", spec := "fnExactDropWire", apart := false }
def FnExactDropWireSaid : Prop := fnExactDropWireRow.holds Try.pinned (OpenSpec.ofChange fnExactDropWireSpec)

/-- ITS FALSE NEIGHBOUR: 'it returns false'. Refute it at one input. -/
def fnExactDropWireWrong : ChangeSpec := { name := "fnExactDropWire", fn := fun _ => fun
  | [d1, d2] => { results := [.lit (.bool false)], args := [d1, d2] }
  | _ => none }
def FnExactDropWireWrongFalsely : Prop := fnExactDropWireRow.holds Try.pinned (OpenSpec.ofChange fnExactDropWireWrong)

/-- 'laws.FnExactBackNet': WHATEVER THE INPUT: true; the input reads as it did. -/
def fnExactBackNetSpec : ChangeSpec := { name := "fnExactBackNet", fn := fun _ => fun
  | [d] => { results := [.lit (.bool true)], args := [d] }
  | _ => none }
def fnExactBackNetRow : OpenClaim := { program := "ytllhhbgmdhlneaa", sum := "9ca8a28afd5685672e7eeec4128f8565aa178f1bb80a9a40e618800f7bcfc6d6", func := "loop.example/g01296/laws.FnExactBackNet", spec := "fnExactBackNet", apart := false }
def FnExactBackNetSaid : Prop := fnExactBackNetRow.holds Try.pinned (OpenSpec.ofChange fnExactBackNetSpec)

/-- ITS FALSE NEIGHBOUR: 'it returns false'. Refute it at one input. -/
def fnExactBackNetWrong : ChangeSpec := { name := "fnExactBackNet", fn := fun _ => fun
  | [d] => { results := [.lit (.bool false)], args := [d] }
  | _ => none }
def FnExactBackNetWrongFalsely : Prop := fnExactBackNetRow.holds Try.pinned (OpenSpec.ofChange fnExactBackNetWrong)

/-- 'laws.FnExactIsNet': WHATEVER THE INPUT: true; the input reads as it did. -/
def fnExactIsNetSpec : ChangeSpec := { name := "fnExactIsNet", fn := fun _ => fun
  | [d] => { results := [.lit (.bool true)], args := [d] }
  | _ => none }
def fnExactIsNetRow : OpenClaim := { program := "ytllhhbgmdhlneaa", sum := "9ca8a28afd5685672e7eeec4128f8565aa178f1bb80a9a40e618800f7bcfc6d6", func := "loop.example/g01296/laws.FnExactIsNet", spec := "fnExactIsNet", apart := false }
def FnExactIsNetSaid : Prop := fnExactIsNetRow.holds Try.pinned (OpenSpec.ofChange fnExactIsNetSpec)

/-- ITS FALSE NEIGHBOUR: 'it returns false'. Refute it at one input. -/
def fnExactIsNetWrong : ChangeSpec := { name := "fnExactIsNet", fn := fun _ => fun
  | [d] => { results := [.lit (.bool false)], args := [d] }
  | _ => none }
def FnExactIsNetWrongFalsely : Prop := fnExactIsNetRow.holds Try.pinned (OpenSpec.ofChange fnExactIsNetWrong)

/-- 'laws.FnExactCountRatios': WHATEVER THE INPUT: true; the input reads as it did. -/
def fnExactCountRatiosSpec : ChangeSpec := { name := "fnExactCountRatios", fn := fun _ => fun
  | [d] => { results := [.lit (.bool true)], args := [d] }
  | _ => none }
def fnExactCountRatiosRow : OpenClaim := { program := "ytllhhbgmdhlneaa", sum := "9ca8a28afd5685672e7eeec4128f8565aa178f1bb80a9a40e618800f7bcfc6d6", func := "loop.example/g01296/laws.FnExactCountRatios", spec := "fnExactCountRatios", apart := false }
def FnExactCountRatiosSaid : Prop := fnExactCountRatiosRow.holds Try.pinned (OpenSpec.ofChange fnExactCountRatiosSpec)

/-- ITS FALSE NEIGHBOUR: 'it returns false'. Refute it at one input. -/
def fnExactCountRatiosWrong : ChangeSpec := { name := "fnExactCountRatios", fn := fun _ => fun
  | [d] => { results := [.lit (.bool false)], args := [d] }
  | _ => none }
def FnExactCountRatiosWrongFalsely : Prop := fnExactCountRatiosRow.holds Try.pinned (OpenSpec.ofChange fnExactCountRatiosWrong)

/-- 'laws.FnExactRatioOfCut': WHATEVER THE INPUT: true; the input reads as it did. -/
def fnExactRatioOfCutSpec : ChangeSpec := { name := "fnExactRatioOfCut", fn := fun _ => fun
  | [d] => { results := [.lit (.bool true)], args := [d] }
  | _ => none }
def fnExactRatioOfCutRow : OpenClaim := { program := "ytllhhbgmdhlneaa", sum := "9ca8a28afd5685672e7eeec4128f8565aa178f1bb80a9a40e618800f7bcfc6d6", func := "loop.example/g01296/laws.FnExactRatioOfCut", spec := "fnExactRatioOfCut", unfollowed := true, recurses := true, apart := false }
def FnExactRatioOfCutSaid : Prop := fnExactRatioOfCutRow.holds Try.pinned (OpenSpec.ofChange fnExactRatioOfCutSpec)

/-- ITS FALSE NEIGHBOUR: 'it returns false'. Refute it at one input. -/
def fnExactRatioOfCutWrong : ChangeSpec := { name := "fnExactRatioOfCut", fn := fun _ => fun
  | [d] => { results := [.lit (.bool false)], args := [d] }
  | _ => none }
def FnExactRatioOfCutWrongFalsely : Prop := fnExactRatioOfCutRow.holds Try.pinned (OpenSpec.ofChange fnExactRatioOfCutWrong)

/-- 'laws.FnExactRatioOfQuotients': WHATEVER THE INPUT: true; the input reads as it did. -/
def fnExactRatioOfQuotientsSpec : ChangeSpec := { name := "fnExactRatioOfQuotients", fn := fun _ => fun
  | [d] => { results := [.lit (.bool true)], args := [d] }
  | _ => none }
def fnExactRatioOfQuotientsRow : OpenClaim := { program := "ytllhhbgmdhlneaa", sum := "9ca8a28afd5685672e7eeec4128f8565aa178f1bb80a9a40e618800f7bcfc6d6", func := "loop.example/g01296/laws.FnExactRatioOfQuotients", spec := "fnExactRatioOfQuotients", unfollowed := true, recurses := true, apart := false }
def FnExactRatioOfQuotientsSaid : Prop := fnExactRatioOfQuotientsRow.holds Try.pinned (OpenSpec.ofChange fnExactRatioOfQuotientsSpec)

/-- ITS FALSE NEIGHBOUR: 'it returns false'. Refute it at one input. -/
def fnExactRatioOfQuotientsWrong : ChangeSpec := { name := "fnExactRatioOfQuotients", fn := fun _ => fun
  | [d] => { results := [.lit (.bool false)], args := [d] }
  | _ => none }
def FnExactRatioOfQuotientsWrongFalsely : Prop := fnExactRatioOfQuotientsRow.holds Try.pinned (OpenSpec.ofChange fnExactRatioOfQuotientsWrong)

/- THE SECOND FORM. 'bulk': how many values and letters a reading holds, each counted each time it is reached (what is shared counts as often as it is met; a slice's spare places count too). A statement '..UptoSaid' is the law's where the arguments, and the package variables that the reading takes, are together of bulk at most 1048576: NARROWER than '..Said'. Prove '..Said' where nothing that the law and all that it calls make is longer than what came in: it says more and counts as full. Else prove '..UptoSaid'. A law counts once. -/
mutual
def uptoBulk {H : Type} : DataW H → Nat
  | .lit (.string bytes) => bytes.length + 1
  | .lit _ => 1
  | .nil => 1
  | .ptr d => uptoBulk d + 1
  | .slice elems spare => uptoBulkAll elems + uptoBulkAll spare + 1
  | .agg parts => uptoBulkAll parts + 1
  | .iface _ d => uptoBulk d + 1
  | .map entries => uptoBulkEntries entries + 1
  | .held _ => 1
def uptoBulkAll {H : Type} : List (DataW H) → Nat
  | [] => 0
  | d :: r => uptoBulk d + uptoBulkAll r
def uptoBulkEntries {H : Type} : List (Lit × DataW H) → Nat
  | [] => 0
  | x :: r => uptoBulkEntry x + uptoBulkEntries r
def uptoBulkEntry {H : Type} : Lit × DataW H → Nat
  | (.string bytes, d) => bytes.length + uptoBulk d + 1
  | (_, d) => uptoBulk d + 1
 end
def uptoSmall : (H : Type) → List (DataW H) → Bool := fun _ ds => decide (uptoBulkAll ds ≤ 1048576)
def OpenSpec.upto (s : _root_.Go.ChangeSpec) : _root_.Go.OpenSpec := { _root_.Go.OpenSpec.ofChange s with cond := some uptoSmall }

/-- 'laws.FnExactWidthOfCode', WHERE WHAT IT READS IS OF BULK AT MOST 1048576: true; the input reads as it did. -/
def fnExactWidthOfCodeUptoRow : OpenClaim := { program := "ytllhhbgmdhlneaa", sum := "9ca8a28afd5685672e7eeec4128f8565aa178f1bb80a9a40e618800f7bcfc6d6", func := "loop.example/g01296/laws.FnExactWidthOfCode", spec := "fnExactWidthOfCode", unfollowed := true, recurses := true, apart := false, narrowed := true }
def FnExactWidthOfCodeUptoSaid : Prop := fnExactWidthOfCodeUptoRow.holds Try.pinned (OpenSpec.upto fnExactWidthOfCodeSpec)

/-- 'laws.FnExactTurnCode', WHERE WHAT IT READS IS OF BULK AT MOST 1048576: true; the input reads as it did. -/
def fnExactTurnCodeUptoRow : OpenClaim := { program := "ytllhhbgmdhlneaa", sum := "9ca8a28afd5685672e7eeec4128f8565aa178f1bb80a9a40e618800f7bcfc6d6", func := "loop.example/g01296/laws.FnExactTurnCode", spec := "fnExactTurnCode", unfollowed := true, recurses := true, apart := false, narrowed := true }
def FnExactTurnCodeUptoSaid : Prop := fnExactTurnCodeUptoRow.holds Try.pinned (OpenSpec.upto fnExactTurnCodeSpec)

/-- 'laws.FnExactMirrorCode', WHERE WHAT IT READS IS OF BULK AT MOST 1048576: true; the input reads as it did. -/
def fnExactMirrorCodeUptoRow : OpenClaim := { program := "ytllhhbgmdhlneaa", sum := "9ca8a28afd5685672e7eeec4128f8565aa178f1bb80a9a40e618800f7bcfc6d6", func := "loop.example/g01296/laws.FnExactMirrorCode", spec := "fnExactMirrorCode", unfollowed := true, recurses := true, apart := false, narrowed := true }
def FnExactMirrorCodeUptoSaid : Prop := fnExactMirrorCodeUptoRow.holds Try.pinned (OpenSpec.upto fnExactMirrorCodeSpec)

/-- 'laws.FnExactGrowCode', WHERE WHAT IT READS IS OF BULK AT MOST 1048576: true; the input reads as it did. -/
def fnExactGrowCodeUptoRow : OpenClaim := { program := "ytllhhbgmdhlneaa", sum := "9ca8a28afd5685672e7eeec4128f8565aa178f1bb80a9a40e618800f7bcfc6d6", func := "loop.example/g01296/laws.FnExactGrowCode", spec := "fnExactGrowCode", unfollowed := true, recurses := true, apart := false, narrowed := true }
def FnExactGrowCodeUptoSaid : Prop := fnExactGrowCodeUptoRow.holds Try.pinned (OpenSpec.upto fnExactGrowCodeSpec)

/-- 'laws.FnExactCompareCodes', WHERE WHAT IT READS IS OF BULK AT MOST 1048576: true; the input reads as it did. -/
def fnExactCompareCodesUptoRow : OpenClaim := { program := "ytllhhbgmdhlneaa", sum := "9ca8a28afd5685672e7eeec4128f8565aa178f1bb80a9a40e618800f7bcfc6d6", func := "loop.example/g01296/laws.FnExactCompareCodes", spec := "fnExactCompareCodes", unfollowed := true, recurses := true, apart := false, narrowed := true }
def FnExactCompareCodesUptoSaid : Prop := fnExactCompareCodesUptoRow.holds Try.pinned (OpenSpec.upto fnExactCompareCodesSpec)

/-- 'laws.FnExactAddWire', WHERE WHAT IT READS IS OF BULK AT MOST 1048576: true; the input reads as it did. -/
def fnExactAddWireUptoRow : OpenClaim := { program := "ytllhhbgmdhlneaa", sum := "9ca8a28afd5685672e7eeec4128f8565aa178f1bb80a9a40e618800f7bcfc6d6", func := "loop.example/g01296/laws.FnExactAddWire", spec := "fnExactAddWire", apart := false, narrowed := true }
def FnExactAddWireUptoSaid : Prop := fnExactAddWireUptoRow.holds Try.pinned (OpenSpec.upto fnExactAddWireSpec)

/-- 'laws.FnExactDropWire', WHERE WHAT IT READS IS OF BULK AT MOST 1048576: true; the input reads as it did. -/
def fnExactDropWireUptoRow : OpenClaim := { program := "ytllhhbgmdhlneaa", sum := "9ca8a28afd5685672e7eeec4128f8565aa178f1bb80a9a40e618800f7bcfc6d6", func := "loop.example/g01296/laws.FnExactDropWire", spec := "fnExactDropWire", apart := false, narrowed := true }
def FnExactDropWireUptoSaid : Prop := fnExactDropWireUptoRow.holds Try.pinned (OpenSpec.upto fnExactDropWireSpec)

/-- 'laws.FnExactBackNet', WHERE WHAT IT READS IS OF BULK AT MOST 1048576: true; the input reads as it did. -/
def fnExactBackNetUptoRow : OpenClaim := { program := "ytllhhbgmdhlneaa", sum := "9ca8a28afd5685672e7eeec4128f8565aa178f1bb80a9a40e618800f7bcfc6d6", func := "loop.example/g01296/laws.FnExactBackNet", spec := "fnExactBackNet", apart := false, narrowed := true }
def FnExactBackNetUptoSaid : Prop := fnExactBackNetUptoRow.holds Try.pinned (OpenSpec.upto fnExactBackNetSpec)

/-- 'laws.FnExactIsNet', WHERE WHAT IT READS IS OF BULK AT MOST 1048576: true; the input reads as it did. -/
def fnExactIsNetUptoRow : OpenClaim := { program := "ytllhhbgmdhlneaa", sum := "9ca8a28afd5685672e7eeec4128f8565aa178f1bb80a9a40e618800f7bcfc6d6", func := "loop.example/g01296/laws.FnExactIsNet", spec := "fnExactIsNet", apart := false, narrowed := true }
def FnExactIsNetUptoSaid : Prop := fnExactIsNetUptoRow.holds Try.pinned (OpenSpec.upto fnExactIsNetSpec)

/-- 'laws.FnExactCountRatios', WHERE WHAT IT READS IS OF BULK AT MOST 1048576: true; the input reads as it did. -/
def fnExactCountRatiosUptoRow : OpenClaim := { program := "ytllhhbgmdhlneaa", sum := "9ca8a28afd5685672e7eeec4128f8565aa178f1bb80a9a40e618800f7bcfc6d6", func := "loop.example/g01296/laws.FnExactCountRatios", spec := "fnExactCountRatios", apart := false, narrowed := true }
def FnExactCountRatiosUptoSaid : Prop := fnExactCountRatiosUptoRow.holds Try.pinned (OpenSpec.upto fnExactCountRatiosSpec)

/-- 'laws.FnExactRatioOfCut', WHERE WHAT IT READS IS OF BULK AT MOST 1048576: true; the input reads as it did. -/
def fnExactRatioOfCutUptoRow : OpenClaim := { program := "ytllhhbgmdhlneaa", sum := "9ca8a28afd5685672e7eeec4128f8565aa178f1bb80a9a40e618800f7bcfc6d6", func := "loop.example/g01296/laws.FnExactRatioOfCut", spec := "fnExactRatioOfCut", unfollowed := true, recurses := true, apart := false, narrowed := true }
def FnExactRatioOfCutUptoSaid : Prop := fnExactRatioOfCutUptoRow.holds Try.pinned (OpenSpec.upto fnExactRatioOfCutSpec)

/-- 'laws.FnExactRatioOfQuotients', WHERE WHAT IT READS IS OF BULK AT MOST 1048576: true; the input reads as it did. -/
def fnExactRatioOfQuotientsUptoRow : OpenClaim := { program := "ytllhhbgmdhlneaa", sum := "9ca8a28afd5685672e7eeec4128f8565aa178f1bb80a9a40e618800f7bcfc6d6", func := "loop.example/g01296/laws.FnExactRatioOfQuotients", spec := "fnExactRatioOfQuotients", unfollowed := true, recurses := true, apart := false, narrowed := true }
def FnExactRatioOfQuotientsUptoSaid : Prop := fnExactRatioOfQuotientsUptoRow.holds Try.pinned (OpenSpec.upto fnExactRatioOfQuotientsSpec)

end Rows
end Go.Proofs.Ytllhhbgmdhlneaa
