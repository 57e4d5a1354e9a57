/-
  No cell of these rows narrows 'for every input' (looked for: loops, veiled, ifaces, maps, wideKeys, modest, calm, conditions, laid).
  DERIVED. THE GIVEN ROWS OF THIS SEAT. 10 by the template 'for every input the law returns true; each argument reads behind the call as it read before'; 0 by the template 'total and deterministic' (their statements: YtchabjmdjpfkfaaTotals.lean).
  GIVEN WITH THE SEED: the statements are not yours to turn. If you find one false, say at which input.
  Laid BY PROGRAM, IN A SANDBOX (cutbox-rows.mjs): the forced cells as the released guide's own fill.sh prints them over the translation 621021faf453e479… (all of the seat's roots in one cut). By AI agents, Wed Nov 11 2026. No macro, syntax, notation, axiom, sorry.
-/
import Derived.Test.YtchabjmdjpfkfaaChecked
import GoSem.Claim
import GoSem.ClaimJoined
import GoSem.ClaimMapViews
import Derived.JoinedTies
import Derived.KernelRfl
namespace Go.Proofs.Ytchabjmdjpfkfaa
/- THE CELL 'sum', in the pinned program and in every row, IS THE sha256 OF THE DUMP (.gsa) THAT YtchabjmdjpfkfaaProg.lean LOADS. Nothing in Lean hashes anything: it is a label: what it is worth is what the hold of that sum in a sandbox is worth. -/
noncomputable def Try.pinned : Pinned := { name := "ytchabjmdjpfkfaa", sum := "621021faf453e47908661044530d1bc9b8e60bf705ff3cf9d03b7d48e4d12347", checked := Try.checked }
namespace Rows
def none {H : Type} : Left H := { results := [], args := [] }

/-- 'laws.FnExactCountCuts': WHATEVER THE INPUT: true; the input reads as it did. -/
def fnExactCountCutsSpec : ChangeSpec := { name := "fnExactCountCuts", fn := fun _ => fun
  | [d1, d2] => { results := [.lit (.bool true)], args := [d1, d2] }
  | _ => none }
def fnExactCountCutsRow : OpenClaim := { program := "ytchabjmdjpfkfaa", sum := "621021faf453e47908661044530d1bc9b8e60bf705ff3cf9d03b7d48e4d12347", func := "loop.example/g01296/laws.FnExactCountCuts", spec := "fnExactCountCuts", unfollowed := true, recurses := true, apart := false }
def FnExactCountCutsSaid : Prop := fnExactCountCutsRow.holds Try.pinned (OpenSpec.ofChange fnExactCountCutsSpec)

/-- ITS FALSE NEIGHBOUR: 'it returns false'. Refute it at one input. -/
def fnExactCountCutsWrong : ChangeSpec := { name := "fnExactCountCuts", fn := fun _ => fun
  | [d1, d2] => { results := [.lit (.bool false)], args := [d1, d2] }
  | _ => none }
def FnExactCountCutsWrongFalsely : Prop := fnExactCountCutsRow.holds Try.pinned (OpenSpec.ofChange fnExactCountCutsWrong)

/-- 'laws.FnExactCutsBySquares': WHATEVER THE INPUT: true; the input reads as it did. -/
def fnExactCutsBySquaresSpec : ChangeSpec := { name := "fnExactCutsBySquares", fn := fun _ => fun
  | [d1, d2] => { results := [.lit (.bool true)], args := [d1, d2] }
  | _ => none }
def fnExactCutsBySquaresRow : OpenClaim := { program := "ytchabjmdjpfkfaa", sum := "621021faf453e47908661044530d1bc9b8e60bf705ff3cf9d03b7d48e4d12347", func := "loop.example/g01296/laws.FnExactCutsBySquares", spec := "fnExactCutsBySquares", unfollowed := true, recurses := true, apart := false }
def FnExactCutsBySquaresSaid : Prop := fnExactCutsBySquaresRow.holds Try.pinned (OpenSpec.ofChange fnExactCutsBySquaresSpec)

/-- ITS FALSE NEIGHBOUR: 'it returns false'. Refute it at one input. -/
def fnExactCutsBySquaresWrong : ChangeSpec := { name := "fnExactCutsBySquares", fn := fun _ => fun
  | [d1, d2] => { results := [.lit (.bool false)], args := [d1, d2] }
  | _ => none }
def FnExactCutsBySquaresWrongFalsely : Prop := fnExactCutsBySquaresRow.holds Try.pinned (OpenSpec.ofChange fnExactCutsBySquaresWrong)

/-- 'laws.FnExactCutsWithMost': WHATEVER THE INPUT: true; the input reads as it did. -/
def fnExactCutsWithMostSpec : ChangeSpec := { name := "fnExactCutsWithMost", fn := fun _ => fun
  | [d1, d2, d3] => { results := [.lit (.bool true)], args := [d1, d2, d3] }
  | _ => none }
def fnExactCutsWithMostRow : OpenClaim := { program := "ytchabjmdjpfkfaa", sum := "621021faf453e47908661044530d1bc9b8e60bf705ff3cf9d03b7d48e4d12347", func := "loop.example/g01296/laws.FnExactCutsWithMost", spec := "fnExactCutsWithMost", unfollowed := true, recurses := true, apart := false }
def FnExactCutsWithMostSaid : Prop := fnExactCutsWithMostRow.holds Try.pinned (OpenSpec.ofChange fnExactCutsWithMostSpec)

/-- ITS FALSE NEIGHBOUR: 'it returns false'. Refute it at one input. -/
def fnExactCutsWithMostWrong : ChangeSpec := { name := "fnExactCutsWithMost", fn := fun _ => fun
  | [d1, d2, d3] => { results := [.lit (.bool false)], args := [d1, d2, d3] }
  | _ => none }
def FnExactCutsWithMostWrongFalsely : Prop := fnExactCutsWithMostRow.holds Try.pinned (OpenSpec.ofChange fnExactCutsWithMostWrong)

/-- 'laws.FnExactMeanOfCuts': WHATEVER THE INPUT: true; the input reads as it did. -/
def fnExactMeanOfCutsSpec : ChangeSpec := { name := "fnExactMeanOfCuts", fn := fun _ => fun
  | [d1, d2] => { results := [.lit (.bool true)], args := [d1, d2] }
  | _ => none }
def fnExactMeanOfCutsRow : OpenClaim := { program := "ytchabjmdjpfkfaa", sum := "621021faf453e47908661044530d1bc9b8e60bf705ff3cf9d03b7d48e4d12347", func := "loop.example/g01296/laws.FnExactMeanOfCuts", spec := "fnExactMeanOfCuts", unfollowed := true, recurses := true, apart := false }
def FnExactMeanOfCutsSaid : Prop := fnExactMeanOfCutsRow.holds Try.pinned (OpenSpec.ofChange fnExactMeanOfCutsSpec)

/-- ITS FALSE NEIGHBOUR: 'it returns false'. Refute it at one input. -/
def fnExactMeanOfCutsWrong : ChangeSpec := { name := "fnExactMeanOfCuts", fn := fun _ => fun
  | [d1, d2] => { results := [.lit (.bool false)], args := [d1, d2] }
  | _ => none }
def FnExactMeanOfCutsWrongFalsely : Prop := fnExactMeanOfCutsRow.holds Try.pinned (OpenSpec.ofChange fnExactMeanOfCutsWrong)

/-- 'laws.FnExactCountTurned': WHATEVER THE INPUT: true; the input reads as it did. -/
def fnExactCountTurnedSpec : ChangeSpec := { name := "fnExactCountTurned", fn := fun _ => fun
  | [d1, d2] => { results := [.lit (.bool true)], args := [d1, d2] }
  | _ => none }
def fnExactCountTurnedRow : OpenClaim := { program := "ytchabjmdjpfkfaa", sum := "621021faf453e47908661044530d1bc9b8e60bf705ff3cf9d03b7d48e4d12347", func := "loop.example/g01296/laws.FnExactCountTurned", spec := "fnExactCountTurned", unfollowed := true, recurses := true, apart := false }
def FnExactCountTurnedSaid : Prop := fnExactCountTurnedRow.holds Try.pinned (OpenSpec.ofChange fnExactCountTurnedSpec)

/-- ITS FALSE NEIGHBOUR: 'it returns false'. Refute it at one input. -/
def fnExactCountTurnedWrong : ChangeSpec := { name := "fnExactCountTurned", fn := fun _ => fun
  | [d1, d2] => { results := [.lit (.bool false)], args := [d1, d2] }
  | _ => none }
def FnExactCountTurnedWrongFalsely : Prop := fnExactCountTurnedRow.holds Try.pinned (OpenSpec.ofChange fnExactCountTurnedWrong)

/-- 'laws.FnExactFirstTurns': WHATEVER THE INPUT: true; the input reads as it did. -/
def fnExactFirstTurnsSpec : ChangeSpec := { name := "fnExactFirstTurns", fn := fun _ => fun
  | [d1, d2] => { results := [.lit (.bool true)], args := [d1, d2] }
  | _ => none }
def fnExactFirstTurnsRow : OpenClaim := { program := "ytchabjmdjpfkfaa", sum := "621021faf453e47908661044530d1bc9b8e60bf705ff3cf9d03b7d48e4d12347", func := "loop.example/g01296/laws.FnExactFirstTurns", spec := "fnExactFirstTurns", unfollowed := true, recurses := true, apart := false }
def FnExactFirstTurnsSaid : Prop := fnExactFirstTurnsRow.holds Try.pinned (OpenSpec.ofChange fnExactFirstTurnsSpec)

/-- ITS FALSE NEIGHBOUR: 'it returns false'. Refute it at one input. -/
def fnExactFirstTurnsWrong : ChangeSpec := { name := "fnExactFirstTurns", fn := fun _ => fun
  | [d1, d2] => { results := [.lit (.bool false)], args := [d1, d2] }
  | _ => none }
def FnExactFirstTurnsWrongFalsely : Prop := fnExactFirstTurnsRow.holds Try.pinned (OpenSpec.ofChange fnExactFirstTurnsWrong)

/-- 'laws.FnExactSideLists': WHATEVER THE INPUT: true; the input reads as it did. -/
def fnExactSideListsSpec : ChangeSpec := { name := "fnExactSideLists", fn := fun _ => fun
  | [d1, d2] => { results := [.lit (.bool true)], args := [d1, d2] }
  | _ => none }
def fnExactSideListsRow : OpenClaim := { program := "ytchabjmdjpfkfaa", sum := "621021faf453e47908661044530d1bc9b8e60bf705ff3cf9d03b7d48e4d12347", func := "loop.example/g01296/laws.FnExactSideLists", spec := "fnExactSideLists", unfollowed := true, recurses := true, apart := false }
def FnExactSideListsSaid : Prop := fnExactSideListsRow.holds Try.pinned (OpenSpec.ofChange fnExactSideListsSpec)

/-- ITS FALSE NEIGHBOUR: 'it returns false'. Refute it at one input. -/
def fnExactSideListsWrong : ChangeSpec := { name := "fnExactSideLists", fn := fun _ => fun
  | [d1, d2] => { results := [.lit (.bool false)], args := [d1, d2] }
  | _ => none }
def FnExactSideListsWrongFalsely : Prop := fnExactSideListsRow.holds Try.pinned (OpenSpec.ofChange fnExactSideListsWrong)

/-- 'laws.FnExactFirstTurn': WHATEVER THE INPUT: true; the input reads as it did. -/
def fnExactFirstTurnSpec : ChangeSpec := { name := "fnExactFirstTurn", fn := fun _ => fun
  | [d] => { results := [.lit (.bool true)], args := [d] }
  | _ => none }
def fnExactFirstTurnRow : OpenClaim := { program := "ytchabjmdjpfkfaa", sum := "621021faf453e47908661044530d1bc9b8e60bf705ff3cf9d03b7d48e4d12347", func := "loop.example/g01296/laws.FnExactFirstTurn", spec := "fnExactFirstTurn", unfollowed := true, recurses := true, apart := false }
def FnExactFirstTurnSaid : Prop := fnExactFirstTurnRow.holds Try.pinned (OpenSpec.ofChange fnExactFirstTurnSpec)

/-- ITS FALSE NEIGHBOUR: 'it returns false'. Refute it at one input. -/
def fnExactFirstTurnWrong : ChangeSpec := { name := "fnExactFirstTurn", fn := fun _ => fun
  | [d] => { results := [.lit (.bool false)], args := [d] }
  | _ => none }
def FnExactFirstTurnWrongFalsely : Prop := fnExactFirstTurnRow.holds Try.pinned (OpenSpec.ofChange fnExactFirstTurnWrong)

/-- 'laws.FnExactIsDesk': WHATEVER THE INPUT: true; the input reads as it did. -/
def fnExactIsDeskSpec : ChangeSpec := { name := "fnExactIsDesk", fn := fun _ => fun
  | [d] => { results := [.lit (.bool true)], args := [d] }
  | _ => none }
def fnExactIsDeskRow : OpenClaim := { program := "ytchabjmdjpfkfaa", sum := "621021faf453e47908661044530d1bc9b8e60bf705ff3cf9d03b7d48e4d12347", func := "loop.example/g01296/laws.FnExactIsDesk", spec := "fnExactIsDesk", unfollowed := true, recurses := true, apart := false }
def FnExactIsDeskSaid : Prop := fnExactIsDeskRow.holds Try.pinned (OpenSpec.ofChange fnExactIsDeskSpec)

/-- ITS FALSE NEIGHBOUR: 'it returns false'. Refute it at one input. -/
def fnExactIsDeskWrong : ChangeSpec := { name := "fnExactIsDesk", fn := fun _ => fun
  | [d] => { results := [.lit (.bool false)], args := [d] }
  | _ => none }
def FnExactIsDeskWrongFalsely : Prop := fnExactIsDeskRow.holds Try.pinned (OpenSpec.ofChange fnExactIsDeskWrong)

/-- 'laws.FnExactFirstCode': WHATEVER THE INPUT: true; the input reads as it did. -/
def fnExactFirstCodeSpec : ChangeSpec := { name := "fnExactFirstCode", fn := fun _ => fun
  | [d] => { results := [.lit (.bool true)], args := [d] }
  | _ => none }
def fnExactFirstCodeRow : OpenClaim := { program := "ytchabjmdjpfkfaa", sum := "621021faf453e47908661044530d1bc9b8e60bf705ff3cf9d03b7d48e4d12347", func := "loop.example/g01296/laws.FnExactFirstCode", spec := "fnExactFirstCode", unfollowed := true, recurses := true, apart := false }
def FnExactFirstCodeSaid : Prop := fnExactFirstCodeRow.holds Try.pinned (OpenSpec.ofChange fnExactFirstCodeSpec)

/-- ITS FALSE NEIGHBOUR: 'it returns false'. Refute it at one input. -/
def fnExactFirstCodeWrong : ChangeSpec := { name := "fnExactFirstCode", fn := fun _ => fun
  | [d] => { results := [.lit (.bool false)], args := [d] }
  | _ => none }
def FnExactFirstCodeWrongFalsely : Prop := fnExactFirstCodeRow.holds Try.pinned (OpenSpec.ofChange fnExactFirstCodeWrong)

/- THE SECOND FORM. 'bulk': how many values and letters a reading holds, each counted each time it is reached (what is shared counts as often as it is met; a slice's spare places count too). A statement '..UptoSaid' is the law's where the arguments, and the package variables that the reading takes, are together of bulk at most 1048576: NARROWER than '..Said'. Prove '..Said' where nothing that the law and all that it calls make is longer than what came in: it says more and counts as full. Else prove '..UptoSaid'. A law counts once. -/
mutual
def uptoBulk {H : Type} : DataW H → Nat
  | .lit (.string bytes) => bytes.length + 1
  | .lit _ => 1
  | .nil => 1
  | .ptr d => uptoBulk d + 1
  | .slice elems spare => uptoBulkAll elems + uptoBulkAll spare + 1
  | .agg parts => uptoBulkAll parts + 1
  | .iface _ d => uptoBulk d + 1
  | .map entries => uptoBulkEntries entries + 1
  | .held _ => 1
def uptoBulkAll {H : Type} : List (DataW H) → Nat
  | [] => 0
  | d :: r => uptoBulk d + uptoBulkAll r
def uptoBulkEntries {H : Type} : List (Lit × DataW H) → Nat
  | [] => 0
  | x :: r => uptoBulkEntry x + uptoBulkEntries r
def uptoBulkEntry {H : Type} : Lit × DataW H → Nat
  | (.string bytes, d) => bytes.length + uptoBulk d + 1
  | (_, d) => uptoBulk d + 1
 end
def uptoSmall : (H : Type) → List (DataW H) → Bool := fun _ ds => decide (uptoBulkAll ds ≤ 1048576)
def OpenSpec.upto (s : _root_.Go.ChangeSpec) : _root_.Go.OpenSpec := { _root_.Go.OpenSpec.ofChange s with cond := some uptoSmall }

/-- 'laws.FnExactCountCuts', WHERE WHAT IT READS IS OF BULK AT MOST 1048576: true; the input reads as it did. -/
def fnExactCountCutsUptoRow : OpenClaim := { program := "ytchabjmdjpfkfaa", sum := "621021faf453e47908661044530d1bc9b8e60bf705ff3cf9d03b7d48e4d12347", func := "loop.example/g01296/laws.FnExactCountCuts", spec := "fnExactCountCuts", unfollowed := true, recurses := true, apart := false, narrowed := true }
def FnExactCountCutsUptoSaid : Prop := fnExactCountCutsUptoRow.holds Try.pinned (OpenSpec.upto fnExactCountCutsSpec)

/-- 'laws.FnExactCutsBySquares', WHERE WHAT IT READS IS OF BULK AT MOST 1048576: true; the input reads as it did. -/
def fnExactCutsBySquaresUptoRow : OpenClaim := { program := "ytchabjmdjpfkfaa", sum := "621021faf453e47908661044530d1bc9b8e60bf705ff3cf9d03b7d48e4d12347", func := "loop.example/g01296/laws.FnExactCutsBySquares", spec := "fnExactCutsBySquares", unfollowed := true, recurses := true, apart := false, narrowed := true }
def FnExactCutsBySquaresUptoSaid : Prop := fnExactCutsBySquaresUptoRow.holds Try.pinned (OpenSpec.upto fnExactCutsBySquaresSpec)

/-- 'laws.FnExactCutsWithMost', WHERE WHAT IT READS IS OF BULK AT MOST 1048576: true; the input reads as it did. -/
def fnExactCutsWithMostUptoRow : OpenClaim := { program := "ytchabjmdjpfkfaa", sum := "621021faf453e47908661044530d1bc9b8e60bf705ff3cf9d03b7d48e4d12347", func := "loop.example/g01296/laws.FnExactCutsWithMost", spec := "fnExactCutsWithMost", unfollowed := true, recurses := true, apart := false, narrowed := true }
def FnExactCutsWithMostUptoSaid : Prop := fnExactCutsWithMostUptoRow.holds Try.pinned (OpenSpec.upto fnExactCutsWithMostSpec)

/-- 'laws.FnExactMeanOfCuts', WHERE WHAT IT READS IS OF BULK AT MOST 1048576: true; the input reads as it did. -/
def fnExactMeanOfCutsUptoRow : OpenClaim := { program := "ytchabjmdjpfkfaa", sum := "621021faf453e47908661044530d1bc9b8e60bf705ff3cf9d03b7d48e4d12347", func := "loop.example/g01296/laws.FnExactMeanOfCuts", spec := "fnExactMeanOfCuts", unfollowed := true, recurses := true, apart := false, narrowed := true }
def FnExactMeanOfCutsUptoSaid : Prop := fnExactMeanOfCutsUptoRow.holds Try.pinned (OpenSpec.upto fnExactMeanOfCutsSpec)

/-- 'laws.FnExactCountTurned', WHERE WHAT IT READS IS OF BULK AT MOST 1048576: true; the input reads as it did. -/
def fnExactCountTurnedUptoRow : OpenClaim := { program := "ytchabjmdjpfkfaa", sum := "621021faf453e47908661044530d1bc9b8e60bf705ff3cf9d03b7d48e4d12347", func := "loop.example/g01296/laws.FnExactCountTurned", spec := "fnExactCountTurned", unfollowed := true, recurses := true, apart := false, narrowed := true }
def FnExactCountTurnedUptoSaid : Prop := fnExactCountTurnedUptoRow.holds Try.pinned (OpenSpec.upto fnExactCountTurnedSpec)

/-- 'laws.FnExactFirstTurns', WHERE WHAT IT READS IS OF BULK AT MOST 1048576: true; the input reads as it did. -/
def fnExactFirstTurnsUptoRow : OpenClaim := { program := "ytchabjmdjpfkfaa", sum := "621021faf453e47908661044530d1bc9b8e60bf705ff3cf9d03b7d48e4d12347", func := "loop.example/g01296/laws.FnExactFirstTurns", spec := "fnExactFirstTurns", unfollowed := true, recurses := true, apart := false, narrowed := true }
def FnExactFirstTurnsUptoSaid : Prop := fnExactFirstTurnsUptoRow.holds Try.pinned (OpenSpec.upto fnExactFirstTurnsSpec)

/-- 'laws.FnExactSideLists', WHERE WHAT IT READS IS OF BULK AT MOST 1048576: true; the input reads as it did. -/
def fnExactSideListsUptoRow : OpenClaim := { program := "ytchabjmdjpfkfaa", sum := "621021faf453e47908661044530d1bc9b8e60bf705ff3cf9d03b7d48e4d12347", func := "loop.example/g01296/laws.FnExactSideLists", spec := "fnExactSideLists", unfollowed := true, recurses := true, apart := false, narrowed := true }
def FnExactSideListsUptoSaid : Prop := fnExactSideListsUptoRow.holds Try.pinned (OpenSpec.upto fnExactSideListsSpec)

/-- 'laws.FnExactFirstTurn', WHERE WHAT IT READS IS OF BULK AT MOST 1048576: true; the input reads as it did. -/
def fnExactFirstTurnUptoRow : OpenClaim := { program := "ytchabjmdjpfkfaa", sum := "621021faf453e47908661044530d1bc9b8e60bf705ff3cf9d03b7d48e4d12347", func := "loop.example/g01296/laws.FnExactFirstTurn", spec := "fnExactFirstTurn", unfollowed := true, recurses := true, apart := false, narrowed := true }
def FnExactFirstTurnUptoSaid : Prop := fnExactFirstTurnUptoRow.holds Try.pinned (OpenSpec.upto fnExactFirstTurnSpec)

/-- 'laws.FnExactIsDesk', WHERE WHAT IT READS IS OF BULK AT MOST 1048576: true; the input reads as it did. -/
def fnExactIsDeskUptoRow : OpenClaim := { program := "ytchabjmdjpfkfaa", sum := "621021faf453e47908661044530d1bc9b8e60bf705ff3cf9d03b7d48e4d12347", func := "loop.example/g01296/laws.FnExactIsDesk", spec := "fnExactIsDesk", unfollowed := true, recurses := true, apart := false, narrowed := true }
def FnExactIsDeskUptoSaid : Prop := fnExactIsDeskUptoRow.holds Try.pinned (OpenSpec.upto fnExactIsDeskSpec)

/-- 'laws.FnExactFirstCode', WHERE WHAT IT READS IS OF BULK AT MOST 1048576: true; the input reads as it did. -/
def fnExactFirstCodeUptoRow : OpenClaim := { program := "ytchabjmdjpfkfaa", sum := "621021faf453e47908661044530d1bc9b8e60bf705ff3cf9d03b7d48e4d12347", func := "loop.example/g01296/laws.FnExactFirstCode", spec := "fnExactFirstCode", unfollowed := true, recurses := true, apart := false, narrowed := true }
def FnExactFirstCodeUptoSaid : Prop := fnExactFirstCodeUptoRow.holds Try.pinned (OpenSpec.upto fnExactFirstCodeSpec)

end Rows
end Go.Proofs.Ytchabjmdjpfkfaa
