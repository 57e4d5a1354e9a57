/-
  No cell of these rows narrows 'for every input' (looked for: loops, veiled, ifaces, maps, wideKeys, modest, calm, conditions, laid).
  DERIVED. THE GIVEN ROWS OF THIS SEAT. 11 by the template 'for every input the law returns true; each argument reads behind the call as it read before'; 0 by the template 'total and deterministic' (their statements: YtgnlnooeapoekaaTotals.lean).
  GIVEN WITH THE SEED: the statements are not yours to turn. If you find one false, say at which input.
  Laid BY PROGRAM, IN A SANDBOX (cutbox-rows.mjs): the forced cells as the released guide's own fill.sh prints them over the translation 23f58c601f598776… (all of the seat's roots in one cut). By AI agents, Wed Nov 11 2026. No macro, syntax, notation, axiom, sorry.
-/
import Derived.Test.YtgnlnooeapoekaaChecked
import GoSem.Claim
import GoSem.ClaimJoined
import GoSem.ClaimMapViews
import Derived.JoinedTies
import Derived.KernelRfl
namespace Go.Proofs.Ytgnlnooeapoekaa
/- THE CELL 'sum', in the pinned program and in every row, IS THE sha256 OF THE DUMP (.gsa) THAT YtgnlnooeapoekaaProg.lean LOADS. Nothing in Lean hashes anything: it is a label: what it is worth is what the hold of that sum in a sandbox is worth. -/
noncomputable def Try.pinned : Pinned := { name := "ytgnlnooeapoekaa", sum := "23f58c601f598776c3004a95a1001378ebd34bedfab33657152f31ce0a3433cd", checked := Try.checked }
namespace Rows
def none {H : Type} : Left H := { results := [], args := [] }

/-- 'laws.FnExactLongestLine': WHATEVER THE INPUT: true; the input reads as it did. -/
def fnExactLongestLineSpec : ChangeSpec := { name := "fnExactLongestLine", fn := fun _ => fun
  | [d] => { results := [.lit (.bool true)], args := [d] }
  | _ => none }
def fnExactLongestLineRow : OpenClaim := { program := "ytgnlnooeapoekaa", sum := "23f58c601f598776c3004a95a1001378ebd34bedfab33657152f31ce0a3433cd", func := "loop.example/g01296/laws.FnExactLongestLine", spec := "fnExactLongestLine", unfollowed := true, recurses := true, apart := false }
def FnExactLongestLineSaid : Prop := fnExactLongestLineRow.holds Try.pinned (OpenSpec.ofChange fnExactLongestLineSpec)

/-- ITS FALSE NEIGHBOUR: 'it returns false'. Refute it at one input. -/
def fnExactLongestLineWrong : ChangeSpec := { name := "fnExactLongestLine", fn := fun _ => fun
  | [d] => { results := [.lit (.bool false)], args := [d] }
  | _ => none }
def FnExactLongestLineWrongFalsely : Prop := fnExactLongestLineRow.holds Try.pinned (OpenSpec.ofChange fnExactLongestLineWrong)

/-- 'laws.FnExactFirstTurn': WHATEVER THE INPUT: true; the input reads as it did. -/
def fnExactFirstTurnSpec : ChangeSpec := { name := "fnExactFirstTurn", fn := fun _ => fun
  | [d] => { results := [.lit (.bool true)], args := [d] }
  | _ => none }
def fnExactFirstTurnRow : OpenClaim := { program := "ytgnlnooeapoekaa", sum := "23f58c601f598776c3004a95a1001378ebd34bedfab33657152f31ce0a3433cd", func := "loop.example/g01296/laws.FnExactFirstTurn", spec := "fnExactFirstTurn", unfollowed := true, recurses := true, apart := false }
def FnExactFirstTurnSaid : Prop := fnExactFirstTurnRow.holds Try.pinned (OpenSpec.ofChange fnExactFirstTurnSpec)

/-- ITS FALSE NEIGHBOUR: 'it returns false'. Refute it at one input. -/
def fnExactFirstTurnWrong : ChangeSpec := { name := "fnExactFirstTurn", fn := fun _ => fun
  | [d] => { results := [.lit (.bool false)], args := [d] }
  | _ => none }
def FnExactFirstTurnWrongFalsely : Prop := fnExactFirstTurnRow.holds Try.pinned (OpenSpec.ofChange fnExactFirstTurnWrong)

/-- 'laws.FnExactFirstCode': WHATEVER THE INPUT: true; the input reads as it did. -/
def fnExactFirstCodeSpec : ChangeSpec := { name := "fnExactFirstCode", fn := fun _ => fun
  | [d] => { results := [.lit (.bool true)], args := [d] }
  | _ => none }
def fnExactFirstCodeRow : OpenClaim := { program := "ytgnlnooeapoekaa", sum := "23f58c601f598776c3004a95a1001378ebd34bedfab33657152f31ce0a3433cd", func := "loop.example/g01296/laws.FnExactFirstCode", spec := "fnExactFirstCode", unfollowed := true, recurses := true, apart := false }
def FnExactFirstCodeSaid : Prop := fnExactFirstCodeRow.holds Try.pinned (OpenSpec.ofChange fnExactFirstCodeSpec)

/-- ITS FALSE NEIGHBOUR: 'it returns false'. Refute it at one input. -/
def fnExactFirstCodeWrong : ChangeSpec := { name := "fnExactFirstCode", fn := fun _ => fun
  | [d] => { results := [.lit (.bool false)], args := [d] }
  | _ => none }
def FnExactFirstCodeWrongFalsely : Prop := fnExactFirstCodeRow.holds Try.pinned (OpenSpec.ofChange fnExactFirstCodeWrong)

/-- 'laws.FnExactLinesOf': WHATEVER THE INPUT: true; the input reads as it did. -/
def fnExactLinesOfSpec : ChangeSpec := { name := "fnExactLinesOf", fn := fun _ => fun
  | [d] => { results := [.lit (.bool true)], args := [d] }
  | _ => none }
def fnExactLinesOfRow : OpenClaim := { program := "ytgnlnooeapoekaa", sum := "23f58c601f598776c3004a95a1001378ebd34bedfab33657152f31ce0a3433cd", func := "loop.example/g01296/laws.FnExactLinesOf", spec := "fnExactLinesOf", unfollowed := true, recurses := true, apart := false }
def FnExactLinesOfSaid : Prop := fnExactLinesOfRow.holds Try.pinned (OpenSpec.ofChange fnExactLinesOfSpec)

/-- ITS FALSE NEIGHBOUR: 'it returns false'. Refute it at one input. -/
def fnExactLinesOfWrong : ChangeSpec := { name := "fnExactLinesOf", fn := fun _ => fun
  | [d] => { results := [.lit (.bool false)], args := [d] }
  | _ => none }
def FnExactLinesOfWrongFalsely : Prop := fnExactLinesOfRow.holds Try.pinned (OpenSpec.ofChange fnExactLinesOfWrong)

/-- 'laws.FnExactNetOfCut': WHATEVER THE INPUT: true; the input reads as it did. -/
def fnExactNetOfCutSpec : ChangeSpec := { name := "fnExactNetOfCut", fn := fun _ => fun
  | [d] => { results := [.lit (.bool true)], args := [d] }
  | _ => none }
def fnExactNetOfCutRow : OpenClaim := { program := "ytgnlnooeapoekaa", sum := "23f58c601f598776c3004a95a1001378ebd34bedfab33657152f31ce0a3433cd", func := "loop.example/g01296/laws.FnExactNetOfCut", spec := "fnExactNetOfCut", unfollowed := true, recurses := true, apart := false }
def FnExactNetOfCutSaid : Prop := fnExactNetOfCutRow.holds Try.pinned (OpenSpec.ofChange fnExactNetOfCutSpec)

/-- ITS FALSE NEIGHBOUR: 'it returns false'. Refute it at one input. -/
def fnExactNetOfCutWrong : ChangeSpec := { name := "fnExactNetOfCut", fn := fun _ => fun
  | [d] => { results := [.lit (.bool false)], args := [d] }
  | _ => none }
def FnExactNetOfCutWrongFalsely : Prop := fnExactNetOfCutRow.holds Try.pinned (OpenSpec.ofChange fnExactNetOfCutWrong)

/-- 'laws.FnExactTreesOf': WHATEVER THE INPUT: true; the input reads as it did. -/
def fnExactTreesOfSpec : ChangeSpec := { name := "fnExactTreesOf", fn := fun _ => fun
  | [d] => { results := [.lit (.bool true)], args := [d] }
  | _ => none }
def fnExactTreesOfRow : OpenClaim := { program := "ytgnlnooeapoekaa", sum := "23f58c601f598776c3004a95a1001378ebd34bedfab33657152f31ce0a3433cd", func := "loop.example/g01296/laws.FnExactTreesOf", spec := "fnExactTreesOf", unfollowed := true, recurses := true, apart := false }
def FnExactTreesOfSaid : Prop := fnExactTreesOfRow.holds Try.pinned (OpenSpec.ofChange fnExactTreesOfSpec)

/-- ITS FALSE NEIGHBOUR: 'it returns false'. Refute it at one input. -/
def fnExactTreesOfWrong : ChangeSpec := { name := "fnExactTreesOf", fn := fun _ => fun
  | [d] => { results := [.lit (.bool false)], args := [d] }
  | _ => none }
def FnExactTreesOfWrongFalsely : Prop := fnExactTreesOfRow.holds Try.pinned (OpenSpec.ofChange fnExactTreesOfWrong)

/-- 'laws.FnExactJoinedTrees': WHATEVER THE INPUT: true; the input reads as it did. -/
def fnExactJoinedTreesSpec : ChangeSpec := { name := "fnExactJoinedTrees", fn := fun _ => fun
  | [d] => { results := [.lit (.bool true)], args := [d] }
  | _ => none }
def fnExactJoinedTreesRow : OpenClaim := { program := "ytgnlnooeapoekaa", sum := "23f58c601f598776c3004a95a1001378ebd34bedfab33657152f31ce0a3433cd", func := "loop.example/g01296/laws.FnExactJoinedTrees", spec := "fnExactJoinedTrees", unfollowed := true, recurses := true, apart := false }
def FnExactJoinedTreesSaid : Prop := fnExactJoinedTreesRow.holds Try.pinned (OpenSpec.ofChange fnExactJoinedTreesSpec)

/-- ITS FALSE NEIGHBOUR: 'it returns false'. Refute it at one input. -/
def fnExactJoinedTreesWrong : ChangeSpec := { name := "fnExactJoinedTrees", fn := fun _ => fun
  | [d] => { results := [.lit (.bool false)], args := [d] }
  | _ => none }
def FnExactJoinedTreesWrongFalsely : Prop := fnExactJoinedTreesRow.holds Try.pinned (OpenSpec.ofChange fnExactJoinedTreesWrong)

/-- 'laws.FnExactCurrentsOf': WHATEVER THE INPUT: true; the input reads as it did. -/
def fnExactCurrentsOfSpec : ChangeSpec := { name := "fnExactCurrentsOf", fn := fun _ => fun
  | [d] => { results := [.lit (.bool true)], args := [d] }
  | _ => none }
def fnExactCurrentsOfRow : OpenClaim := { program := "ytgnlnooeapoekaa", sum := "23f58c601f598776c3004a95a1001378ebd34bedfab33657152f31ce0a3433cd", func := "loop.example/g01296/laws.FnExactCurrentsOf", spec := "fnExactCurrentsOf", inPlace := ["math.Float64bits", "math.Float64frombits"], unfollowed := true, recurses := true, apart := false }
def FnExactCurrentsOfSaid : Prop := fnExactCurrentsOfRow.holds Try.pinned (OpenSpec.ofChange fnExactCurrentsOfSpec)

/-- ITS FALSE NEIGHBOUR: 'it returns false'. Refute it at one input. -/
def fnExactCurrentsOfWrong : ChangeSpec := { name := "fnExactCurrentsOf", fn := fun _ => fun
  | [d] => { results := [.lit (.bool false)], args := [d] }
  | _ => none }
def FnExactCurrentsOfWrongFalsely : Prop := fnExactCurrentsOfRow.holds Try.pinned (OpenSpec.ofChange fnExactCurrentsOfWrong)

/-- 'laws.FnExactLowCurrents': WHATEVER THE INPUT: true; the input reads as it did. -/
def fnExactLowCurrentsSpec : ChangeSpec := { name := "fnExactLowCurrents", fn := fun _ => fun
  | [d] => { results := [.lit (.bool true)], args := [d] }
  | _ => none }
def fnExactLowCurrentsRow : OpenClaim := { program := "ytgnlnooeapoekaa", sum := "23f58c601f598776c3004a95a1001378ebd34bedfab33657152f31ce0a3433cd", func := "loop.example/g01296/laws.FnExactLowCurrents", spec := "fnExactLowCurrents", inPlace := ["math.Float64bits", "math.Float64frombits"], unfollowed := true, recurses := true, apart := false }
def FnExactLowCurrentsSaid : Prop := fnExactLowCurrentsRow.holds Try.pinned (OpenSpec.ofChange fnExactLowCurrentsSpec)

/-- ITS FALSE NEIGHBOUR: 'it returns false'. Refute it at one input. -/
def fnExactLowCurrentsWrong : ChangeSpec := { name := "fnExactLowCurrents", fn := fun _ => fun
  | [d] => { results := [.lit (.bool false)], args := [d] }
  | _ => none }
def FnExactLowCurrentsWrongFalsely : Prop := fnExactLowCurrentsRow.holds Try.pinned (OpenSpec.ofChange fnExactLowCurrentsWrong)

/-- 'laws.FnExactRatioOfNet': WHATEVER THE INPUT: true; the input reads as it did. -/
def fnExactRatioOfNetSpec : ChangeSpec := { name := "fnExactRatioOfNet", fn := fun _ => fun
  | [d] => { results := [.lit (.bool true)], args := [d] }
  | _ => none }
def fnExactRatioOfNetRow : OpenClaim := { program := "ytgnlnooeapoekaa", sum := "23f58c601f598776c3004a95a1001378ebd34bedfab33657152f31ce0a3433cd", func := "loop.example/g01296/laws.FnExactRatioOfNet", spec := "fnExactRatioOfNet", unfollowed := true, recurses := true, apart := false }
def FnExactRatioOfNetSaid : Prop := fnExactRatioOfNetRow.holds Try.pinned (OpenSpec.ofChange fnExactRatioOfNetSpec)

/-- ITS FALSE NEIGHBOUR: 'it returns false'. Refute it at one input. -/
def fnExactRatioOfNetWrong : ChangeSpec := { name := "fnExactRatioOfNet", fn := fun _ => fun
  | [d] => { results := [.lit (.bool false)], args := [d] }
  | _ => none }
def FnExactRatioOfNetWrongFalsely : Prop := fnExactRatioOfNetRow.holds Try.pinned (OpenSpec.ofChange fnExactRatioOfNetWrong)

/-- 'laws.FnExactPotentialsOf': WHATEVER THE INPUT: true; the input reads as it did. -/
def fnExactPotentialsOfSpec : ChangeSpec := { name := "fnExactPotentialsOf", fn := fun _ => fun
  | [d] => { results := [.lit (.bool true)], args := [d] }
  | _ => none }
def fnExactPotentialsOfRow : OpenClaim := { program := "ytgnlnooeapoekaa", sum := "23f58c601f598776c3004a95a1001378ebd34bedfab33657152f31ce0a3433cd", func := "loop.example/g01296/laws.FnExactPotentialsOf", spec := "fnExactPotentialsOf", inPlace := ["math.Float64bits", "math.Float64frombits"], unfollowed := true, recurses := true, apart := false }
def FnExactPotentialsOfSaid : Prop := fnExactPotentialsOfRow.holds Try.pinned (OpenSpec.ofChange fnExactPotentialsOfSpec)

/-- ITS FALSE NEIGHBOUR: 'it returns false'. Refute it at one input. -/
def fnExactPotentialsOfWrong : ChangeSpec := { name := "fnExactPotentialsOf", fn := fun _ => fun
  | [d] => { results := [.lit (.bool false)], args := [d] }
  | _ => none }
def FnExactPotentialsOfWrongFalsely : Prop := fnExactPotentialsOfRow.holds Try.pinned (OpenSpec.ofChange fnExactPotentialsOfWrong)

/- THE SECOND FORM. 'bulk': how many values and letters a reading holds, each counted each time it is reached (what is shared counts as often as it is met; a slice's spare places count too). A statement '..UptoSaid' is the law's where the arguments, and the package variables that the reading takes, are together of bulk at most 1048576: NARROWER than '..Said'. Prove '..Said' where nothing that the law and all that it calls make is longer than what came in: it says more and counts as full. Else prove '..UptoSaid'. A law counts once. -/
mutual
def uptoBulk {H : Type} : DataW H → Nat
  | .lit (.string bytes) => bytes.length + 1
  | .lit _ => 1
  | .nil => 1
  | .ptr d => uptoBulk d + 1
  | .slice elems spare => uptoBulkAll elems + uptoBulkAll spare + 1
  | .agg parts => uptoBulkAll parts + 1
  | .iface _ d => uptoBulk d + 1
  | .map entries => uptoBulkEntries entries + 1
  | .held _ => 1
def uptoBulkAll {H : Type} : List (DataW H) → Nat
  | [] => 0
  | d :: r => uptoBulk d + uptoBulkAll r
def uptoBulkEntries {H : Type} : List (Lit × DataW H) → Nat
  | [] => 0
  | x :: r => uptoBulkEntry x + uptoBulkEntries r
def uptoBulkEntry {H : Type} : Lit × DataW H → Nat
  | (.string bytes, d) => bytes.length + uptoBulk d + 1
  | (_, d) => uptoBulk d + 1
 end
def uptoSmall : (H : Type) → List (DataW H) → Bool := fun _ ds => decide (uptoBulkAll ds ≤ 1048576)
def OpenSpec.upto (s : _root_.Go.ChangeSpec) : _root_.Go.OpenSpec := { _root_.Go.OpenSpec.ofChange s with cond := some uptoSmall }

/-- 'laws.FnExactLongestLine', WHERE WHAT IT READS IS OF BULK AT MOST 1048576: true; the input reads as it did. -/
def fnExactLongestLineUptoRow : OpenClaim := { program := "ytgnlnooeapoekaa", sum := "23f58c601f598776c3004a95a1001378ebd34bedfab33657152f31ce0a3433cd", func := "loop.example/g01296/laws.FnExactLongestLine", spec := "fnExactLongestLine", unfollowed := true, recurses := true, apart := false, narrowed := true }
def FnExactLongestLineUptoSaid : Prop := fnExactLongestLineUptoRow.holds Try.pinned (OpenSpec.upto fnExactLongestLineSpec)

/-- 'laws.FnExactFirstTurn', WHERE WHAT IT READS IS OF BULK AT MOST 1048576: true; the input reads as it did. -/
def fnExactFirstTurnUptoRow : OpenClaim := { program := "ytgnlnooeapoekaa", sum := "23f58c601f598776c3004a95a1001378ebd34bedfab33657152f31ce0a3433cd", func := "loop.example/g01296/laws.FnExactFirstTurn", spec := "fnExactFirstTurn", unfollowed := true, recurses := true, apart := false, narrowed := true }
def FnExactFirstTurnUptoSaid : Prop := fnExactFirstTurnUptoRow.holds Try.pinned (OpenSpec.upto fnExactFirstTurnSpec)

/-- 'laws.FnExactFirstCode', WHERE WHAT IT READS IS OF BULK AT MOST 1048576: true; the input reads as it did. -/
def fnExactFirstCodeUptoRow : OpenClaim := { program := "ytgnlnooeapoekaa", sum := "23f58c601f598776c3004a95a1001378ebd34bedfab33657152f31ce0a3433cd", func := "loop.example/g01296/laws.FnExactFirstCode", spec := "fnExactFirstCode", unfollowed := true, recurses := true, apart := false, narrowed := true }
def FnExactFirstCodeUptoSaid : Prop := fnExactFirstCodeUptoRow.holds Try.pinned (OpenSpec.upto fnExactFirstCodeSpec)

/-- 'laws.FnExactLinesOf', WHERE WHAT IT READS IS OF BULK AT MOST 1048576: true; the input reads as it did. -/
def fnExactLinesOfUptoRow : OpenClaim := { program := "ytgnlnooeapoekaa", sum := "23f58c601f598776c3004a95a1001378ebd34bedfab33657152f31ce0a3433cd", func := "loop.example/g01296/laws.FnExactLinesOf", spec := "fnExactLinesOf", unfollowed := true, recurses := true, apart := false, narrowed := true }
def FnExactLinesOfUptoSaid : Prop := fnExactLinesOfUptoRow.holds Try.pinned (OpenSpec.upto fnExactLinesOfSpec)

/-- 'laws.FnExactNetOfCut', WHERE WHAT IT READS IS OF BULK AT MOST 1048576: true; the input reads as it did. -/
def fnExactNetOfCutUptoRow : OpenClaim := { program := "ytgnlnooeapoekaa", sum := "23f58c601f598776c3004a95a1001378ebd34bedfab33657152f31ce0a3433cd", func := "loop.example/g01296/laws.FnExactNetOfCut", spec := "fnExactNetOfCut", unfollowed := true, recurses := true, apart := false, narrowed := true }
def FnExactNetOfCutUptoSaid : Prop := fnExactNetOfCutUptoRow.holds Try.pinned (OpenSpec.upto fnExactNetOfCutSpec)

/-- 'laws.FnExactTreesOf', WHERE WHAT IT READS IS OF BULK AT MOST 1048576: true; the input reads as it did. -/
def fnExactTreesOfUptoRow : OpenClaim := { program := "ytgnlnooeapoekaa", sum := "23f58c601f598776c3004a95a1001378ebd34bedfab33657152f31ce0a3433cd", func := "loop.example/g01296/laws.FnExactTreesOf", spec := "fnExactTreesOf", unfollowed := true, recurses := true, apart := false, narrowed := true }
def FnExactTreesOfUptoSaid : Prop := fnExactTreesOfUptoRow.holds Try.pinned (OpenSpec.upto fnExactTreesOfSpec)

/-- 'laws.FnExactJoinedTrees', WHERE WHAT IT READS IS OF BULK AT MOST 1048576: true; the input reads as it did. -/
def fnExactJoinedTreesUptoRow : OpenClaim := { program := "ytgnlnooeapoekaa", sum := "23f58c601f598776c3004a95a1001378ebd34bedfab33657152f31ce0a3433cd", func := "loop.example/g01296/laws.FnExactJoinedTrees", spec := "fnExactJoinedTrees", unfollowed := true, recurses := true, apart := false, narrowed := true }
def FnExactJoinedTreesUptoSaid : Prop := fnExactJoinedTreesUptoRow.holds Try.pinned (OpenSpec.upto fnExactJoinedTreesSpec)

/-- 'laws.FnExactCurrentsOf', WHERE WHAT IT READS IS OF BULK AT MOST 1048576: true; the input reads as it did. -/
def fnExactCurrentsOfUptoRow : OpenClaim := { program := "ytgnlnooeapoekaa", sum := "23f58c601f598776c3004a95a1001378ebd34bedfab33657152f31ce0a3433cd", func := "loop.example/g01296/laws.FnExactCurrentsOf", spec := "fnExactCurrentsOf", inPlace := ["math.Float64bits", "math.Float64frombits"], unfollowed := true, recurses := true, apart := false, narrowed := true }
def FnExactCurrentsOfUptoSaid : Prop := fnExactCurrentsOfUptoRow.holds Try.pinned (OpenSpec.upto fnExactCurrentsOfSpec)

/-- 'laws.FnExactLowCurrents', WHERE WHAT IT READS IS OF BULK AT MOST 1048576: true; the input reads as it did. -/
def fnExactLowCurrentsUptoRow : OpenClaim := { program := "ytgnlnooeapoekaa", sum := "23f58c601f598776c3004a95a1001378ebd34bedfab33657152f31ce0a3433cd", func := "loop.example/g01296/laws.FnExactLowCurrents", spec := "fnExactLowCurrents", inPlace := ["math.Float64bits", "math.Float64frombits"], unfollowed := true, recurses := true, apart := false, narrowed := true }
def FnExactLowCurrentsUptoSaid : Prop := fnExactLowCurrentsUptoRow.holds Try.pinned (OpenSpec.upto fnExactLowCurrentsSpec)

/-- 'laws.FnExactRatioOfNet', WHERE WHAT IT READS IS OF BULK AT MOST 1048576: true; the input reads as it did. -/
def fnExactRatioOfNetUptoRow : OpenClaim := { program := "ytgnlnooeapoekaa", sum := "23f58c601f598776c3004a95a1001378ebd34bedfab33657152f31ce0a3433cd", func := "loop.example/g01296/laws.FnExactRatioOfNet", spec := "fnExactRatioOfNet", unfollowed := true, recurses := true, apart := false, narrowed := true }
def FnExactRatioOfNetUptoSaid : Prop := fnExactRatioOfNetUptoRow.holds Try.pinned (OpenSpec.upto fnExactRatioOfNetSpec)

/-- 'laws.FnExactPotentialsOf', WHERE WHAT IT READS IS OF BULK AT MOST 1048576: true; the input reads as it did. -/
def fnExactPotentialsOfUptoRow : OpenClaim := { program := "ytgnlnooeapoekaa", sum := "23f58c601f598776c3004a95a1001378ebd34bedfab33657152f31ce0a3433cd", func := "loop.example/g01296/laws.FnExactPotentialsOf", spec := "fnExactPotentialsOf", inPlace := ["math.Float64bits", "math.Float64frombits"], unfollowed := true, recurses := true, apart := false, narrowed := true }
def FnExactPotentialsOfUptoSaid : Prop := fnExactPotentialsOfUptoRow.holds Try.pinned (OpenSpec.upto fnExactPotentialsOfSpec)

end Rows
end Go.Proofs.Ytgnlnooeapoekaa
