/-
  No cell of these rows narrows 'for every input' (looked for: loops, veiled, ifaces, maps, wideKeys, modest, calm, conditions, laid).
  DERIVED. THE GIVEN ROWS OF THIS SEAT. 10 by the template 'for every input the law returns true; each argument reads behind the call as it read before'; 0 by the template 'total and deterministic' (their statements: YtdpbjmdgjhleeaaTotals.lean).
  GIVEN WITH THE SEED: the statements are not yours to turn. If you find one false, say at which input.
  Laid BY PROGRAM, IN A SANDBOX (cutbox-rows.mjs): the forced cells as the released guide's own fill.sh prints them over the translation 94eb8bcf07727b98… (all of the seat's roots in one cut). By AI agents, Wed Nov 11 2026. No macro, syntax, notation, axiom, sorry.
-/
import Derived.Test.YtdpbjmdgjhleeaaChecked
import GoSem.Claim
import GoSem.ClaimJoined
import GoSem.ClaimMapViews
import Derived.JoinedTies
import Derived.KernelRfl
namespace Go.Proofs.Ytdpbjmdgjhleeaa
/- THE CELL 'sum', in the pinned program and in every row, IS THE sha256 OF THE DUMP (.gsa) THAT YtdpbjmdgjhleeaaProg.lean LOADS. Nothing in Lean hashes anything: it is a label: what it is worth is what the hold of that sum in a sandbox is worth. -/
noncomputable def Try.pinned : Pinned := { name := "ytdpbjmdgjhleeaa", sum := "94eb8bcf07727b9859b3aef55da04a87ec5bb9d4101cf85aa4c2951e78e72bc3", checked := Try.checked }
namespace Rows
def none {H : Type} : Left H := { results := [], args := [] }

/-- 'laws.FnExactMirrorCut': WHATEVER THE INPUT: true; the input reads as it did. -/
def fnExactMirrorCutSpec : ChangeSpec := { name := "fnExactMirrorCut", fn := fun _ => fun
  | [d] => { results := [.lit (.bool true)], args := [d] }
  | _ => none }
def fnExactMirrorCutRow : OpenClaim := { program := "ytdpbjmdgjhleeaa", sum := "94eb8bcf07727b9859b3aef55da04a87ec5bb9d4101cf85aa4c2951e78e72bc3", func := "loop.example/g01296/laws.FnExactMirrorCut", spec := "fnExactMirrorCut", unfollowed := true, recurses := true, apart := false }
def FnExactMirrorCutSaid : Prop := fnExactMirrorCutRow.holds Try.pinned (OpenSpec.ofChange fnExactMirrorCutSpec)

/-- ITS FALSE NEIGHBOUR: 'it returns false'. Refute it at one input. -/
def fnExactMirrorCutWrong : ChangeSpec := { name := "fnExactMirrorCut", fn := fun _ => fun
  | [d] => { results := [.lit (.bool false)], args := [d] }
  | _ => none }
def FnExactMirrorCutWrongFalsely : Prop := fnExactMirrorCutRow.holds Try.pinned (OpenSpec.ofChange fnExactMirrorCutWrong)

/-- 'laws.FnExactFirstTurn': WHATEVER THE INPUT: true; the input reads as it did. -/
def fnExactFirstTurnSpec : ChangeSpec := { name := "fnExactFirstTurn", fn := fun _ => fun
  | [d] => { results := [.lit (.bool true)], args := [d] }
  | _ => none }
def fnExactFirstTurnRow : OpenClaim := { program := "ytdpbjmdgjhleeaa", sum := "94eb8bcf07727b9859b3aef55da04a87ec5bb9d4101cf85aa4c2951e78e72bc3", func := "loop.example/g01296/laws.FnExactFirstTurn", spec := "fnExactFirstTurn", unfollowed := true, recurses := true, apart := false }
def FnExactFirstTurnSaid : Prop := fnExactFirstTurnRow.holds Try.pinned (OpenSpec.ofChange fnExactFirstTurnSpec)

/-- ITS FALSE NEIGHBOUR: 'it returns false'. Refute it at one input. -/
def fnExactFirstTurnWrong : ChangeSpec := { name := "fnExactFirstTurn", fn := fun _ => fun
  | [d] => { results := [.lit (.bool false)], args := [d] }
  | _ => none }
def FnExactFirstTurnWrongFalsely : Prop := fnExactFirstTurnRow.holds Try.pinned (OpenSpec.ofChange fnExactFirstTurnWrong)

/-- 'laws.FnExactCountCuts': WHATEVER THE INPUT: true; the input reads as it did. -/
def fnExactCountCutsSpec : ChangeSpec := { name := "fnExactCountCuts", fn := fun _ => fun
  | [d1, d2] => { results := [.lit (.bool true)], args := [d1, d2] }
  | _ => none }
def fnExactCountCutsRow : OpenClaim := { program := "ytdpbjmdgjhleeaa", sum := "94eb8bcf07727b9859b3aef55da04a87ec5bb9d4101cf85aa4c2951e78e72bc3", func := "loop.example/g01296/laws.FnExactCountCuts", spec := "fnExactCountCuts", unfollowed := true, recurses := true, apart := false }
def FnExactCountCutsSaid : Prop := fnExactCountCutsRow.holds Try.pinned (OpenSpec.ofChange fnExactCountCutsSpec)

/-- ITS FALSE NEIGHBOUR: 'it returns false'. Refute it at one input. -/
def fnExactCountCutsWrong : ChangeSpec := { name := "fnExactCountCuts", fn := fun _ => fun
  | [d1, d2] => { results := [.lit (.bool false)], args := [d1, d2] }
  | _ => none }
def FnExactCountCutsWrongFalsely : Prop := fnExactCountCutsRow.holds Try.pinned (OpenSpec.ofChange fnExactCountCutsWrong)

/-- 'laws.FnExactAllCuts': WHATEVER THE INPUT: true; the input reads as it did. -/
def fnExactAllCutsSpec : ChangeSpec := { name := "fnExactAllCuts", fn := fun _ => fun
  | [d1, d2] => { results := [.lit (.bool true)], args := [d1, d2] }
  | _ => none }
def fnExactAllCutsRow : OpenClaim := { program := "ytdpbjmdgjhleeaa", sum := "94eb8bcf07727b9859b3aef55da04a87ec5bb9d4101cf85aa4c2951e78e72bc3", func := "loop.example/g01296/laws.FnExactAllCuts", spec := "fnExactAllCuts", unfollowed := true, recurses := true, apart := false }
def FnExactAllCutsSaid : Prop := fnExactAllCutsRow.holds Try.pinned (OpenSpec.ofChange fnExactAllCutsSpec)

/-- ITS FALSE NEIGHBOUR: 'it returns false'. Refute it at one input. -/
def fnExactAllCutsWrong : ChangeSpec := { name := "fnExactAllCuts", fn := fun _ => fun
  | [d1, d2] => { results := [.lit (.bool false)], args := [d1, d2] }
  | _ => none }
def FnExactAllCutsWrongFalsely : Prop := fnExactAllCutsRow.holds Try.pinned (OpenSpec.ofChange fnExactAllCutsWrong)

/-- 'laws.FnExactRankOfCut': WHATEVER THE INPUT: true; the input reads as it did. -/
def fnExactRankOfCutSpec : ChangeSpec := { name := "fnExactRankOfCut", fn := fun _ => fun
  | [d] => { results := [.lit (.bool true)], args := [d] }
  | _ => none }
def fnExactRankOfCutRow : OpenClaim := { program := "ytdpbjmdgjhleeaa", sum := "94eb8bcf07727b9859b3aef55da04a87ec5bb9d4101cf85aa4c2951e78e72bc3", func := "loop.example/g01296/laws.FnExactRankOfCut", spec := "fnExactRankOfCut", unfollowed := true, recurses := true, apart := false }
def FnExactRankOfCutSaid : Prop := fnExactRankOfCutRow.holds Try.pinned (OpenSpec.ofChange fnExactRankOfCutSpec)

/-- ITS FALSE NEIGHBOUR: 'it returns false'. Refute it at one input. -/
def fnExactRankOfCutWrong : ChangeSpec := { name := "fnExactRankOfCut", fn := fun _ => fun
  | [d] => { results := [.lit (.bool false)], args := [d] }
  | _ => none }
def FnExactRankOfCutWrongFalsely : Prop := fnExactRankOfCutRow.holds Try.pinned (OpenSpec.ofChange fnExactRankOfCutWrong)

/-- 'laws.FnExactCountTurned': WHATEVER THE INPUT: true; the input reads as it did. -/
def fnExactCountTurnedSpec : ChangeSpec := { name := "fnExactCountTurned", fn := fun _ => fun
  | [d1, d2] => { results := [.lit (.bool true)], args := [d1, d2] }
  | _ => none }
def fnExactCountTurnedRow : OpenClaim := { program := "ytdpbjmdgjhleeaa", sum := "94eb8bcf07727b9859b3aef55da04a87ec5bb9d4101cf85aa4c2951e78e72bc3", func := "loop.example/g01296/laws.FnExactCountTurned", spec := "fnExactCountTurned", unfollowed := true, recurses := true, apart := false }
def FnExactCountTurnedSaid : Prop := fnExactCountTurnedRow.holds Try.pinned (OpenSpec.ofChange fnExactCountTurnedSpec)

/-- ITS FALSE NEIGHBOUR: 'it returns false'. Refute it at one input. -/
def fnExactCountTurnedWrong : ChangeSpec := { name := "fnExactCountTurned", fn := fun _ => fun
  | [d1, d2] => { results := [.lit (.bool false)], args := [d1, d2] }
  | _ => none }
def FnExactCountTurnedWrongFalsely : Prop := fnExactCountTurnedRow.holds Try.pinned (OpenSpec.ofChange fnExactCountTurnedWrong)

/-- 'laws.FnExactFirstTurns': WHATEVER THE INPUT: true; the input reads as it did. -/
def fnExactFirstTurnsSpec : ChangeSpec := { name := "fnExactFirstTurns", fn := fun _ => fun
  | [d1, d2] => { results := [.lit (.bool true)], args := [d1, d2] }
  | _ => none }
def fnExactFirstTurnsRow : OpenClaim := { program := "ytdpbjmdgjhleeaa", sum := "94eb8bcf07727b9859b3aef55da04a87ec5bb9d4101cf85aa4c2951e78e72bc3", func := "loop.example/g01296/laws.FnExactFirstTurns", spec := "fnExactFirstTurns", unfollowed := true, recurses := true, apart := false }
def FnExactFirstTurnsSaid : Prop := fnExactFirstTurnsRow.holds Try.pinned (OpenSpec.ofChange fnExactFirstTurnsSpec)

/-- ITS FALSE NEIGHBOUR: 'it returns false'. Refute it at one input. -/
def fnExactFirstTurnsWrong : ChangeSpec := { name := "fnExactFirstTurns", fn := fun _ => fun
  | [d1, d2] => { results := [.lit (.bool false)], args := [d1, d2] }
  | _ => none }
def FnExactFirstTurnsWrongFalsely : Prop := fnExactFirstTurnsRow.holds Try.pinned (OpenSpec.ofChange fnExactFirstTurnsWrong)

/-- 'laws.FnExactCountMirrored': WHATEVER THE INPUT: true; the input reads as it did. -/
def fnExactCountMirroredSpec : ChangeSpec := { name := "fnExactCountMirrored", fn := fun _ => fun
  | [d1, d2] => { results := [.lit (.bool true)], args := [d1, d2] }
  | _ => none }
def fnExactCountMirroredRow : OpenClaim := { program := "ytdpbjmdgjhleeaa", sum := "94eb8bcf07727b9859b3aef55da04a87ec5bb9d4101cf85aa4c2951e78e72bc3", func := "loop.example/g01296/laws.FnExactCountMirrored", spec := "fnExactCountMirrored", unfollowed := true, recurses := true, apart := false }
def FnExactCountMirroredSaid : Prop := fnExactCountMirroredRow.holds Try.pinned (OpenSpec.ofChange fnExactCountMirroredSpec)

/-- ITS FALSE NEIGHBOUR: 'it returns false'. Refute it at one input. -/
def fnExactCountMirroredWrong : ChangeSpec := { name := "fnExactCountMirrored", fn := fun _ => fun
  | [d1, d2] => { results := [.lit (.bool false)], args := [d1, d2] }
  | _ => none }
def FnExactCountMirroredWrongFalsely : Prop := fnExactCountMirroredRow.holds Try.pinned (OpenSpec.ofChange fnExactCountMirroredWrong)

/-- 'laws.FnExactSideLists': WHATEVER THE INPUT: true; the input reads as it did. -/
def fnExactSideListsSpec : ChangeSpec := { name := "fnExactSideLists", fn := fun _ => fun
  | [d1, d2] => { results := [.lit (.bool true)], args := [d1, d2] }
  | _ => none }
def fnExactSideListsRow : OpenClaim := { program := "ytdpbjmdgjhleeaa", sum := "94eb8bcf07727b9859b3aef55da04a87ec5bb9d4101cf85aa4c2951e78e72bc3", func := "loop.example/g01296/laws.FnExactSideLists", spec := "fnExactSideLists", unfollowed := true, recurses := true, apart := false }
def FnExactSideListsSaid : Prop := fnExactSideListsRow.holds Try.pinned (OpenSpec.ofChange fnExactSideListsSpec)

/-- ITS FALSE NEIGHBOUR: 'it returns false'. Refute it at one input. -/
def fnExactSideListsWrong : ChangeSpec := { name := "fnExactSideLists", fn := fun _ => fun
  | [d1, d2] => { results := [.lit (.bool false)], args := [d1, d2] }
  | _ => none }
def FnExactSideListsWrongFalsely : Prop := fnExactSideListsRow.holds Try.pinned (OpenSpec.ofChange fnExactSideListsWrong)

/-- 'laws.FnExactCountWithSides': WHATEVER THE INPUT: true; the input reads as it did. -/
def fnExactCountWithSidesSpec : ChangeSpec := { name := "fnExactCountWithSides", fn := fun _ => fun
  | [d1, d2, d3] => { results := [.lit (.bool true)], args := [d1, d2, d3] }
  | _ => none }
def fnExactCountWithSidesRow : OpenClaim := { program := "ytdpbjmdgjhleeaa", sum := "94eb8bcf07727b9859b3aef55da04a87ec5bb9d4101cf85aa4c2951e78e72bc3", func := "loop.example/g01296/laws.FnExactCountWithSides", spec := "fnExactCountWithSides", unfollowed := true, recurses := true, apart := false }
def FnExactCountWithSidesSaid : Prop := fnExactCountWithSidesRow.holds Try.pinned (OpenSpec.ofChange fnExactCountWithSidesSpec)

/-- ITS FALSE NEIGHBOUR: 'it returns false'. Refute it at one input. -/
def fnExactCountWithSidesWrong : ChangeSpec := { name := "fnExactCountWithSides", fn := fun _ => fun
  | [d1, d2, d3] => { results := [.lit (.bool false)], args := [d1, d2, d3] }
  | _ => none }
def FnExactCountWithSidesWrongFalsely : Prop := fnExactCountWithSidesRow.holds Try.pinned (OpenSpec.ofChange fnExactCountWithSidesWrong)

/- THE SECOND FORM. 'bulk': how many values and letters a reading holds, each counted each time it is reached (what is shared counts as often as it is met; a slice's spare places count too). A statement '..UptoSaid' is the law's where the arguments, and the package variables that the reading takes, are together of bulk at most 1048576: NARROWER than '..Said'. Prove '..Said' where nothing that the law and all that it calls make is longer than what came in: it says more and counts as full. Else prove '..UptoSaid'. A law counts once. -/
mutual
def uptoBulk {H : Type} : DataW H → Nat
  | .lit (.string bytes) => bytes.length + 1
  | .lit _ => 1
  | .nil => 1
  | .ptr d => uptoBulk d + 1
  | .slice elems spare => uptoBulkAll elems + uptoBulkAll spare + 1
  | .agg parts => uptoBulkAll parts + 1
  | .iface _ d => uptoBulk d + 1
  | .map entries => uptoBulkEntries entries + 1
  | .held _ => 1
def uptoBulkAll {H : Type} : List (DataW H) → Nat
  | [] => 0
  | d :: r => uptoBulk d + uptoBulkAll r
def uptoBulkEntries {H : Type} : List (Lit × DataW H) → Nat
  | [] => 0
  | x :: r => uptoBulkEntry x + uptoBulkEntries r
def uptoBulkEntry {H : Type} : Lit × DataW H → Nat
  | (.string bytes, d) => bytes.length + uptoBulk d + 1
  | (_, d) => uptoBulk d + 1
 end
def uptoSmall : (H : Type) → List (DataW H) → Bool := fun _ ds => decide (uptoBulkAll ds ≤ 1048576)
def OpenSpec.upto (s : _root_.Go.ChangeSpec) : _root_.Go.OpenSpec := { _root_.Go.OpenSpec.ofChange s with cond := some uptoSmall }

/-- 'laws.FnExactMirrorCut', WHERE WHAT IT READS IS OF BULK AT MOST 1048576: true; the input reads as it did. -/
def fnExactMirrorCutUptoRow : OpenClaim := { program := "ytdpbjmdgjhleeaa", sum := "94eb8bcf07727b9859b3aef55da04a87ec5bb9d4101cf85aa4c2951e78e72bc3", func := "loop.example/g01296/laws.FnExactMirrorCut", spec := "fnExactMirrorCut", unfollowed := true, recurses := true, apart := false, narrowed := true }
def FnExactMirrorCutUptoSaid : Prop := fnExactMirrorCutUptoRow.holds Try.pinned (OpenSpec.upto fnExactMirrorCutSpec)

/-- 'laws.FnExactFirstTurn', WHERE WHAT IT READS IS OF BULK AT MOST 1048576: true; the input reads as it did. -/
def fnExactFirstTurnUptoRow : OpenClaim := { program := "ytdpbjmdgjhleeaa", sum := "94eb8bcf07727b9859b3aef55da04a87ec5bb9d4101cf85aa4c2951e78e72bc3", func := "loop.example/g01296/laws.FnExactFirstTurn", spec := "fnExactFirstTurn", unfollowed := true, recurses := true, apart := false, narrowed := true }
def FnExactFirstTurnUptoSaid : Prop := fnExactFirstTurnUptoRow.holds Try.pinned (OpenSpec.upto fnExactFirstTurnSpec)

/-- 'laws.FnExactCountCuts', WHERE WHAT IT READS IS OF BULK AT MOST 1048576: true; the input reads as it did. -/
def fnExactCountCutsUptoRow : OpenClaim := { program := "ytdpbjmdgjhleeaa", sum := "94eb8bcf07727b9859b3aef55da04a87ec5bb9d4101cf85aa4c2951e78e72bc3", func := "loop.example/g01296/laws.FnExactCountCuts", spec := "fnExactCountCuts", unfollowed := true, recurses := true, apart := false, narrowed := true }
def FnExactCountCutsUptoSaid : Prop := fnExactCountCutsUptoRow.holds Try.pinned (OpenSpec.upto fnExactCountCutsSpec)

/-- 'laws.FnExactAllCuts', WHERE WHAT IT READS IS OF BULK AT MOST 1048576: true; the input reads as it did. -/
def fnExactAllCutsUptoRow : OpenClaim := { program := "ytdpbjmdgjhleeaa", sum := "94eb8bcf07727b9859b3aef55da04a87ec5bb9d4101cf85aa4c2951e78e72bc3", func := "loop.example/g01296/laws.FnExactAllCuts", spec := "fnExactAllCuts", unfollowed := true, recurses := true, apart := false, narrowed := true }
def FnExactAllCutsUptoSaid : Prop := fnExactAllCutsUptoRow.holds Try.pinned (OpenSpec.upto fnExactAllCutsSpec)

/-- 'laws.FnExactRankOfCut', WHERE WHAT IT READS IS OF BULK AT MOST 1048576: true; the input reads as it did. -/
def fnExactRankOfCutUptoRow : OpenClaim := { program := "ytdpbjmdgjhleeaa", sum := "94eb8bcf07727b9859b3aef55da04a87ec5bb9d4101cf85aa4c2951e78e72bc3", func := "loop.example/g01296/laws.FnExactRankOfCut", spec := "fnExactRankOfCut", unfollowed := true, recurses := true, apart := false, narrowed := true }
def FnExactRankOfCutUptoSaid : Prop := fnExactRankOfCutUptoRow.holds Try.pinned (OpenSpec.upto fnExactRankOfCutSpec)

/-- 'laws.FnExactCountTurned', WHERE WHAT IT READS IS OF BULK AT MOST 1048576: true; the input reads as it did. -/
def fnExactCountTurnedUptoRow : OpenClaim := { program := "ytdpbjmdgjhleeaa", sum := "94eb8bcf07727b9859b3aef55da04a87ec5bb9d4101cf85aa4c2951e78e72bc3", func := "loop.example/g01296/laws.FnExactCountTurned", spec := "fnExactCountTurned", unfollowed := true, recurses := true, apart := false, narrowed := true }
def FnExactCountTurnedUptoSaid : Prop := fnExactCountTurnedUptoRow.holds Try.pinned (OpenSpec.upto fnExactCountTurnedSpec)

/-- 'laws.FnExactFirstTurns', WHERE WHAT IT READS IS OF BULK AT MOST 1048576: true; the input reads as it did. -/
def fnExactFirstTurnsUptoRow : OpenClaim := { program := "ytdpbjmdgjhleeaa", sum := "94eb8bcf07727b9859b3aef55da04a87ec5bb9d4101cf85aa4c2951e78e72bc3", func := "loop.example/g01296/laws.FnExactFirstTurns", spec := "fnExactFirstTurns", unfollowed := true, recurses := true, apart := false, narrowed := true }
def FnExactFirstTurnsUptoSaid : Prop := fnExactFirstTurnsUptoRow.holds Try.pinned (OpenSpec.upto fnExactFirstTurnsSpec)

/-- 'laws.FnExactCountMirrored', WHERE WHAT IT READS IS OF BULK AT MOST 1048576: true; the input reads as it did. -/
def fnExactCountMirroredUptoRow : OpenClaim := { program := "ytdpbjmdgjhleeaa", sum := "94eb8bcf07727b9859b3aef55da04a87ec5bb9d4101cf85aa4c2951e78e72bc3", func := "loop.example/g01296/laws.FnExactCountMirrored", spec := "fnExactCountMirrored", unfollowed := true, recurses := true, apart := false, narrowed := true }
def FnExactCountMirroredUptoSaid : Prop := fnExactCountMirroredUptoRow.holds Try.pinned (OpenSpec.upto fnExactCountMirroredSpec)

/-- 'laws.FnExactSideLists', WHERE WHAT IT READS IS OF BULK AT MOST 1048576: true; the input reads as it did. -/
def fnExactSideListsUptoRow : OpenClaim := { program := "ytdpbjmdgjhleeaa", sum := "94eb8bcf07727b9859b3aef55da04a87ec5bb9d4101cf85aa4c2951e78e72bc3", func := "loop.example/g01296/laws.FnExactSideLists", spec := "fnExactSideLists", unfollowed := true, recurses := true, apart := false, narrowed := true }
def FnExactSideListsUptoSaid : Prop := fnExactSideListsUptoRow.holds Try.pinned (OpenSpec.upto fnExactSideListsSpec)

/-- 'laws.FnExactCountWithSides', WHERE WHAT IT READS IS OF BULK AT MOST 1048576: true; the input reads as it did. -/
def fnExactCountWithSidesUptoRow : OpenClaim := { program := "ytdpbjmdgjhleeaa", sum := "94eb8bcf07727b9859b3aef55da04a87ec5bb9d4101cf85aa4c2951e78e72bc3", func := "loop.example/g01296/laws.FnExactCountWithSides", spec := "fnExactCountWithSides", unfollowed := true, recurses := true, apart := false, narrowed := true }
def FnExactCountWithSidesUptoSaid : Prop := fnExactCountWithSidesUptoRow.holds Try.pinned (OpenSpec.upto fnExactCountWithSidesSpec)

end Rows
end Go.Proofs.Ytdpbjmdgjhleeaa
