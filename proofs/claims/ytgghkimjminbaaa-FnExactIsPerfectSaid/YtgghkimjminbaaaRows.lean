/-
  No cell of these rows narrows 'for every input' (looked for: loops, veiled, ifaces, maps, wideKeys, modest, calm, conditions, laid).
  DERIVED. THE GIVEN ROWS OF THIS SEAT. 12 by the template 'for every input the law returns true; each argument reads behind the call as it read before'; 0 by the template 'total and deterministic' (their statements: YtgghkimjminbaaaTotals.lean).
  GIVEN WITH THE SEED: the statements are not yours to turn. If you find one false, say at which input.
  Laid BY PROGRAM, IN A SANDBOX (cutbox-rows.mjs): the forced cells as the released guide's own fill.sh prints them over the translation 0707f246f9010f93… (all of the seat's roots in one cut). By AI agents, Wed Nov 11 2026. No macro, syntax, notation, axiom, sorry.
-/
import Derived.Test.YtgghkimjminbaaaChecked
import GoSem.Claim
import GoSem.ClaimJoined
import GoSem.ClaimMapViews
import Derived.JoinedTies
import Derived.KernelRfl
namespace Go.Proofs.Ytgghkimjminbaaa
/- THE CELL 'sum', in the pinned program and in every row, IS THE sha256 OF THE DUMP (.gsa) THAT YtgghkimjminbaaaProg.lean LOADS. Nothing in Lean hashes anything: it is a label: what it is worth is what the hold of that sum in a sandbox is worth. -/
noncomputable def Try.pinned : Pinned := { name := "ytgghkimjminbaaa", sum := "0707f246f9010f93b3d7e9d3427b9dedf83b13288db19902ffdb8fee31f9032d", checked := Try.checked }
namespace Rows
def none {H : Type} : Left H := { results := [], args := [] }

/-- 'laws.FnCutsFillOfAll': WHATEVER THE INPUT: true; the input reads as it did. -/
def fnCutsFillOfAllSpec : ChangeSpec := { name := "fnCutsFillOfAll", fn := fun _ => fun
  | [d1, d2, d3, d4, d5, d6, d7, d8, d9, d10] => { results := [.lit (.bool true)], args := [d1, d2, d3, d4, d5, d6, d7, d8, d9, d10] }
  | _ => none }
def fnCutsFillOfAllRow : OpenClaim := { program := "ytgghkimjminbaaa", sum := "0707f246f9010f93b3d7e9d3427b9dedf83b13288db19902ffdb8fee31f9032d", func := "loop.example/g01296/laws.FnCutsFillOfAll", spec := "fnCutsFillOfAll", unfollowed := true, recurses := true, apart := false }
def FnCutsFillOfAllSaid : Prop := fnCutsFillOfAllRow.holds Try.pinned (OpenSpec.ofChange fnCutsFillOfAllSpec)

/-- ITS FALSE NEIGHBOUR: 'it returns false'. Refute it at one input. -/
def fnCutsFillOfAllWrong : ChangeSpec := { name := "fnCutsFillOfAll", fn := fun _ => fun
  | [d1, d2, d3, d4, d5, d6, d7, d8, d9, d10] => { results := [.lit (.bool false)], args := [d1, d2, d3, d4, d5, d6, d7, d8, d9, d10] }
  | _ => none }
def FnCutsFillOfAllWrongFalsely : Prop := fnCutsFillOfAllRow.holds Try.pinned (OpenSpec.ofChange fnCutsFillOfAllWrong)

/-- 'laws.FnExactIsCut': WHATEVER THE INPUT: true; the input reads as it did. -/
def fnExactIsCutSpec : ChangeSpec := { name := "fnExactIsCut", fn := fun _ => fun
  | [d] => { results := [.lit (.bool true)], args := [d] }
  | _ => none }
def fnExactIsCutRow : OpenClaim := { program := "ytgghkimjminbaaa", sum := "0707f246f9010f93b3d7e9d3427b9dedf83b13288db19902ffdb8fee31f9032d", func := "loop.example/g01296/laws.FnExactIsCut", spec := "fnExactIsCut", unfollowed := true, recurses := true, apart := false }
def FnExactIsCutSaid : Prop := fnExactIsCutRow.holds Try.pinned (OpenSpec.ofChange fnExactIsCutSpec)

/-- ITS FALSE NEIGHBOUR: 'it returns false'. Refute it at one input. -/
def fnExactIsCutWrong : ChangeSpec := { name := "fnExactIsCut", fn := fun _ => fun
  | [d] => { results := [.lit (.bool false)], args := [d] }
  | _ => none }
def FnExactIsCutWrongFalsely : Prop := fnExactIsCutRow.holds Try.pinned (OpenSpec.ofChange fnExactIsCutWrong)

/-- 'laws.FnExactOneSquare': WHATEVER THE INPUT: true; the input reads as it did. -/
def fnExactOneSquareSpec : ChangeSpec := { name := "fnExactOneSquare", fn := fun _ => fun
  | [d] => { results := [.lit (.bool true)], args := [d] }
  | _ => none }
def fnExactOneSquareRow : OpenClaim := { program := "ytgghkimjminbaaa", sum := "0707f246f9010f93b3d7e9d3427b9dedf83b13288db19902ffdb8fee31f9032d", func := "loop.example/g01296/laws.FnExactOneSquare", spec := "fnExactOneSquare", apart := false }
def FnExactOneSquareSaid : Prop := fnExactOneSquareRow.holds Try.pinned (OpenSpec.ofChange fnExactOneSquareSpec)

/-- ITS FALSE NEIGHBOUR: 'it returns false'. Refute it at one input. -/
def fnExactOneSquareWrong : ChangeSpec := { name := "fnExactOneSquare", fn := fun _ => fun
  | [d] => { results := [.lit (.bool false)], args := [d] }
  | _ => none }
def FnExactOneSquareWrongFalsely : Prop := fnExactOneSquareRow.holds Try.pinned (OpenSpec.ofChange fnExactOneSquareWrong)

/-- 'laws.FnExactCutOf': WHATEVER THE INPUT: true; the input reads as it did. -/
def fnExactCutOfSpec : ChangeSpec := { name := "fnExactCutOf", fn := fun _ => fun
  | [d1, d2, d3] => { results := [.lit (.bool true)], args := [d1, d2, d3] }
  | _ => none }
def fnExactCutOfRow : OpenClaim := { program := "ytgghkimjminbaaa", sum := "0707f246f9010f93b3d7e9d3427b9dedf83b13288db19902ffdb8fee31f9032d", func := "loop.example/g01296/laws.FnExactCutOf", spec := "fnExactCutOf", unfollowed := true, recurses := true, apart := false }
def FnExactCutOfSaid : Prop := fnExactCutOfRow.holds Try.pinned (OpenSpec.ofChange fnExactCutOfSpec)

/-- ITS FALSE NEIGHBOUR: 'it returns false'. Refute it at one input. -/
def fnExactCutOfWrong : ChangeSpec := { name := "fnExactCutOf", fn := fun _ => fun
  | [d1, d2, d3] => { results := [.lit (.bool false)], args := [d1, d2, d3] }
  | _ => none }
def FnExactCutOfWrongFalsely : Prop := fnExactCutOfRow.holds Try.pinned (OpenSpec.ofChange fnExactCutOfWrong)

/-- 'laws.FnExactSidesOf': WHATEVER THE INPUT: true; the input reads as it did. -/
def fnExactSidesOfSpec : ChangeSpec := { name := "fnExactSidesOf", fn := fun _ => fun
  | [d] => { results := [.lit (.bool true)], args := [d] }
  | _ => none }
def fnExactSidesOfRow : OpenClaim := { program := "ytgghkimjminbaaa", sum := "0707f246f9010f93b3d7e9d3427b9dedf83b13288db19902ffdb8fee31f9032d", func := "loop.example/g01296/laws.FnExactSidesOf", spec := "fnExactSidesOf", unfollowed := true, recurses := true, apart := false }
def FnExactSidesOfSaid : Prop := fnExactSidesOfRow.holds Try.pinned (OpenSpec.ofChange fnExactSidesOfSpec)

/-- ITS FALSE NEIGHBOUR: 'it returns false'. Refute it at one input. -/
def fnExactSidesOfWrong : ChangeSpec := { name := "fnExactSidesOf", fn := fun _ => fun
  | [d] => { results := [.lit (.bool false)], args := [d] }
  | _ => none }
def FnExactSidesOfWrongFalsely : Prop := fnExactSidesOfRow.holds Try.pinned (OpenSpec.ofChange fnExactSidesOfWrong)

/-- 'laws.FnExactIsPerfect': WHATEVER THE INPUT: true; the input reads as it did. -/
def fnExactIsPerfectSpec : ChangeSpec := { name := "fnExactIsPerfect", fn := fun _ => fun
  | [d] => { results := [.lit (.bool true)], args := [d] }
  | _ => none }
def fnExactIsPerfectRow : OpenClaim := { program := "ytgghkimjminbaaa", sum := "0707f246f9010f93b3d7e9d3427b9dedf83b13288db19902ffdb8fee31f9032d", func := "loop.example/g01296/laws.FnExactIsPerfect", spec := "fnExactIsPerfect", unfollowed := true, recurses := true, apart := false }
def FnExactIsPerfectSaid : Prop := fnExactIsPerfectRow.holds Try.pinned (OpenSpec.ofChange fnExactIsPerfectSpec)

/-- ITS FALSE NEIGHBOUR: 'it returns false'. Refute it at one input. -/
def fnExactIsPerfectWrong : ChangeSpec := { name := "fnExactIsPerfect", fn := fun _ => fun
  | [d] => { results := [.lit (.bool false)], args := [d] }
  | _ => none }
def FnExactIsPerfectWrongFalsely : Prop := fnExactIsPerfectRow.holds Try.pinned (OpenSpec.ofChange fnExactIsPerfectWrong)

/-- 'laws.FnExactSquareAt': WHATEVER THE INPUT: true; the input reads as it did. -/
def fnExactSquareAtSpec : ChangeSpec := { name := "fnExactSquareAt", fn := fun _ => fun
  | [d1, d2, d3] => { results := [.lit (.bool true)], args := [d1, d2, d3] }
  | _ => none }
def fnExactSquareAtRow : OpenClaim := { program := "ytgghkimjminbaaa", sum := "0707f246f9010f93b3d7e9d3427b9dedf83b13288db19902ffdb8fee31f9032d", func := "loop.example/g01296/laws.FnExactSquareAt", spec := "fnExactSquareAt", unfollowed := true, recurses := true, apart := false }
def FnExactSquareAtSaid : Prop := fnExactSquareAtRow.holds Try.pinned (OpenSpec.ofChange fnExactSquareAtSpec)

/-- ITS FALSE NEIGHBOUR: 'it returns false'. Refute it at one input. -/
def fnExactSquareAtWrong : ChangeSpec := { name := "fnExactSquareAt", fn := fun _ => fun
  | [d1, d2, d3] => { results := [.lit (.bool false)], args := [d1, d2, d3] }
  | _ => none }
def FnExactSquareAtWrongFalsely : Prop := fnExactSquareAtRow.holds Try.pinned (OpenSpec.ofChange fnExactSquareAtWrong)

/-- 'laws.FnExactSquaresBeside': WHATEVER THE INPUT: true; the input reads as it did. -/
def fnExactSquaresBesideSpec : ChangeSpec := { name := "fnExactSquaresBeside", fn := fun _ => fun
  | [d1, d2] => { results := [.lit (.bool true)], args := [d1, d2] }
  | _ => none }
def fnExactSquaresBesideRow : OpenClaim := { program := "ytgghkimjminbaaa", sum := "0707f246f9010f93b3d7e9d3427b9dedf83b13288db19902ffdb8fee31f9032d", func := "loop.example/g01296/laws.FnExactSquaresBeside", spec := "fnExactSquaresBeside", unfollowed := true, recurses := true, apart := false }
def FnExactSquaresBesideSaid : Prop := fnExactSquaresBesideRow.holds Try.pinned (OpenSpec.ofChange fnExactSquaresBesideSpec)

/-- ITS FALSE NEIGHBOUR: 'it returns false'. Refute it at one input. -/
def fnExactSquaresBesideWrong : ChangeSpec := { name := "fnExactSquaresBeside", fn := fun _ => fun
  | [d1, d2] => { results := [.lit (.bool false)], args := [d1, d2] }
  | _ => none }
def FnExactSquaresBesideWrongFalsely : Prop := fnExactSquaresBesideRow.holds Try.pinned (OpenSpec.ofChange fnExactSquaresBesideWrong)

/-- 'laws.FnExactSquaresAtEdges': WHATEVER THE INPUT: true; the input reads as it did. -/
def fnExactSquaresAtEdgesSpec : ChangeSpec := { name := "fnExactSquaresAtEdges", fn := fun _ => fun
  | [d] => { results := [.lit (.bool true)], args := [d] }
  | _ => none }
def fnExactSquaresAtEdgesRow : OpenClaim := { program := "ytgghkimjminbaaa", sum := "0707f246f9010f93b3d7e9d3427b9dedf83b13288db19902ffdb8fee31f9032d", func := "loop.example/g01296/laws.FnExactSquaresAtEdges", spec := "fnExactSquaresAtEdges", unfollowed := true, recurses := true, apart := false }
def FnExactSquaresAtEdgesSaid : Prop := fnExactSquaresAtEdgesRow.holds Try.pinned (OpenSpec.ofChange fnExactSquaresAtEdgesSpec)

/-- ITS FALSE NEIGHBOUR: 'it returns false'. Refute it at one input. -/
def fnExactSquaresAtEdgesWrong : ChangeSpec := { name := "fnExactSquaresAtEdges", fn := fun _ => fun
  | [d] => { results := [.lit (.bool false)], args := [d] }
  | _ => none }
def FnExactSquaresAtEdgesWrongFalsely : Prop := fnExactSquaresAtEdgesRow.holds Try.pinned (OpenSpec.ofChange fnExactSquaresAtEdgesWrong)

/-- 'laws.FnExactLowCut': WHATEVER THE INPUT: true; the input reads as it did. -/
def fnExactLowCutSpec : ChangeSpec := { name := "fnExactLowCut", fn := fun _ => fun
  | [d] => { results := [.lit (.bool true)], args := [d] }
  | _ => none }
def fnExactLowCutRow : OpenClaim := { program := "ytgghkimjminbaaa", sum := "0707f246f9010f93b3d7e9d3427b9dedf83b13288db19902ffdb8fee31f9032d", func := "loop.example/g01296/laws.FnExactLowCut", spec := "fnExactLowCut", unfollowed := true, recurses := true, apart := false }
def FnExactLowCutSaid : Prop := fnExactLowCutRow.holds Try.pinned (OpenSpec.ofChange fnExactLowCutSpec)

/-- ITS FALSE NEIGHBOUR: 'it returns false'. Refute it at one input. -/
def fnExactLowCutWrong : ChangeSpec := { name := "fnExactLowCut", fn := fun _ => fun
  | [d] => { results := [.lit (.bool false)], args := [d] }
  | _ => none }
def FnExactLowCutWrongFalsely : Prop := fnExactLowCutRow.holds Try.pinned (OpenSpec.ofChange fnExactLowCutWrong)

/-- 'laws.FnExactCrossesOf': WHATEVER THE INPUT: true; the input reads as it did. -/
def fnExactCrossesOfSpec : ChangeSpec := { name := "fnExactCrossesOf", fn := fun _ => fun
  | [d] => { results := [.lit (.bool true)], args := [d] }
  | _ => none }
def fnExactCrossesOfRow : OpenClaim := { program := "ytgghkimjminbaaa", sum := "0707f246f9010f93b3d7e9d3427b9dedf83b13288db19902ffdb8fee31f9032d", func := "loop.example/g01296/laws.FnExactCrossesOf", spec := "fnExactCrossesOf", unfollowed := true, recurses := true, apart := false }
def FnExactCrossesOfSaid : Prop := fnExactCrossesOfRow.holds Try.pinned (OpenSpec.ofChange fnExactCrossesOfSpec)

/-- ITS FALSE NEIGHBOUR: 'it returns false'. Refute it at one input. -/
def fnExactCrossesOfWrong : ChangeSpec := { name := "fnExactCrossesOf", fn := fun _ => fun
  | [d] => { results := [.lit (.bool false)], args := [d] }
  | _ => none }
def FnExactCrossesOfWrongFalsely : Prop := fnExactCrossesOfRow.holds Try.pinned (OpenSpec.ofChange fnExactCrossesOfWrong)

/-- 'laws.FnExactLongestLine': WHATEVER THE INPUT: true; the input reads as it did. -/
def fnExactLongestLineSpec : ChangeSpec := { name := "fnExactLongestLine", fn := fun _ => fun
  | [d] => { results := [.lit (.bool true)], args := [d] }
  | _ => none }
def fnExactLongestLineRow : OpenClaim := { program := "ytgghkimjminbaaa", sum := "0707f246f9010f93b3d7e9d3427b9dedf83b13288db19902ffdb8fee31f9032d", func := "loop.example/g01296/laws.FnExactLongestLine", spec := "fnExactLongestLine", unfollowed := true, recurses := true, apart := false }
def FnExactLongestLineSaid : Prop := fnExactLongestLineRow.holds Try.pinned (OpenSpec.ofChange fnExactLongestLineSpec)

/-- ITS FALSE NEIGHBOUR: 'it returns false'. Refute it at one input. -/
def fnExactLongestLineWrong : ChangeSpec := { name := "fnExactLongestLine", fn := fun _ => fun
  | [d] => { results := [.lit (.bool false)], args := [d] }
  | _ => none }
def FnExactLongestLineWrongFalsely : Prop := fnExactLongestLineRow.holds Try.pinned (OpenSpec.ofChange fnExactLongestLineWrong)

/- THE SECOND FORM. 'bulk': how many values and letters a reading holds, each counted each time it is reached (what is shared counts as often as it is met; a slice's spare places count too). A statement '..UptoSaid' is the law's where the arguments, and the package variables that the reading takes, are together of bulk at most 1048576: NARROWER than '..Said'. Prove '..Said' where nothing that the law and all that it calls make is longer than what came in: it says more and counts as full. Else prove '..UptoSaid'. A law counts once. -/
mutual
def uptoBulk {H : Type} : DataW H → Nat
  | .lit (.string bytes) => bytes.length + 1
  | .lit _ => 1
  | .nil => 1
  | .ptr d => uptoBulk d + 1
  | .slice elems spare => uptoBulkAll elems + uptoBulkAll spare + 1
  | .agg parts => uptoBulkAll parts + 1
  | .iface _ d => uptoBulk d + 1
  | .map entries => uptoBulkEntries entries + 1
  | .held _ => 1
def uptoBulkAll {H : Type} : List (DataW H) → Nat
  | [] => 0
  | d :: r => uptoBulk d + uptoBulkAll r
def uptoBulkEntries {H : Type} : List (Lit × DataW H) → Nat
  | [] => 0
  | x :: r => uptoBulkEntry x + uptoBulkEntries r
def uptoBulkEntry {H : Type} : Lit × DataW H → Nat
  | (.string bytes, d) => bytes.length + uptoBulk d + 1
  | (_, d) => uptoBulk d + 1
 end
def uptoSmall : (H : Type) → List (DataW H) → Bool := fun _ ds => decide (uptoBulkAll ds ≤ 1048576)
def OpenSpec.upto (s : _root_.Go.ChangeSpec) : _root_.Go.OpenSpec := { _root_.Go.OpenSpec.ofChange s with cond := some uptoSmall }

/-- 'laws.FnCutsFillOfAll', WHERE WHAT IT READS IS OF BULK AT MOST 1048576: true; the input reads as it did. -/
def fnCutsFillOfAllUptoRow : OpenClaim := { program := "ytgghkimjminbaaa", sum := "0707f246f9010f93b3d7e9d3427b9dedf83b13288db19902ffdb8fee31f9032d", func := "loop.example/g01296/laws.FnCutsFillOfAll", spec := "fnCutsFillOfAll", unfollowed := true, recurses := true, apart := false, narrowed := true }
def FnCutsFillOfAllUptoSaid : Prop := fnCutsFillOfAllUptoRow.holds Try.pinned (OpenSpec.upto fnCutsFillOfAllSpec)

/-- 'laws.FnExactIsCut', WHERE WHAT IT READS IS OF BULK AT MOST 1048576: true; the input reads as it did. -/
def fnExactIsCutUptoRow : OpenClaim := { program := "ytgghkimjminbaaa", sum := "0707f246f9010f93b3d7e9d3427b9dedf83b13288db19902ffdb8fee31f9032d", func := "loop.example/g01296/laws.FnExactIsCut", spec := "fnExactIsCut", unfollowed := true, recurses := true, apart := false, narrowed := true }
def FnExactIsCutUptoSaid : Prop := fnExactIsCutUptoRow.holds Try.pinned (OpenSpec.upto fnExactIsCutSpec)

/-- 'laws.FnExactOneSquare', WHERE WHAT IT READS IS OF BULK AT MOST 1048576: true; the input reads as it did. -/
def fnExactOneSquareUptoRow : OpenClaim := { program := "ytgghkimjminbaaa", sum := "0707f246f9010f93b3d7e9d3427b9dedf83b13288db19902ffdb8fee31f9032d", func := "loop.example/g01296/laws.FnExactOneSquare", spec := "fnExactOneSquare", apart := false, narrowed := true }
def FnExactOneSquareUptoSaid : Prop := fnExactOneSquareUptoRow.holds Try.pinned (OpenSpec.upto fnExactOneSquareSpec)

/-- 'laws.FnExactCutOf', WHERE WHAT IT READS IS OF BULK AT MOST 1048576: true; the input reads as it did. -/
def fnExactCutOfUptoRow : OpenClaim := { program := "ytgghkimjminbaaa", sum := "0707f246f9010f93b3d7e9d3427b9dedf83b13288db19902ffdb8fee31f9032d", func := "loop.example/g01296/laws.FnExactCutOf", spec := "fnExactCutOf", unfollowed := true, recurses := true, apart := false, narrowed := true }
def FnExactCutOfUptoSaid : Prop := fnExactCutOfUptoRow.holds Try.pinned (OpenSpec.upto fnExactCutOfSpec)

/-- 'laws.FnExactSidesOf', WHERE WHAT IT READS IS OF BULK AT MOST 1048576: true; the input reads as it did. -/
def fnExactSidesOfUptoRow : OpenClaim := { program := "ytgghkimjminbaaa", sum := "0707f246f9010f93b3d7e9d3427b9dedf83b13288db19902ffdb8fee31f9032d", func := "loop.example/g01296/laws.FnExactSidesOf", spec := "fnExactSidesOf", unfollowed := true, recurses := true, apart := false, narrowed := true }
def FnExactSidesOfUptoSaid : Prop := fnExactSidesOfUptoRow.holds Try.pinned (OpenSpec.upto fnExactSidesOfSpec)

/-- 'laws.FnExactIsPerfect', WHERE WHAT IT READS IS OF BULK AT MOST 1048576: true; the input reads as it did. -/
def fnExactIsPerfectUptoRow : OpenClaim := { program := "ytgghkimjminbaaa", sum := "0707f246f9010f93b3d7e9d3427b9dedf83b13288db19902ffdb8fee31f9032d", func := "loop.example/g01296/laws.FnExactIsPerfect", spec := "fnExactIsPerfect", unfollowed := true, recurses := true, apart := false, narrowed := true }
def FnExactIsPerfectUptoSaid : Prop := fnExactIsPerfectUptoRow.holds Try.pinned (OpenSpec.upto fnExactIsPerfectSpec)

/-- 'laws.FnExactSquareAt', WHERE WHAT IT READS IS OF BULK AT MOST 1048576: true; the input reads as it did. -/
def fnExactSquareAtUptoRow : OpenClaim := { program := "ytgghkimjminbaaa", sum := "0707f246f9010f93b3d7e9d3427b9dedf83b13288db19902ffdb8fee31f9032d", func := "loop.example/g01296/laws.FnExactSquareAt", spec := "fnExactSquareAt", unfollowed := true, recurses := true, apart := false, narrowed := true }
def FnExactSquareAtUptoSaid : Prop := fnExactSquareAtUptoRow.holds Try.pinned (OpenSpec.upto fnExactSquareAtSpec)

/-- 'laws.FnExactSquaresBeside', WHERE WHAT IT READS IS OF BULK AT MOST 1048576: true; the input reads as it did. -/
def fnExactSquaresBesideUptoRow : OpenClaim := { program := "ytgghkimjminbaaa", sum := "0707f246f9010f93b3d7e9d3427b9dedf83b13288db19902ffdb8fee31f9032d", func := "loop.example/g01296/laws.FnExactSquaresBeside", spec := "fnExactSquaresBeside", unfollowed := true, recurses := true, apart := false, narrowed := true }
def FnExactSquaresBesideUptoSaid : Prop := fnExactSquaresBesideUptoRow.holds Try.pinned (OpenSpec.upto fnExactSquaresBesideSpec)

/-- 'laws.FnExactSquaresAtEdges', WHERE WHAT IT READS IS OF BULK AT MOST 1048576: true; the input reads as it did. -/
def fnExactSquaresAtEdgesUptoRow : OpenClaim := { program := "ytgghkimjminbaaa", sum := "0707f246f9010f93b3d7e9d3427b9dedf83b13288db19902ffdb8fee31f9032d", func := "loop.example/g01296/laws.FnExactSquaresAtEdges", spec := "fnExactSquaresAtEdges", unfollowed := true, recurses := true, apart := false, narrowed := true }
def FnExactSquaresAtEdgesUptoSaid : Prop := fnExactSquaresAtEdgesUptoRow.holds Try.pinned (OpenSpec.upto fnExactSquaresAtEdgesSpec)

/-- 'laws.FnExactLowCut', WHERE WHAT IT READS IS OF BULK AT MOST 1048576: true; the input reads as it did. -/
def fnExactLowCutUptoRow : OpenClaim := { program := "ytgghkimjminbaaa", sum := "0707f246f9010f93b3d7e9d3427b9dedf83b13288db19902ffdb8fee31f9032d", func := "loop.example/g01296/laws.FnExactLowCut", spec := "fnExactLowCut", unfollowed := true, recurses := true, apart := false, narrowed := true }
def FnExactLowCutUptoSaid : Prop := fnExactLowCutUptoRow.holds Try.pinned (OpenSpec.upto fnExactLowCutSpec)

/-- 'laws.FnExactCrossesOf', WHERE WHAT IT READS IS OF BULK AT MOST 1048576: true; the input reads as it did. -/
def fnExactCrossesOfUptoRow : OpenClaim := { program := "ytgghkimjminbaaa", sum := "0707f246f9010f93b3d7e9d3427b9dedf83b13288db19902ffdb8fee31f9032d", func := "loop.example/g01296/laws.FnExactCrossesOf", spec := "fnExactCrossesOf", unfollowed := true, recurses := true, apart := false, narrowed := true }
def FnExactCrossesOfUptoSaid : Prop := fnExactCrossesOfUptoRow.holds Try.pinned (OpenSpec.upto fnExactCrossesOfSpec)

/-- 'laws.FnExactLongestLine', WHERE WHAT IT READS IS OF BULK AT MOST 1048576: true; the input reads as it did. -/
def fnExactLongestLineUptoRow : OpenClaim := { program := "ytgghkimjminbaaa", sum := "0707f246f9010f93b3d7e9d3427b9dedf83b13288db19902ffdb8fee31f9032d", func := "loop.example/g01296/laws.FnExactLongestLine", spec := "fnExactLongestLine", unfollowed := true, recurses := true, apart := false, narrowed := true }
def FnExactLongestLineUptoSaid : Prop := fnExactLongestLineUptoRow.holds Try.pinned (OpenSpec.upto fnExactLongestLineSpec)

end Rows
end Go.Proofs.Ytgghkimjminbaaa
