/-
  No cell of these rows narrows 'for every input' (looked for: loops, veiled, ifaces, maps, wideKeys, modest, calm, conditions, laid).
  DERIVED. THE GIVEN ROWS OF THIS SEAT. 12 by the template 'for every input the law returns true; each argument reads behind the call as it read before'; 0 by the template 'total and deterministic' (their statements: YtohajmbgdapnhaaTotals.lean).
  GIVEN WITH THE SEED: the statements are not yours to turn. If you find one false, say at which input.
  Laid BY PROGRAM, IN A SANDBOX (cutbox-rows.mjs): the forced cells as the released guide's own fill.sh prints them over the translation 4b4f6236e5167ab4… (all of the seat's roots in one cut). By AI agents, Wed Nov 11 2026. No macro, syntax, notation, axiom, sorry.
-/
import Derived.Test.YtohajmbgdapnhaaChecked
import GoSem.Claim
import GoSem.ClaimJoined
import GoSem.ClaimMapViews
import Derived.JoinedTies
import Derived.KernelRfl
namespace Go.Proofs.Ytohajmbgdapnhaa
/- THE CELL 'sum', in the pinned program and in every row, IS THE sha256 OF THE DUMP (.gsa) THAT YtohajmbgdapnhaaProg.lean LOADS. Nothing in Lean hashes anything: it is a label: what it is worth is what the hold of that sum in a sandbox is worth. -/
noncomputable def Try.pinned : Pinned := { name := "ytohajmbgdapnhaa", sum := "4b4f6236e5167ab42d76d5c33857f948eeae42506fb239481a5d82c897d299b1", checked := Try.checked }
namespace Rows
def none {H : Type} : Left H := { results := [], args := [] }

/-- 'laws.FnExactAllCuts': WHATEVER THE INPUT: true; the input reads as it did. -/
def fnExactAllCutsSpec : ChangeSpec := { name := "fnExactAllCuts", fn := fun _ => fun
  | [d1, d2] => { results := [.lit (.bool true)], args := [d1, d2] }
  | _ => none }
def fnExactAllCutsRow : OpenClaim := { program := "ytohajmbgdapnhaa", sum := "4b4f6236e5167ab42d76d5c33857f948eeae42506fb239481a5d82c897d299b1", func := "loop.example/g01296/laws.FnExactAllCuts", spec := "fnExactAllCuts", unfollowed := true, recurses := true, plainKeys := false, apart := false }
def FnExactAllCutsSaid : Prop := fnExactAllCutsRow.holds Try.pinned (OpenSpec.ofChange fnExactAllCutsSpec)

/-- ITS FALSE NEIGHBOUR: 'it returns false'. Refute it at one input. -/
def fnExactAllCutsWrong : ChangeSpec := { name := "fnExactAllCuts", fn := fun _ => fun
  | [d1, d2] => { results := [.lit (.bool false)], args := [d1, d2] }
  | _ => none }
def FnExactAllCutsWrongFalsely : Prop := fnExactAllCutsRow.holds Try.pinned (OpenSpec.ofChange fnExactAllCutsWrong)

/-- 'laws.FnExactCutOfRank': WHATEVER THE INPUT: true; the input reads as it did. -/
def fnExactCutOfRankSpec : ChangeSpec := { name := "fnExactCutOfRank", fn := fun _ => fun
  | [d1, d2, d3] => { results := [.lit (.bool true)], args := [d1, d2, d3] }
  | _ => none }
def fnExactCutOfRankRow : OpenClaim := { program := "ytohajmbgdapnhaa", sum := "4b4f6236e5167ab42d76d5c33857f948eeae42506fb239481a5d82c897d299b1", func := "loop.example/g01296/laws.FnExactCutOfRank", spec := "fnExactCutOfRank", unfollowed := true, recurses := true, plainKeys := false, apart := false }
def FnExactCutOfRankSaid : Prop := fnExactCutOfRankRow.holds Try.pinned (OpenSpec.ofChange fnExactCutOfRankSpec)

/-- ITS FALSE NEIGHBOUR: 'it returns false'. Refute it at one input. -/
def fnExactCutOfRankWrong : ChangeSpec := { name := "fnExactCutOfRank", fn := fun _ => fun
  | [d1, d2, d3] => { results := [.lit (.bool false)], args := [d1, d2, d3] }
  | _ => none }
def FnExactCutOfRankWrongFalsely : Prop := fnExactCutOfRankRow.holds Try.pinned (OpenSpec.ofChange fnExactCutOfRankWrong)

/-- 'laws.FnExactRankOfCut': WHATEVER THE INPUT: true; the input reads as it did. -/
def fnExactRankOfCutSpec : ChangeSpec := { name := "fnExactRankOfCut", fn := fun _ => fun
  | [d] => { results := [.lit (.bool true)], args := [d] }
  | _ => none }
def fnExactRankOfCutRow : OpenClaim := { program := "ytohajmbgdapnhaa", sum := "4b4f6236e5167ab42d76d5c33857f948eeae42506fb239481a5d82c897d299b1", func := "loop.example/g01296/laws.FnExactRankOfCut", spec := "fnExactRankOfCut", unfollowed := true, recurses := true, plainKeys := false, apart := false }
def FnExactRankOfCutSaid : Prop := fnExactRankOfCutRow.holds Try.pinned (OpenSpec.ofChange fnExactRankOfCutSpec)

/-- ITS FALSE NEIGHBOUR: 'it returns false'. Refute it at one input. -/
def fnExactRankOfCutWrong : ChangeSpec := { name := "fnExactRankOfCut", fn := fun _ => fun
  | [d] => { results := [.lit (.bool false)], args := [d] }
  | _ => none }
def FnExactRankOfCutWrongFalsely : Prop := fnExactRankOfCutRow.holds Try.pinned (OpenSpec.ofChange fnExactRankOfCutWrong)

/-- 'laws.FnExactCountWithSides': WHATEVER THE INPUT: true; the input reads as it did. -/
def fnExactCountWithSidesSpec : ChangeSpec := { name := "fnExactCountWithSides", fn := fun _ => fun
  | [d1, d2, d3] => { results := [.lit (.bool true)], args := [d1, d2, d3] }
  | _ => none }
def fnExactCountWithSidesRow : OpenClaim := { program := "ytohajmbgdapnhaa", sum := "4b4f6236e5167ab42d76d5c33857f948eeae42506fb239481a5d82c897d299b1", func := "loop.example/g01296/laws.FnExactCountWithSides", spec := "fnExactCountWithSides", unfollowed := true, recurses := true, plainKeys := false, apart := false }
def FnExactCountWithSidesSaid : Prop := fnExactCountWithSidesRow.holds Try.pinned (OpenSpec.ofChange fnExactCountWithSidesSpec)

/-- ITS FALSE NEIGHBOUR: 'it returns false'. Refute it at one input. -/
def fnExactCountWithSidesWrong : ChangeSpec := { name := "fnExactCountWithSides", fn := fun _ => fun
  | [d1, d2, d3] => { results := [.lit (.bool false)], args := [d1, d2, d3] }
  | _ => none }
def FnExactCountWithSidesWrongFalsely : Prop := fnExactCountWithSidesRow.holds Try.pinned (OpenSpec.ofChange fnExactCountWithSidesWrong)

/-- 'laws.FnExactCountSimple': WHATEVER THE INPUT: true; the input reads as it did. -/
def fnExactCountSimpleSpec : ChangeSpec := { name := "fnExactCountSimple", fn := fun _ => fun
  | [d1, d2] => { results := [.lit (.bool true)], args := [d1, d2] }
  | _ => none }
def fnExactCountSimpleRow : OpenClaim := { program := "ytohajmbgdapnhaa", sum := "4b4f6236e5167ab42d76d5c33857f948eeae42506fb239481a5d82c897d299b1", func := "loop.example/g01296/laws.FnExactCountSimple", spec := "fnExactCountSimple", unfollowed := true, recurses := true, plainKeys := false, apart := false }
def FnExactCountSimpleSaid : Prop := fnExactCountSimpleRow.holds Try.pinned (OpenSpec.ofChange fnExactCountSimpleSpec)

/-- ITS FALSE NEIGHBOUR: 'it returns false'. Refute it at one input. -/
def fnExactCountSimpleWrong : ChangeSpec := { name := "fnExactCountSimple", fn := fun _ => fun
  | [d1, d2] => { results := [.lit (.bool false)], args := [d1, d2] }
  | _ => none }
def FnExactCountSimpleWrongFalsely : Prop := fnExactCountSimpleRow.holds Try.pinned (OpenSpec.ofChange fnExactCountSimpleWrong)

/-- 'laws.FnExactCountWithoutCross': WHATEVER THE INPUT: true; the input reads as it did. -/
def fnExactCountWithoutCrossSpec : ChangeSpec := { name := "fnExactCountWithoutCross", fn := fun _ => fun
  | [d1, d2] => { results := [.lit (.bool true)], args := [d1, d2] }
  | _ => none }
def fnExactCountWithoutCrossRow : OpenClaim := { program := "ytohajmbgdapnhaa", sum := "4b4f6236e5167ab42d76d5c33857f948eeae42506fb239481a5d82c897d299b1", func := "loop.example/g01296/laws.FnExactCountWithoutCross", spec := "fnExactCountWithoutCross", unfollowed := true, recurses := true, plainKeys := false, apart := false }
def FnExactCountWithoutCrossSaid : Prop := fnExactCountWithoutCrossRow.holds Try.pinned (OpenSpec.ofChange fnExactCountWithoutCrossSpec)

/-- ITS FALSE NEIGHBOUR: 'it returns false'. Refute it at one input. -/
def fnExactCountWithoutCrossWrong : ChangeSpec := { name := "fnExactCountWithoutCross", fn := fun _ => fun
  | [d1, d2] => { results := [.lit (.bool false)], args := [d1, d2] }
  | _ => none }
def FnExactCountWithoutCrossWrongFalsely : Prop := fnExactCountWithoutCrossRow.holds Try.pinned (OpenSpec.ofChange fnExactCountWithoutCrossWrong)

/-- 'laws.FnExactCountStrips': WHATEVER THE INPUT: true; the input reads as it did. -/
def fnExactCountStripsSpec : ChangeSpec := { name := "fnExactCountStrips", fn := fun _ => fun
  | [d1, d2] => { results := [.lit (.bool true)], args := [d1, d2] }
  | _ => none }
def fnExactCountStripsRow : OpenClaim := { program := "ytohajmbgdapnhaa", sum := "4b4f6236e5167ab42d76d5c33857f948eeae42506fb239481a5d82c897d299b1", func := "loop.example/g01296/laws.FnExactCountStrips", spec := "fnExactCountStrips", unfollowed := true, recurses := true, plainKeys := false, apart := false }
def FnExactCountStripsSaid : Prop := fnExactCountStripsRow.holds Try.pinned (OpenSpec.ofChange fnExactCountStripsSpec)

/-- ITS FALSE NEIGHBOUR: 'it returns false'. Refute it at one input. -/
def fnExactCountStripsWrong : ChangeSpec := { name := "fnExactCountStrips", fn := fun _ => fun
  | [d1, d2] => { results := [.lit (.bool false)], args := [d1, d2] }
  | _ => none }
def FnExactCountStripsWrongFalsely : Prop := fnExactCountStripsRow.holds Try.pinned (OpenSpec.ofChange fnExactCountStripsWrong)

/-- 'laws.FnExactFillSides': WHATEVER THE INPUT: true; the input reads as it did. -/
def fnExactFillSidesSpec : ChangeSpec := { name := "fnExactFillSides", fn := fun _ => fun
  | [d] => { results := [.lit (.bool true)], args := [d] }
  | _ => none }
def fnExactFillSidesRow : OpenClaim := { program := "ytohajmbgdapnhaa", sum := "4b4f6236e5167ab42d76d5c33857f948eeae42506fb239481a5d82c897d299b1", func := "loop.example/g01296/laws.FnExactFillSides", spec := "fnExactFillSides", unfollowed := true, recurses := true, plainKeys := false, apart := false }
def FnExactFillSidesSaid : Prop := fnExactFillSidesRow.holds Try.pinned (OpenSpec.ofChange fnExactFillSidesSpec)

/-- ITS FALSE NEIGHBOUR: 'it returns false'. Refute it at one input. -/
def fnExactFillSidesWrong : ChangeSpec := { name := "fnExactFillSides", fn := fun _ => fun
  | [d] => { results := [.lit (.bool false)], args := [d] }
  | _ => none }
def FnExactFillSidesWrongFalsely : Prop := fnExactFillSidesRow.holds Try.pinned (OpenSpec.ofChange fnExactFillSidesWrong)

/-- 'laws.FnExactCutOfFill': WHATEVER THE INPUT: true; the input reads as it did. -/
def fnExactCutOfFillSpec : ChangeSpec := { name := "fnExactCutOfFill", fn := fun _ => fun
  | [d1, d2] => { results := [.lit (.bool true)], args := [d1, d2] }
  | _ => none }
def fnExactCutOfFillRow : OpenClaim := { program := "ytohajmbgdapnhaa", sum := "4b4f6236e5167ab42d76d5c33857f948eeae42506fb239481a5d82c897d299b1", func := "loop.example/g01296/laws.FnExactCutOfFill", spec := "fnExactCutOfFill", unfollowed := true, recurses := true, plainKeys := false, apart := false }
def FnExactCutOfFillSaid : Prop := fnExactCutOfFillRow.holds Try.pinned (OpenSpec.ofChange fnExactCutOfFillSpec)

/-- ITS FALSE NEIGHBOUR: 'it returns false'. Refute it at one input. -/
def fnExactCutOfFillWrong : ChangeSpec := { name := "fnExactCutOfFill", fn := fun _ => fun
  | [d1, d2] => { results := [.lit (.bool false)], args := [d1, d2] }
  | _ => none }
def FnExactCutOfFillWrongFalsely : Prop := fnExactCutOfFillRow.holds Try.pinned (OpenSpec.ofChange fnExactCutOfFillWrong)

/-- 'laws.FnExactCountWholeStrips': WHATEVER THE INPUT: true; the input reads as it did. -/
def fnExactCountWholeStripsSpec : ChangeSpec := { name := "fnExactCountWholeStrips", fn := fun _ => fun
  | [d1, d2] => { results := [.lit (.bool true)], args := [d1, d2] }
  | _ => none }
def fnExactCountWholeStripsRow : OpenClaim := { program := "ytohajmbgdapnhaa", sum := "4b4f6236e5167ab42d76d5c33857f948eeae42506fb239481a5d82c897d299b1", func := "loop.example/g01296/laws.FnExactCountWholeStrips", spec := "fnExactCountWholeStrips", unfollowed := true, recurses := true, plainKeys := false, apart := false }
def FnExactCountWholeStripsSaid : Prop := fnExactCountWholeStripsRow.holds Try.pinned (OpenSpec.ofChange fnExactCountWholeStripsSpec)

/-- ITS FALSE NEIGHBOUR: 'it returns false'. Refute it at one input. -/
def fnExactCountWholeStripsWrong : ChangeSpec := { name := "fnExactCountWholeStrips", fn := fun _ => fun
  | [d1, d2] => { results := [.lit (.bool false)], args := [d1, d2] }
  | _ => none }
def FnExactCountWholeStripsWrongFalsely : Prop := fnExactCountWholeStripsRow.holds Try.pinned (OpenSpec.ofChange fnExactCountWholeStripsWrong)

/-- 'laws.FnExactIsWholeStrip': WHATEVER THE INPUT: true; the input reads as it did. -/
def fnExactIsWholeStripSpec : ChangeSpec := { name := "fnExactIsWholeStrip", fn := fun _ => fun
  | [d] => { results := [.lit (.bool true)], args := [d] }
  | _ => none }
def fnExactIsWholeStripRow : OpenClaim := { program := "ytohajmbgdapnhaa", sum := "4b4f6236e5167ab42d76d5c33857f948eeae42506fb239481a5d82c897d299b1", func := "loop.example/g01296/laws.FnExactIsWholeStrip", spec := "fnExactIsWholeStrip", unfollowed := true, recurses := true, plainKeys := false, apart := false }
def FnExactIsWholeStripSaid : Prop := fnExactIsWholeStripRow.holds Try.pinned (OpenSpec.ofChange fnExactIsWholeStripSpec)

/-- ITS FALSE NEIGHBOUR: 'it returns false'. Refute it at one input. -/
def fnExactIsWholeStripWrong : ChangeSpec := { name := "fnExactIsWholeStrip", fn := fun _ => fun
  | [d] => { results := [.lit (.bool false)], args := [d] }
  | _ => none }
def FnExactIsWholeStripWrongFalsely : Prop := fnExactIsWholeStripRow.holds Try.pinned (OpenSpec.ofChange fnExactIsWholeStripWrong)

/-- 'laws.FnExactStripsThrough': WHATEVER THE INPUT: true; the input reads as it did. -/
def fnExactStripsThroughSpec : ChangeSpec := { name := "fnExactStripsThrough", fn := fun _ => fun
  | [d1, d2, d3] => { results := [.lit (.bool true)], args := [d1, d2, d3] }
  | _ => none }
def fnExactStripsThroughRow : OpenClaim := { program := "ytohajmbgdapnhaa", sum := "4b4f6236e5167ab42d76d5c33857f948eeae42506fb239481a5d82c897d299b1", func := "loop.example/g01296/laws.FnExactStripsThrough", spec := "fnExactStripsThrough", unfollowed := true, recurses := true, plainKeys := false, apart := false }
def FnExactStripsThroughSaid : Prop := fnExactStripsThroughRow.holds Try.pinned (OpenSpec.ofChange fnExactStripsThroughSpec)

/-- ITS FALSE NEIGHBOUR: 'it returns false'. Refute it at one input. -/
def fnExactStripsThroughWrong : ChangeSpec := { name := "fnExactStripsThrough", fn := fun _ => fun
  | [d1, d2, d3] => { results := [.lit (.bool false)], args := [d1, d2, d3] }
  | _ => none }
def FnExactStripsThroughWrongFalsely : Prop := fnExactStripsThroughRow.holds Try.pinned (OpenSpec.ofChange fnExactStripsThroughWrong)

/- THE SECOND FORM. 'bulk': how many values and letters a reading holds, each counted each time it is reached (what is shared counts as often as it is met; a slice's spare places count too). A statement '..UptoSaid' is the law's where the arguments, and the package variables that the reading takes, are together of bulk at most 1048576: NARROWER than '..Said'. Prove '..Said' where nothing that the law and all that it calls make is longer than what came in: it says more and counts as full. Else prove '..UptoSaid'. A law counts once. -/
mutual
def uptoBulk {H : Type} : DataW H → Nat
  | .lit (.string bytes) => bytes.length + 1
  | .lit _ => 1
  | .nil => 1
  | .ptr d => uptoBulk d + 1
  | .slice elems spare => uptoBulkAll elems + uptoBulkAll spare + 1
  | .agg parts => uptoBulkAll parts + 1
  | .iface _ d => uptoBulk d + 1
  | .map entries => uptoBulkEntries entries + 1
  | .held _ => 1
def uptoBulkAll {H : Type} : List (DataW H) → Nat
  | [] => 0
  | d :: r => uptoBulk d + uptoBulkAll r
def uptoBulkEntries {H : Type} : List (Lit × DataW H) → Nat
  | [] => 0
  | x :: r => uptoBulkEntry x + uptoBulkEntries r
def uptoBulkEntry {H : Type} : Lit × DataW H → Nat
  | (.string bytes, d) => bytes.length + uptoBulk d + 1
  | (_, d) => uptoBulk d + 1
 end
def uptoSmall : (H : Type) → List (DataW H) → Bool := fun _ ds => decide (uptoBulkAll ds ≤ 1048576)
def OpenSpec.upto (s : _root_.Go.ChangeSpec) : _root_.Go.OpenSpec := { _root_.Go.OpenSpec.ofChange s with cond := some uptoSmall }

/-- 'laws.FnExactAllCuts', WHERE WHAT IT READS IS OF BULK AT MOST 1048576: true; the input reads as it did. -/
def fnExactAllCutsUptoRow : OpenClaim := { program := "ytohajmbgdapnhaa", sum := "4b4f6236e5167ab42d76d5c33857f948eeae42506fb239481a5d82c897d299b1", func := "loop.example/g01296/laws.FnExactAllCuts", spec := "fnExactAllCuts", unfollowed := true, recurses := true, plainKeys := false, apart := false, narrowed := true }
def FnExactAllCutsUptoSaid : Prop := fnExactAllCutsUptoRow.holds Try.pinned (OpenSpec.upto fnExactAllCutsSpec)

/-- 'laws.FnExactCutOfRank', WHERE WHAT IT READS IS OF BULK AT MOST 1048576: true; the input reads as it did. -/
def fnExactCutOfRankUptoRow : OpenClaim := { program := "ytohajmbgdapnhaa", sum := "4b4f6236e5167ab42d76d5c33857f948eeae42506fb239481a5d82c897d299b1", func := "loop.example/g01296/laws.FnExactCutOfRank", spec := "fnExactCutOfRank", unfollowed := true, recurses := true, plainKeys := false, apart := false, narrowed := true }
def FnExactCutOfRankUptoSaid : Prop := fnExactCutOfRankUptoRow.holds Try.pinned (OpenSpec.upto fnExactCutOfRankSpec)

/-- 'laws.FnExactRankOfCut', WHERE WHAT IT READS IS OF BULK AT MOST 1048576: true; the input reads as it did. -/
def fnExactRankOfCutUptoRow : OpenClaim := { program := "ytohajmbgdapnhaa", sum := "4b4f6236e5167ab42d76d5c33857f948eeae42506fb239481a5d82c897d299b1", func := "loop.example/g01296/laws.FnExactRankOfCut", spec := "fnExactRankOfCut", unfollowed := true, recurses := true, plainKeys := false, apart := false, narrowed := true }
def FnExactRankOfCutUptoSaid : Prop := fnExactRankOfCutUptoRow.holds Try.pinned (OpenSpec.upto fnExactRankOfCutSpec)

/-- 'laws.FnExactCountWithSides', WHERE WHAT IT READS IS OF BULK AT MOST 1048576: true; the input reads as it did. -/
def fnExactCountWithSidesUptoRow : OpenClaim := { program := "ytohajmbgdapnhaa", sum := "4b4f6236e5167ab42d76d5c33857f948eeae42506fb239481a5d82c897d299b1", func := "loop.example/g01296/laws.FnExactCountWithSides", spec := "fnExactCountWithSides", unfollowed := true, recurses := true, plainKeys := false, apart := false, narrowed := true }
def FnExactCountWithSidesUptoSaid : Prop := fnExactCountWithSidesUptoRow.holds Try.pinned (OpenSpec.upto fnExactCountWithSidesSpec)

/-- 'laws.FnExactCountSimple', WHERE WHAT IT READS IS OF BULK AT MOST 1048576: true; the input reads as it did. -/
def fnExactCountSimpleUptoRow : OpenClaim := { program := "ytohajmbgdapnhaa", sum := "4b4f6236e5167ab42d76d5c33857f948eeae42506fb239481a5d82c897d299b1", func := "loop.example/g01296/laws.FnExactCountSimple", spec := "fnExactCountSimple", unfollowed := true, recurses := true, plainKeys := false, apart := false, narrowed := true }
def FnExactCountSimpleUptoSaid : Prop := fnExactCountSimpleUptoRow.holds Try.pinned (OpenSpec.upto fnExactCountSimpleSpec)

/-- 'laws.FnExactCountWithoutCross', WHERE WHAT IT READS IS OF BULK AT MOST 1048576: true; the input reads as it did. -/
def fnExactCountWithoutCrossUptoRow : OpenClaim := { program := "ytohajmbgdapnhaa", sum := "4b4f6236e5167ab42d76d5c33857f948eeae42506fb239481a5d82c897d299b1", func := "loop.example/g01296/laws.FnExactCountWithoutCross", spec := "fnExactCountWithoutCross", unfollowed := true, recurses := true, plainKeys := false, apart := false, narrowed := true }
def FnExactCountWithoutCrossUptoSaid : Prop := fnExactCountWithoutCrossUptoRow.holds Try.pinned (OpenSpec.upto fnExactCountWithoutCrossSpec)

/-- 'laws.FnExactCountStrips', WHERE WHAT IT READS IS OF BULK AT MOST 1048576: true; the input reads as it did. -/
def fnExactCountStripsUptoRow : OpenClaim := { program := "ytohajmbgdapnhaa", sum := "4b4f6236e5167ab42d76d5c33857f948eeae42506fb239481a5d82c897d299b1", func := "loop.example/g01296/laws.FnExactCountStrips", spec := "fnExactCountStrips", unfollowed := true, recurses := true, plainKeys := false, apart := false, narrowed := true }
def FnExactCountStripsUptoSaid : Prop := fnExactCountStripsUptoRow.holds Try.pinned (OpenSpec.upto fnExactCountStripsSpec)

/-- 'laws.FnExactFillSides', WHERE WHAT IT READS IS OF BULK AT MOST 1048576: true; the input reads as it did. -/
def fnExactFillSidesUptoRow : OpenClaim := { program := "ytohajmbgdapnhaa", sum := "4b4f6236e5167ab42d76d5c33857f948eeae42506fb239481a5d82c897d299b1", func := "loop.example/g01296/laws.FnExactFillSides", spec := "fnExactFillSides", unfollowed := true, recurses := true, plainKeys := false, apart := false, narrowed := true }
def FnExactFillSidesUptoSaid : Prop := fnExactFillSidesUptoRow.holds Try.pinned (OpenSpec.upto fnExactFillSidesSpec)

/-- 'laws.FnExactCutOfFill', WHERE WHAT IT READS IS OF BULK AT MOST 1048576: true; the input reads as it did. -/
def fnExactCutOfFillUptoRow : OpenClaim := { program := "ytohajmbgdapnhaa", sum := "4b4f6236e5167ab42d76d5c33857f948eeae42506fb239481a5d82c897d299b1", func := "loop.example/g01296/laws.FnExactCutOfFill", spec := "fnExactCutOfFill", unfollowed := true, recurses := true, plainKeys := false, apart := false, narrowed := true }
def FnExactCutOfFillUptoSaid : Prop := fnExactCutOfFillUptoRow.holds Try.pinned (OpenSpec.upto fnExactCutOfFillSpec)

/-- 'laws.FnExactCountWholeStrips', WHERE WHAT IT READS IS OF BULK AT MOST 1048576: true; the input reads as it did. -/
def fnExactCountWholeStripsUptoRow : OpenClaim := { program := "ytohajmbgdapnhaa", sum := "4b4f6236e5167ab42d76d5c33857f948eeae42506fb239481a5d82c897d299b1", func := "loop.example/g01296/laws.FnExactCountWholeStrips", spec := "fnExactCountWholeStrips", unfollowed := true, recurses := true, plainKeys := false, apart := false, narrowed := true }
def FnExactCountWholeStripsUptoSaid : Prop := fnExactCountWholeStripsUptoRow.holds Try.pinned (OpenSpec.upto fnExactCountWholeStripsSpec)

/-- 'laws.FnExactIsWholeStrip', WHERE WHAT IT READS IS OF BULK AT MOST 1048576: true; the input reads as it did. -/
def fnExactIsWholeStripUptoRow : OpenClaim := { program := "ytohajmbgdapnhaa", sum := "4b4f6236e5167ab42d76d5c33857f948eeae42506fb239481a5d82c897d299b1", func := "loop.example/g01296/laws.FnExactIsWholeStrip", spec := "fnExactIsWholeStrip", unfollowed := true, recurses := true, plainKeys := false, apart := false, narrowed := true }
def FnExactIsWholeStripUptoSaid : Prop := fnExactIsWholeStripUptoRow.holds Try.pinned (OpenSpec.upto fnExactIsWholeStripSpec)

/-- 'laws.FnExactStripsThrough', WHERE WHAT IT READS IS OF BULK AT MOST 1048576: true; the input reads as it did. -/
def fnExactStripsThroughUptoRow : OpenClaim := { program := "ytohajmbgdapnhaa", sum := "4b4f6236e5167ab42d76d5c33857f948eeae42506fb239481a5d82c897d299b1", func := "loop.example/g01296/laws.FnExactStripsThrough", spec := "fnExactStripsThrough", unfollowed := true, recurses := true, plainKeys := false, apart := false, narrowed := true }
def FnExactStripsThroughUptoSaid : Prop := fnExactStripsThroughUptoRow.holds Try.pinned (OpenSpec.upto fnExactStripsThroughSpec)

end Rows
end Go.Proofs.Ytohajmbgdapnhaa
