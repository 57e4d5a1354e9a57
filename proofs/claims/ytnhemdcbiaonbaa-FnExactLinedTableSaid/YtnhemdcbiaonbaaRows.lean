/-
  No cell of these rows narrows 'for every input' (looked for: loops, veiled, ifaces, maps, wideKeys, modest, calm, conditions, laid).
  DERIVED. THE GIVEN ROWS OF THIS SEAT. 10 by the template 'for every input the law returns true; each argument reads behind the call as it read before'; 0 by the template 'total and deterministic' (their statements: YtnhemdcbiaonbaaTotals.lean).
  GIVEN WITH THE SEED: the statements are not yours to turn. If you find one false, say at which input.
  Laid BY PROGRAM, IN A SANDBOX (cutbox-rows.mjs): the forced cells as the released guide's own fill.sh prints them over the translation bbd76d7c33e4e14f… (all of the seat's roots in one cut). By AI agents, Wed Nov 11 2026. No macro, syntax, notation, axiom, sorry.
-/
import Derived.Test.YtnhemdcbiaonbaaChecked
import GoSem.Claim
import GoSem.ClaimJoined
import GoSem.ClaimMapViews
import Derived.JoinedTies
import Derived.KernelRfl
namespace Go.Proofs.Ytnhemdcbiaonbaa
/- THE CELL 'sum', in the pinned program and in every row, IS THE sha256 OF THE DUMP (.gsa) THAT YtnhemdcbiaonbaaProg.lean LOADS. Nothing in Lean hashes anything: it is a label: what it is worth is what the hold of that sum in a sandbox is worth. -/
noncomputable def Try.pinned : Pinned := { name := "ytnhemdcbiaonbaa", sum := "bbd76d7c33e4e14f8e154ab745a78ef3b8864796f9f4115ccef1237c2ce826f4", checked := Try.checked }
namespace Rows
def none {H : Type} : Left H := { results := [], args := [] }

/-- 'laws.FnExactRatioOfQuotients': WHATEVER THE INPUT: true; the input reads as it did. -/
def fnExactRatioOfQuotientsSpec : ChangeSpec := { name := "fnExactRatioOfQuotients", fn := fun _ => fun
  | [d] => { results := [.lit (.bool true)], args := [d] }
  | _ => none }
def fnExactRatioOfQuotientsRow : OpenClaim := { program := "ytnhemdcbiaonbaa", sum := "bbd76d7c33e4e14f8e154ab745a78ef3b8864796f9f4115ccef1237c2ce826f4", func := "loop.example/g01296/laws.FnExactRatioOfQuotients", spec := "fnExactRatioOfQuotients", unfollowed := true, recurses := true, leaving := true, apart := false }
def FnExactRatioOfQuotientsSaid : Prop := fnExactRatioOfQuotientsRow.holds Try.pinned (OpenSpec.ofChange fnExactRatioOfQuotientsSpec)

/-- ITS FALSE NEIGHBOUR: 'it returns false'. Refute it at one input. -/
def fnExactRatioOfQuotientsWrong : ChangeSpec := { name := "fnExactRatioOfQuotients", fn := fun _ => fun
  | [d] => { results := [.lit (.bool false)], args := [d] }
  | _ => none }
def FnExactRatioOfQuotientsWrongFalsely : Prop := fnExactRatioOfQuotientsRow.holds Try.pinned (OpenSpec.ofChange fnExactRatioOfQuotientsWrong)

/-- 'laws.FnExactQuotientsOf': WHATEVER THE INPUT: true; the input reads as it did. -/
def fnExactQuotientsOfSpec : ChangeSpec := { name := "fnExactQuotientsOf", fn := fun _ => fun
  | [d1, d2] => { results := [.lit (.bool true)], args := [d1, d2] }
  | _ => none }
def fnExactQuotientsOfRow : OpenClaim := { program := "ytnhemdcbiaonbaa", sum := "bbd76d7c33e4e14f8e154ab745a78ef3b8864796f9f4115ccef1237c2ce826f4", func := "loop.example/g01296/laws.FnExactQuotientsOf", spec := "fnExactQuotientsOf", leaving := true, apart := false }
def FnExactQuotientsOfSaid : Prop := fnExactQuotientsOfRow.holds Try.pinned (OpenSpec.ofChange fnExactQuotientsOfSpec)

/-- ITS FALSE NEIGHBOUR: 'it returns false'. Refute it at one input. -/
def fnExactQuotientsOfWrong : ChangeSpec := { name := "fnExactQuotientsOf", fn := fun _ => fun
  | [d1, d2] => { results := [.lit (.bool false)], args := [d1, d2] }
  | _ => none }
def FnExactQuotientsOfWrongFalsely : Prop := fnExactQuotientsOfRow.holds Try.pinned (OpenSpec.ofChange fnExactQuotientsOfWrong)

/-- 'laws.FnExactCountGreedy': WHATEVER THE INPUT: true; the input reads as it did. -/
def fnExactCountGreedySpec : ChangeSpec := { name := "fnExactCountGreedy", fn := fun _ => fun
  | [d1, d2] => { results := [.lit (.bool true)], args := [d1, d2] }
  | _ => none }
def fnExactCountGreedyRow : OpenClaim := { program := "ytnhemdcbiaonbaa", sum := "bbd76d7c33e4e14f8e154ab745a78ef3b8864796f9f4115ccef1237c2ce826f4", func := "loop.example/g01296/laws.FnExactCountGreedy", spec := "fnExactCountGreedy", leaving := true, apart := false }
def FnExactCountGreedySaid : Prop := fnExactCountGreedyRow.holds Try.pinned (OpenSpec.ofChange fnExactCountGreedySpec)

/-- ITS FALSE NEIGHBOUR: 'it returns false'. Refute it at one input. -/
def fnExactCountGreedyWrong : ChangeSpec := { name := "fnExactCountGreedy", fn := fun _ => fun
  | [d1, d2] => { results := [.lit (.bool false)], args := [d1, d2] }
  | _ => none }
def FnExactCountGreedyWrongFalsely : Prop := fnExactCountGreedyRow.holds Try.pinned (OpenSpec.ofChange fnExactCountGreedyWrong)

/-- 'laws.FnExactGreedyCut': WHATEVER THE INPUT: true; the input reads as it did. -/
def fnExactGreedyCutSpec : ChangeSpec := { name := "fnExactGreedyCut", fn := fun _ => fun
  | [d1, d2] => { results := [.lit (.bool true)], args := [d1, d2] }
  | _ => none }
def fnExactGreedyCutRow : OpenClaim := { program := "ytnhemdcbiaonbaa", sum := "bbd76d7c33e4e14f8e154ab745a78ef3b8864796f9f4115ccef1237c2ce826f4", func := "loop.example/g01296/laws.FnExactGreedyCut", spec := "fnExactGreedyCut", unfollowed := true, recurses := true, leaving := true, apart := false }
def FnExactGreedyCutSaid : Prop := fnExactGreedyCutRow.holds Try.pinned (OpenSpec.ofChange fnExactGreedyCutSpec)

/-- ITS FALSE NEIGHBOUR: 'it returns false'. Refute it at one input. -/
def fnExactGreedyCutWrong : ChangeSpec := { name := "fnExactGreedyCut", fn := fun _ => fun
  | [d1, d2] => { results := [.lit (.bool false)], args := [d1, d2] }
  | _ => none }
def FnExactGreedyCutWrongFalsely : Prop := fnExactGreedyCutRow.holds Try.pinned (OpenSpec.ofChange fnExactGreedyCutWrong)

/-- 'laws.FnExactIsSquareRatio': WHATEVER THE INPUT: true; the input reads as it did. -/
def fnExactIsSquareRatioSpec : ChangeSpec := { name := "fnExactIsSquareRatio", fn := fun _ => fun
  | [d1, d2, d3] => { results := [.lit (.bool true)], args := [d1, d2, d3] }
  | _ => none }
def fnExactIsSquareRatioRow : OpenClaim := { program := "ytnhemdcbiaonbaa", sum := "bbd76d7c33e4e14f8e154ab745a78ef3b8864796f9f4115ccef1237c2ce826f4", func := "loop.example/g01296/laws.FnExactIsSquareRatio", spec := "fnExactIsSquareRatio", leaving := true, apart := false }
def FnExactIsSquareRatioSaid : Prop := fnExactIsSquareRatioRow.holds Try.pinned (OpenSpec.ofChange fnExactIsSquareRatioSpec)

/-- ITS FALSE NEIGHBOUR: 'it returns false'. Refute it at one input. -/
def fnExactIsSquareRatioWrong : ChangeSpec := { name := "fnExactIsSquareRatio", fn := fun _ => fun
  | [d1, d2, d3] => { results := [.lit (.bool false)], args := [d1, d2, d3] }
  | _ => none }
def FnExactIsSquareRatioWrongFalsely : Prop := fnExactIsSquareRatioRow.holds Try.pinned (OpenSpec.ofChange fnExactIsSquareRatioWrong)

/-- 'laws.FnExactFewestByLines': WHATEVER THE INPUT: true; the input reads as it did. -/
def fnExactFewestByLinesSpec : ChangeSpec := { name := "fnExactFewestByLines", fn := fun _ => fun
  | [d1, d2] => { results := [.lit (.bool true)], args := [d1, d2] }
  | _ => none }
def fnExactFewestByLinesRow : OpenClaim := { program := "ytnhemdcbiaonbaa", sum := "bbd76d7c33e4e14f8e154ab745a78ef3b8864796f9f4115ccef1237c2ce826f4", func := "loop.example/g01296/laws.FnExactFewestByLines", spec := "fnExactFewestByLines", apart := false }
def FnExactFewestByLinesSaid : Prop := fnExactFewestByLinesRow.holds Try.pinned (OpenSpec.ofChange fnExactFewestByLinesSpec)

/-- ITS FALSE NEIGHBOUR: 'it returns false'. Refute it at one input. -/
def fnExactFewestByLinesWrong : ChangeSpec := { name := "fnExactFewestByLines", fn := fun _ => fun
  | [d1, d2] => { results := [.lit (.bool false)], args := [d1, d2] }
  | _ => none }
def FnExactFewestByLinesWrongFalsely : Prop := fnExactFewestByLinesRow.holds Try.pinned (OpenSpec.ofChange fnExactFewestByLinesWrong)

/-- 'laws.FnExactLinedTable': WHATEVER THE INPUT: true; the input reads as it did. -/
def fnExactLinedTableSpec : ChangeSpec := { name := "fnExactLinedTable", fn := fun _ => fun
  | [d] => { results := [.lit (.bool true)], args := [d] }
  | _ => none }
def fnExactLinedTableRow : OpenClaim := { program := "ytnhemdcbiaonbaa", sum := "bbd76d7c33e4e14f8e154ab745a78ef3b8864796f9f4115ccef1237c2ce826f4", func := "loop.example/g01296/laws.FnExactLinedTable", spec := "fnExactLinedTable", apart := false }
def FnExactLinedTableSaid : Prop := fnExactLinedTableRow.holds Try.pinned (OpenSpec.ofChange fnExactLinedTableSpec)

/-- ITS FALSE NEIGHBOUR: 'it returns false'. Refute it at one input. -/
def fnExactLinedTableWrong : ChangeSpec := { name := "fnExactLinedTable", fn := fun _ => fun
  | [d] => { results := [.lit (.bool false)], args := [d] }
  | _ => none }
def FnExactLinedTableWrongFalsely : Prop := fnExactLinedTableRow.holds Try.pinned (OpenSpec.ofChange fnExactLinedTableWrong)

/-- 'laws.FnExactCutByLines': WHATEVER THE INPUT: true; the input reads as it did. -/
def fnExactCutByLinesSpec : ChangeSpec := { name := "fnExactCutByLines", fn := fun _ => fun
  | [d1, d2] => { results := [.lit (.bool true)], args := [d1, d2] }
  | _ => none }
def fnExactCutByLinesRow : OpenClaim := { program := "ytnhemdcbiaonbaa", sum := "bbd76d7c33e4e14f8e154ab745a78ef3b8864796f9f4115ccef1237c2ce826f4", func := "loop.example/g01296/laws.FnExactCutByLines", spec := "fnExactCutByLines", unfollowed := true, recurses := true, leaving := true, apart := false }
def FnExactCutByLinesSaid : Prop := fnExactCutByLinesRow.holds Try.pinned (OpenSpec.ofChange fnExactCutByLinesSpec)

/-- ITS FALSE NEIGHBOUR: 'it returns false'. Refute it at one input. -/
def fnExactCutByLinesWrong : ChangeSpec := { name := "fnExactCutByLines", fn := fun _ => fun
  | [d1, d2] => { results := [.lit (.bool false)], args := [d1, d2] }
  | _ => none }
def FnExactCutByLinesWrongFalsely : Prop := fnExactCutByLinesRow.holds Try.pinned (OpenSpec.ofChange fnExactCutByLinesWrong)

/-- 'laws.FnExactIsCut': WHATEVER THE INPUT: true; the input reads as it did. -/
def fnExactIsCutSpec : ChangeSpec := { name := "fnExactIsCut", fn := fun _ => fun
  | [d] => { results := [.lit (.bool true)], args := [d] }
  | _ => none }
def fnExactIsCutRow : OpenClaim := { program := "ytnhemdcbiaonbaa", sum := "bbd76d7c33e4e14f8e154ab745a78ef3b8864796f9f4115ccef1237c2ce826f4", func := "loop.example/g01296/laws.FnExactIsCut", spec := "fnExactIsCut", unfollowed := true, recurses := true, leaving := true, apart := false }
def FnExactIsCutSaid : Prop := fnExactIsCutRow.holds Try.pinned (OpenSpec.ofChange fnExactIsCutSpec)

/-- ITS FALSE NEIGHBOUR: 'it returns false'. Refute it at one input. -/
def fnExactIsCutWrong : ChangeSpec := { name := "fnExactIsCut", fn := fun _ => fun
  | [d] => { results := [.lit (.bool false)], args := [d] }
  | _ => none }
def FnExactIsCutWrongFalsely : Prop := fnExactIsCutRow.holds Try.pinned (OpenSpec.ofChange fnExactIsCutWrong)

/-- 'laws.FnExactCutOf': WHATEVER THE INPUT: true; the input reads as it did. -/
def fnExactCutOfSpec : ChangeSpec := { name := "fnExactCutOf", fn := fun _ => fun
  | [d1, d2, d3] => { results := [.lit (.bool true)], args := [d1, d2, d3] }
  | _ => none }
def fnExactCutOfRow : OpenClaim := { program := "ytnhemdcbiaonbaa", sum := "bbd76d7c33e4e14f8e154ab745a78ef3b8864796f9f4115ccef1237c2ce826f4", func := "loop.example/g01296/laws.FnExactCutOf", spec := "fnExactCutOf", unfollowed := true, recurses := true, leaving := true, apart := false }
def FnExactCutOfSaid : Prop := fnExactCutOfRow.holds Try.pinned (OpenSpec.ofChange fnExactCutOfSpec)

/-- ITS FALSE NEIGHBOUR: 'it returns false'. Refute it at one input. -/
def fnExactCutOfWrong : ChangeSpec := { name := "fnExactCutOf", fn := fun _ => fun
  | [d1, d2, d3] => { results := [.lit (.bool false)], args := [d1, d2, d3] }
  | _ => none }
def FnExactCutOfWrongFalsely : Prop := fnExactCutOfRow.holds Try.pinned (OpenSpec.ofChange fnExactCutOfWrong)

/- THE SECOND FORM. 'bulk': how many values and letters a reading holds, each counted each time it is reached (what is shared counts as often as it is met; a slice's spare places count too). A statement '..UptoSaid' is the law's where the arguments, and the package variables that the reading takes, are together of bulk at most 1048576: NARROWER than '..Said'. Prove '..Said' where nothing that the law and all that it calls make is longer than what came in: it says more and counts as full. Else prove '..UptoSaid'. A law counts once. -/
mutual
def uptoBulk {H : Type} : DataW H → Nat
  | .lit (.string bytes) => bytes.length + 1
  | .lit _ => 1
  | .nil => 1
  | .ptr d => uptoBulk d + 1
  | .slice elems spare => uptoBulkAll elems + uptoBulkAll spare + 1
  | .agg parts => uptoBulkAll parts + 1
  | .iface _ d => uptoBulk d + 1
  | .map entries => uptoBulkEntries entries + 1
  | .held _ => 1
def uptoBulkAll {H : Type} : List (DataW H) → Nat
  | [] => 0
  | d :: r => uptoBulk d + uptoBulkAll r
def uptoBulkEntries {H : Type} : List (Lit × DataW H) → Nat
  | [] => 0
  | x :: r => uptoBulkEntry x + uptoBulkEntries r
def uptoBulkEntry {H : Type} : Lit × DataW H → Nat
  | (.string bytes, d) => bytes.length + uptoBulk d + 1
  | (_, d) => uptoBulk d + 1
 end
def uptoSmall : (H : Type) → List (DataW H) → Bool := fun _ ds => decide (uptoBulkAll ds ≤ 1048576)
def OpenSpec.upto (s : _root_.Go.ChangeSpec) : _root_.Go.OpenSpec := { _root_.Go.OpenSpec.ofChange s with cond := some uptoSmall }

/-- 'laws.FnExactRatioOfQuotients', WHERE WHAT IT READS IS OF BULK AT MOST 1048576: true; the input reads as it did. -/
def fnExactRatioOfQuotientsUptoRow : OpenClaim := { program := "ytnhemdcbiaonbaa", sum := "bbd76d7c33e4e14f8e154ab745a78ef3b8864796f9f4115ccef1237c2ce826f4", func := "loop.example/g01296/laws.FnExactRatioOfQuotients", spec := "fnExactRatioOfQuotients", unfollowed := true, recurses := true, leaving := true, apart := false, narrowed := true }
def FnExactRatioOfQuotientsUptoSaid : Prop := fnExactRatioOfQuotientsUptoRow.holds Try.pinned (OpenSpec.upto fnExactRatioOfQuotientsSpec)

/-- 'laws.FnExactQuotientsOf', WHERE WHAT IT READS IS OF BULK AT MOST 1048576: true; the input reads as it did. -/
def fnExactQuotientsOfUptoRow : OpenClaim := { program := "ytnhemdcbiaonbaa", sum := "bbd76d7c33e4e14f8e154ab745a78ef3b8864796f9f4115ccef1237c2ce826f4", func := "loop.example/g01296/laws.FnExactQuotientsOf", spec := "fnExactQuotientsOf", leaving := true, apart := false, narrowed := true }
def FnExactQuotientsOfUptoSaid : Prop := fnExactQuotientsOfUptoRow.holds Try.pinned (OpenSpec.upto fnExactQuotientsOfSpec)

/-- 'laws.FnExactCountGreedy', WHERE WHAT IT READS IS OF BULK AT MOST 1048576: true; the input reads as it did. -/
def fnExactCountGreedyUptoRow : OpenClaim := { program := "ytnhemdcbiaonbaa", sum := "bbd76d7c33e4e14f8e154ab745a78ef3b8864796f9f4115ccef1237c2ce826f4", func := "loop.example/g01296/laws.FnExactCountGreedy", spec := "fnExactCountGreedy", leaving := true, apart := false, narrowed := true }
def FnExactCountGreedyUptoSaid : Prop := fnExactCountGreedyUptoRow.holds Try.pinned (OpenSpec.upto fnExactCountGreedySpec)

/-- 'laws.FnExactGreedyCut', WHERE WHAT IT READS IS OF BULK AT MOST 1048576: true; the input reads as it did. -/
def fnExactGreedyCutUptoRow : OpenClaim := { program := "ytnhemdcbiaonbaa", sum := "bbd76d7c33e4e14f8e154ab745a78ef3b8864796f9f4115ccef1237c2ce826f4", func := "loop.example/g01296/laws.FnExactGreedyCut", spec := "fnExactGreedyCut", unfollowed := true, recurses := true, leaving := true, apart := false, narrowed := true }
def FnExactGreedyCutUptoSaid : Prop := fnExactGreedyCutUptoRow.holds Try.pinned (OpenSpec.upto fnExactGreedyCutSpec)

/-- 'laws.FnExactIsSquareRatio', WHERE WHAT IT READS IS OF BULK AT MOST 1048576: true; the input reads as it did. -/
def fnExactIsSquareRatioUptoRow : OpenClaim := { program := "ytnhemdcbiaonbaa", sum := "bbd76d7c33e4e14f8e154ab745a78ef3b8864796f9f4115ccef1237c2ce826f4", func := "loop.example/g01296/laws.FnExactIsSquareRatio", spec := "fnExactIsSquareRatio", leaving := true, apart := false, narrowed := true }
def FnExactIsSquareRatioUptoSaid : Prop := fnExactIsSquareRatioUptoRow.holds Try.pinned (OpenSpec.upto fnExactIsSquareRatioSpec)

/-- 'laws.FnExactFewestByLines', WHERE WHAT IT READS IS OF BULK AT MOST 1048576: true; the input reads as it did. -/
def fnExactFewestByLinesUptoRow : OpenClaim := { program := "ytnhemdcbiaonbaa", sum := "bbd76d7c33e4e14f8e154ab745a78ef3b8864796f9f4115ccef1237c2ce826f4", func := "loop.example/g01296/laws.FnExactFewestByLines", spec := "fnExactFewestByLines", apart := false, narrowed := true }
def FnExactFewestByLinesUptoSaid : Prop := fnExactFewestByLinesUptoRow.holds Try.pinned (OpenSpec.upto fnExactFewestByLinesSpec)

/-- 'laws.FnExactLinedTable', WHERE WHAT IT READS IS OF BULK AT MOST 1048576: true; the input reads as it did. -/
def fnExactLinedTableUptoRow : OpenClaim := { program := "ytnhemdcbiaonbaa", sum := "bbd76d7c33e4e14f8e154ab745a78ef3b8864796f9f4115ccef1237c2ce826f4", func := "loop.example/g01296/laws.FnExactLinedTable", spec := "fnExactLinedTable", apart := false, narrowed := true }
def FnExactLinedTableUptoSaid : Prop := fnExactLinedTableUptoRow.holds Try.pinned (OpenSpec.upto fnExactLinedTableSpec)

/-- 'laws.FnExactCutByLines', WHERE WHAT IT READS IS OF BULK AT MOST 1048576: true; the input reads as it did. -/
def fnExactCutByLinesUptoRow : OpenClaim := { program := "ytnhemdcbiaonbaa", sum := "bbd76d7c33e4e14f8e154ab745a78ef3b8864796f9f4115ccef1237c2ce826f4", func := "loop.example/g01296/laws.FnExactCutByLines", spec := "fnExactCutByLines", unfollowed := true, recurses := true, leaving := true, apart := false, narrowed := true }
def FnExactCutByLinesUptoSaid : Prop := fnExactCutByLinesUptoRow.holds Try.pinned (OpenSpec.upto fnExactCutByLinesSpec)

/-- 'laws.FnExactIsCut', WHERE WHAT IT READS IS OF BULK AT MOST 1048576: true; the input reads as it did. -/
def fnExactIsCutUptoRow : OpenClaim := { program := "ytnhemdcbiaonbaa", sum := "bbd76d7c33e4e14f8e154ab745a78ef3b8864796f9f4115ccef1237c2ce826f4", func := "loop.example/g01296/laws.FnExactIsCut", spec := "fnExactIsCut", unfollowed := true, recurses := true, leaving := true, apart := false, narrowed := true }
def FnExactIsCutUptoSaid : Prop := fnExactIsCutUptoRow.holds Try.pinned (OpenSpec.upto fnExactIsCutSpec)

/-- 'laws.FnExactCutOf', WHERE WHAT IT READS IS OF BULK AT MOST 1048576: true; the input reads as it did. -/
def fnExactCutOfUptoRow : OpenClaim := { program := "ytnhemdcbiaonbaa", sum := "bbd76d7c33e4e14f8e154ab745a78ef3b8864796f9f4115ccef1237c2ce826f4", func := "loop.example/g01296/laws.FnExactCutOf", spec := "fnExactCutOf", unfollowed := true, recurses := true, leaving := true, apart := false, narrowed := true }
def FnExactCutOfUptoSaid : Prop := fnExactCutOfUptoRow.holds Try.pinned (OpenSpec.upto fnExactCutOfSpec)

end Rows
end Go.Proofs.Ytnhemdcbiaonbaa
