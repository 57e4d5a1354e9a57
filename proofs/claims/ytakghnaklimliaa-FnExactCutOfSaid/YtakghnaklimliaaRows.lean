/-
  No cell of these rows narrows 'for every input' (looked for: loops, veiled, ifaces, maps, wideKeys, modest, calm, conditions, laid).
  DERIVED. THE GIVEN ROWS OF THIS SEAT. 5 by the template 'for every input the law returns true; each argument reads behind the call as it read before'; 0 by the template 'total and deterministic' (their statements: YtakghnaklimliaaTotals.lean).
  GIVEN WITH THE SEED: the statements are not yours to turn. If you find one false, say at which input.
  Laid BY PROGRAM, IN A SANDBOX (cutbox-rows.mjs): the forced cells as the released guide's own fill.sh prints them over the translation be2efb56674189a2… (all of the seat's roots in one cut). By AI agents, Wed Nov 11 2026. No macro, syntax, notation, axiom, sorry.
-/
import Derived.Test.YtakghnaklimliaaChecked
import GoSem.Claim
import GoSem.ClaimJoined
import GoSem.ClaimMapViews
import Derived.JoinedTies
import Derived.KernelRfl
namespace Go.Proofs.Ytakghnaklimliaa
/- THE CELL 'sum', in the pinned program and in every row, IS THE sha256 OF THE DUMP (.gsa) THAT YtakghnaklimliaaProg.lean LOADS. Nothing in Lean hashes anything: it is a label: what it is worth is what the hold of that sum in a sandbox is worth. -/
noncomputable def Try.pinned : Pinned := { name := "ytakghnaklimliaa", sum := "be2efb56674189a25a6eb292686f1a1d0f0af7ce3d85eb4b86c477070fe720f0", checked := Try.checked }
namespace Rows
def none {H : Type} : Left H := { results := [], args := [] }

/-- 'laws.FnExactCutOfWord': WHATEVER THE INPUT: true; the input reads as it did. -/
def fnExactCutOfWordSpec : ChangeSpec := { name := "fnExactCutOfWord", fn := fun _ => fun
  | [d] => { results := [.lit (.bool true)], args := [d] }
  | _ => none }
def fnExactCutOfWordRow : OpenClaim := { program := "ytakghnaklimliaa", sum := "be2efb56674189a25a6eb292686f1a1d0f0af7ce3d85eb4b86c477070fe720f0", func := "loop.example/g01296/laws.FnExactCutOfWord", spec := "fnExactCutOfWord", unfollowed := true, recurses := true, apart := false }
def FnExactCutOfWordSaid : Prop := fnExactCutOfWordRow.holds Try.pinned (OpenSpec.ofChange fnExactCutOfWordSpec)

/-- ITS FALSE NEIGHBOUR: 'it returns false'. Refute it at one input. -/
def fnExactCutOfWordWrong : ChangeSpec := { name := "fnExactCutOfWord", fn := fun _ => fun
  | [d] => { results := [.lit (.bool false)], args := [d] }
  | _ => none }
def FnExactCutOfWordWrongFalsely : Prop := fnExactCutOfWordRow.holds Try.pinned (OpenSpec.ofChange fnExactCutOfWordWrong)

/-- 'laws.FnExactCutByLines': WHATEVER THE INPUT: true; the input reads as it did. -/
def fnExactCutByLinesSpec : ChangeSpec := { name := "fnExactCutByLines", fn := fun _ => fun
  | [d1, d2] => { results := [.lit (.bool true)], args := [d1, d2] }
  | _ => none }
def fnExactCutByLinesRow : OpenClaim := { program := "ytakghnaklimliaa", sum := "be2efb56674189a25a6eb292686f1a1d0f0af7ce3d85eb4b86c477070fe720f0", func := "loop.example/g01296/laws.FnExactCutByLines", spec := "fnExactCutByLines", unfollowed := true, recurses := true, apart := false }
def FnExactCutByLinesSaid : Prop := fnExactCutByLinesRow.holds Try.pinned (OpenSpec.ofChange fnExactCutByLinesSpec)

/-- ITS FALSE NEIGHBOUR: 'it returns false'. Refute it at one input. -/
def fnExactCutByLinesWrong : ChangeSpec := { name := "fnExactCutByLines", fn := fun _ => fun
  | [d1, d2] => { results := [.lit (.bool false)], args := [d1, d2] }
  | _ => none }
def FnExactCutByLinesWrongFalsely : Prop := fnExactCutByLinesRow.holds Try.pinned (OpenSpec.ofChange fnExactCutByLinesWrong)

/-- 'laws.FnExactRatioOfQuotients': WHATEVER THE INPUT: true; the input reads as it did. -/
def fnExactRatioOfQuotientsSpec : ChangeSpec := { name := "fnExactRatioOfQuotients", fn := fun _ => fun
  | [d] => { results := [.lit (.bool true)], args := [d] }
  | _ => none }
def fnExactRatioOfQuotientsRow : OpenClaim := { program := "ytakghnaklimliaa", sum := "be2efb56674189a25a6eb292686f1a1d0f0af7ce3d85eb4b86c477070fe720f0", func := "loop.example/g01296/laws.FnExactRatioOfQuotients", spec := "fnExactRatioOfQuotients", unfollowed := true, recurses := true, apart := false }
def FnExactRatioOfQuotientsSaid : Prop := fnExactRatioOfQuotientsRow.holds Try.pinned (OpenSpec.ofChange fnExactRatioOfQuotientsSpec)

/-- ITS FALSE NEIGHBOUR: 'it returns false'. Refute it at one input. -/
def fnExactRatioOfQuotientsWrong : ChangeSpec := { name := "fnExactRatioOfQuotients", fn := fun _ => fun
  | [d] => { results := [.lit (.bool false)], args := [d] }
  | _ => none }
def FnExactRatioOfQuotientsWrongFalsely : Prop := fnExactRatioOfQuotientsRow.holds Try.pinned (OpenSpec.ofChange fnExactRatioOfQuotientsWrong)

/-- 'laws.FnExactIsCut': WHATEVER THE INPUT: true; the input reads as it did. -/
def fnExactIsCutSpec : ChangeSpec := { name := "fnExactIsCut", fn := fun _ => fun
  | [d] => { results := [.lit (.bool true)], args := [d] }
  | _ => none }
def fnExactIsCutRow : OpenClaim := { program := "ytakghnaklimliaa", sum := "be2efb56674189a25a6eb292686f1a1d0f0af7ce3d85eb4b86c477070fe720f0", func := "loop.example/g01296/laws.FnExactIsCut", spec := "fnExactIsCut", unfollowed := true, recurses := true, apart := false }
def FnExactIsCutSaid : Prop := fnExactIsCutRow.holds Try.pinned (OpenSpec.ofChange fnExactIsCutSpec)

/-- ITS FALSE NEIGHBOUR: 'it returns false'. Refute it at one input. -/
def fnExactIsCutWrong : ChangeSpec := { name := "fnExactIsCut", fn := fun _ => fun
  | [d] => { results := [.lit (.bool false)], args := [d] }
  | _ => none }
def FnExactIsCutWrongFalsely : Prop := fnExactIsCutRow.holds Try.pinned (OpenSpec.ofChange fnExactIsCutWrong)

/-- 'laws.FnExactCutOf': WHATEVER THE INPUT: true; the input reads as it did. -/
def fnExactCutOfSpec : ChangeSpec := { name := "fnExactCutOf", fn := fun _ => fun
  | [d1, d2, d3] => { results := [.lit (.bool true)], args := [d1, d2, d3] }
  | _ => none }
def fnExactCutOfRow : OpenClaim := { program := "ytakghnaklimliaa", sum := "be2efb56674189a25a6eb292686f1a1d0f0af7ce3d85eb4b86c477070fe720f0", func := "loop.example/g01296/laws.FnExactCutOf", spec := "fnExactCutOf", unfollowed := true, recurses := true, apart := false }
def FnExactCutOfSaid : Prop := fnExactCutOfRow.holds Try.pinned (OpenSpec.ofChange fnExactCutOfSpec)

/-- ITS FALSE NEIGHBOUR: 'it returns false'. Refute it at one input. -/
def fnExactCutOfWrong : ChangeSpec := { name := "fnExactCutOf", fn := fun _ => fun
  | [d1, d2, d3] => { results := [.lit (.bool false)], args := [d1, d2, d3] }
  | _ => none }
def FnExactCutOfWrongFalsely : Prop := fnExactCutOfRow.holds Try.pinned (OpenSpec.ofChange fnExactCutOfWrong)

/- THE SECOND FORM. 'bulk': how many values and letters a reading holds, each counted each time it is reached (what is shared counts as often as it is met; a slice's spare places count too). A statement '..UptoSaid' is the law's where the arguments, and the package variables that the reading takes, are together of bulk at most 1048576: NARROWER than '..Said'. Prove '..Said' where nothing that the law and all that it calls make is longer than what came in: it says more and counts as full. Else prove '..UptoSaid'. A law counts once. -/
mutual
def uptoBulk {H : Type} : DataW H → Nat
  | .lit (.string bytes) => bytes.length + 1
  | .lit _ => 1
  | .nil => 1
  | .ptr d => uptoBulk d + 1
  | .slice elems spare => uptoBulkAll elems + uptoBulkAll spare + 1
  | .agg parts => uptoBulkAll parts + 1
  | .iface _ d => uptoBulk d + 1
  | .map entries => uptoBulkEntries entries + 1
  | .held _ => 1
def uptoBulkAll {H : Type} : List (DataW H) → Nat
  | [] => 0
  | d :: r => uptoBulk d + uptoBulkAll r
def uptoBulkEntries {H : Type} : List (Lit × DataW H) → Nat
  | [] => 0
  | x :: r => uptoBulkEntry x + uptoBulkEntries r
def uptoBulkEntry {H : Type} : Lit × DataW H → Nat
  | (.string bytes, d) => bytes.length + uptoBulk d + 1
  | (_, d) => uptoBulk d + 1
 end
def uptoSmall : (H : Type) → List (DataW H) → Bool := fun _ ds => decide (uptoBulkAll ds ≤ 1048576)
def OpenSpec.upto (s : _root_.Go.ChangeSpec) : _root_.Go.OpenSpec := { _root_.Go.OpenSpec.ofChange s with cond := some uptoSmall }

/-- 'laws.FnExactCutOfWord', WHERE WHAT IT READS IS OF BULK AT MOST 1048576: true; the input reads as it did. -/
def fnExactCutOfWordUptoRow : OpenClaim := { program := "ytakghnaklimliaa", sum := "be2efb56674189a25a6eb292686f1a1d0f0af7ce3d85eb4b86c477070fe720f0", func := "loop.example/g01296/laws.FnExactCutOfWord", spec := "fnExactCutOfWord", unfollowed := true, recurses := true, apart := false, narrowed := true }
def FnExactCutOfWordUptoSaid : Prop := fnExactCutOfWordUptoRow.holds Try.pinned (OpenSpec.upto fnExactCutOfWordSpec)

/-- 'laws.FnExactCutByLines', WHERE WHAT IT READS IS OF BULK AT MOST 1048576: true; the input reads as it did. -/
def fnExactCutByLinesUptoRow : OpenClaim := { program := "ytakghnaklimliaa", sum := "be2efb56674189a25a6eb292686f1a1d0f0af7ce3d85eb4b86c477070fe720f0", func := "loop.example/g01296/laws.FnExactCutByLines", spec := "fnExactCutByLines", unfollowed := true, recurses := true, apart := false, narrowed := true }
def FnExactCutByLinesUptoSaid : Prop := fnExactCutByLinesUptoRow.holds Try.pinned (OpenSpec.upto fnExactCutByLinesSpec)

/-- 'laws.FnExactRatioOfQuotients', WHERE WHAT IT READS IS OF BULK AT MOST 1048576: true; the input reads as it did. -/
def fnExactRatioOfQuotientsUptoRow : OpenClaim := { program := "ytakghnaklimliaa", sum := "be2efb56674189a25a6eb292686f1a1d0f0af7ce3d85eb4b86c477070fe720f0", func := "loop.example/g01296/laws.FnExactRatioOfQuotients", spec := "fnExactRatioOfQuotients", unfollowed := true, recurses := true, apart := false, narrowed := true }
def FnExactRatioOfQuotientsUptoSaid : Prop := fnExactRatioOfQuotientsUptoRow.holds Try.pinned (OpenSpec.upto fnExactRatioOfQuotientsSpec)

/-- 'laws.FnExactIsCut', WHERE WHAT IT READS IS OF BULK AT MOST 1048576: true; the input reads as it did. -/
def fnExactIsCutUptoRow : OpenClaim := { program := "ytakghnaklimliaa", sum := "be2efb56674189a25a6eb292686f1a1d0f0af7ce3d85eb4b86c477070fe720f0", func := "loop.example/g01296/laws.FnExactIsCut", spec := "fnExactIsCut", unfollowed := true, recurses := true, apart := false, narrowed := true }
def FnExactIsCutUptoSaid : Prop := fnExactIsCutUptoRow.holds Try.pinned (OpenSpec.upto fnExactIsCutSpec)

/-- 'laws.FnExactCutOf', WHERE WHAT IT READS IS OF BULK AT MOST 1048576: true; the input reads as it did. -/
def fnExactCutOfUptoRow : OpenClaim := { program := "ytakghnaklimliaa", sum := "be2efb56674189a25a6eb292686f1a1d0f0af7ce3d85eb4b86c477070fe720f0", func := "loop.example/g01296/laws.FnExactCutOf", spec := "fnExactCutOf", unfollowed := true, recurses := true, apart := false, narrowed := true }
def FnExactCutOfUptoSaid : Prop := fnExactCutOfUptoRow.holds Try.pinned (OpenSpec.upto fnExactCutOfSpec)

end Rows
end Go.Proofs.Ytakghnaklimliaa
