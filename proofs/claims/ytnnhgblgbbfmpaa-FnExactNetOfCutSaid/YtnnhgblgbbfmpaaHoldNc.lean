/- FnExactNetOfCut returns true for every input and leaves its arguments as they were: no condition. -/
import Derived.Test.YtnnhgblgbbfmpaaRowNc
import Derived.Test.YtnnhgblgbbfmpaaFactsNc
set_option linter.all false
namespace Go.Proofs.Ytnnhgblgbbfmpaa

theorem holdsNetOfCut : Rows.FnExactNetOfCutSaid :=
  OpenClaim.holds_of_wide 10 Try.f10 rfl rfl rfl rfl rfl rfl rfl ⟨rfl, rfl, rfl, rfl, rfl⟩ rfl rfl rfl rfl rfl namedLinesOf Try.func10 closedLinesOf
    (of_decide_eq_true (by kernel_rfl)) wrapLinesOf
    (fun os started H enc _ => fnExactNetOfCut_lifted os started H enc)
#print axioms holdsNetOfCut
end Go.Proofs.Ytnnhgblgbbfmpaa
