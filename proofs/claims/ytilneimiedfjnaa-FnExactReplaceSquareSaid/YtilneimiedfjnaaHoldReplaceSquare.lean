/- FnExactReplaceSquare returns true for every input and leaves its arguments as they were: no condition. -/
import Derived.Test.YtilneimiedfjnaaRowReplaceSquare
import Derived.Test.YtilneimiedfjnaaFactsReplaceSquare
set_option linter.all false
namespace Go.Proofs.Ytilneimiedfjnaa

theorem holdsReplaceSquare : Rows.FnExactReplaceSquareSaid :=
  OpenClaim.holds_of_wide 4 Try.f4 rfl rfl rfl rfl rfl rfl rfl ⟨rfl, rfl, rfl, rfl, rfl⟩ rfl rfl rfl rfl rfl namedReplaceSquare Try.func4 closedReplaceSquare
    (of_decide_eq_true (by kernel_rfl)) wrapReplaceSquare
    (fun os started H enc _ => fnExactReplaceSquare_lifted os started H enc)
#print axioms holdsReplaceSquare
end Go.Proofs.Ytilneimiedfjnaa
