/- FnExactLinesDown returns true for every input and leaves its arguments as they were: no condition. -/
import Derived.Test.YtilneimiedfjnaaRowLinesDown
import Derived.Test.YtilneimiedfjnaaFactsLinesDown
set_option linter.all false
namespace Go.Proofs.Ytilneimiedfjnaa

theorem holdsLinesDown : Rows.FnExactLinesDownSaid :=
  OpenClaim.holds_of_wide 5 Try.f5 rfl rfl rfl rfl rfl rfl rfl ⟨rfl, rfl, rfl, rfl, rfl⟩ rfl rfl rfl rfl rfl namedLinesDown Try.func5 closedLinesDown
    (of_decide_eq_true (by kernel_rfl)) wrapLinesDown
    (fun os started H enc _ => fnExactLinesDown_lifted os started H enc)
#print axioms holdsLinesDown
end Go.Proofs.Ytilneimiedfjnaa
