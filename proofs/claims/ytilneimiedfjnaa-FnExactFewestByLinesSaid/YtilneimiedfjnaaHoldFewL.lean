/- FnExactFewestByLines returns true for every input and leaves its arguments as they were: no condition. -/
import Derived.Test.YtilneimiedfjnaaRowFewL
import Derived.Test.YtilneimiedfjnaaFactsFewL
set_option linter.all false
namespace Go.Proofs.Ytilneimiedfjnaa

theorem holdsFewestByLines : Rows.FnExactFewestByLinesSaid :=
  OpenClaim.holds_of_wide 14 Try.f14 rfl rfl rfl rfl rfl rfl rfl ⟨rfl, rfl, rfl, rfl, rfl⟩ rfl rfl rfl rfl rfl namedFewestByLines Try.func14 closedFewestByLines
    (of_decide_eq_true (by kernel_rfl)) wrapFewestByLines
    (fun os started H enc _ => fnExactFewestByLines_lifted os started H enc)
#print axioms holdsFewestByLines
end Go.Proofs.Ytilneimiedfjnaa
