/- FnExactRatiosOf returns true for every input and leaves its arguments as they were: no condition. -/
import Derived.Test.YtilneimiedfjnaaRowRos
import Derived.Test.YtilneimiedfjnaaFactsRos
set_option linter.all false
namespace Go.Proofs.Ytilneimiedfjnaa

theorem holdsRatiosOf : Rows.FnExactRatiosOfSaid :=
  OpenClaim.holds_of_wide 11 Try.f11 rfl rfl rfl rfl rfl rfl rfl ⟨rfl, rfl, rfl, rfl, rfl⟩ rfl rfl rfl rfl rfl namedRatiosOf Try.func11 closedRatiosOf
    (of_decide_eq_true (by kernel_rfl)) wrapRatiosOf
    (fun os started H enc _ => fnExactRatiosOf_lifted os started H enc)
#print axioms holdsRatiosOf
end Go.Proofs.Ytilneimiedfjnaa
