/- FnExactGreatestRatio returns true for every input and leaves its arguments as they were: no condition. -/
import Derived.Test.YtilneimiedfjnaaRowGrt
import Derived.Test.YtilneimiedfjnaaFactsGrt
set_option linter.all false
namespace Go.Proofs.Ytilneimiedfjnaa

theorem holdsGreatestRatio : Rows.FnExactGreatestRatioSaid :=
  OpenClaim.holds_of_wide 12 Try.f12 rfl rfl rfl rfl rfl rfl rfl ⟨rfl, rfl, rfl, rfl, rfl⟩ rfl rfl rfl rfl rfl namedGreatestRatio Try.func12 closedGreatestRatio
    (of_decide_eq_true (by kernel_rfl)) wrapGreatestRatio
    (fun os started H enc _ => fnExactGreatestRatio_lifted os started H enc)
#print axioms holdsGreatestRatio
end Go.Proofs.Ytilneimiedfjnaa
