/- FnExactPartAcross returns true for every input and leaves its arguments as they were: no condition. -/
import Derived.Test.YtilneimiedfjnaaRowPartAcross
import Derived.Test.YtilneimiedfjnaaFactsPartAcross
set_option linter.all false
namespace Go.Proofs.Ytilneimiedfjnaa

theorem holdsPartAcross : Rows.FnExactPartAcrossSaid :=
  OpenClaim.holds_of_wide 7 Try.f7 rfl rfl rfl rfl rfl rfl rfl ⟨rfl, rfl, rfl, rfl, rfl⟩ rfl rfl rfl rfl rfl namedPartAcross Try.func7 closedPartAcross
    (of_decide_eq_true (by kernel_rfl)) wrapPartAcross
    (fun os started H enc _ => fnExactPartAcross_lifted os started H enc)
#print axioms holdsPartAcross
end Go.Proofs.Ytilneimiedfjnaa
