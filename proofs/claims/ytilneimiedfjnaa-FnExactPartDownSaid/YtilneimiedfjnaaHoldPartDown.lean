/- FnExactPartDown returns true for every input and leaves its arguments as they were: no condition. -/
import Derived.Test.YtilneimiedfjnaaRowPartDown
import Derived.Test.YtilneimiedfjnaaFactsPartDown
set_option linter.all false
namespace Go.Proofs.Ytilneimiedfjnaa

theorem holdsPartDown : Rows.FnExactPartDownSaid :=
  OpenClaim.holds_of_wide 8 Try.f8 rfl rfl rfl rfl rfl rfl rfl ⟨rfl, rfl, rfl, rfl, rfl⟩ rfl rfl rfl rfl rfl namedPartDown Try.func8 closedPartDown
    (of_decide_eq_true (by kernel_rfl)) wrapPartDown
    (fun os started H enc _ => fnExactPartDown_lifted os started H enc)
#print axioms holdsPartDown
end Go.Proofs.Ytilneimiedfjnaa
