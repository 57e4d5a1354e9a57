/- FnExactRatioOfQuotients returns true for every input and leaves its arguments as they were: no condition. -/
import Derived.Test.YtakghnaklimliaaRowQuo
import Derived.Test.YtakghnaklimliaaFactsQuo
namespace Go.Proofs.Ytakghnaklimliaa

theorem holdsRatioOfQuotients : Rows.FnExactRatioOfQuotientsSaid :=
  OpenClaim.holds_of_wide 5 Try.f5 rfl rfl rfl rfl rfl rfl rfl ⟨rfl, rfl, rfl, rfl, rfl⟩ rfl rfl rfl rfl rfl namedRatioOfQuotients Try.func5 closedRatioOfQuotients
    (of_decide_eq_true (by kernel_rfl)) wrapRatioOfQuotients
    (fun os started H enc _ => fnExactRatioOfQuotients_lifted os started H enc)
#print axioms holdsRatioOfQuotients
end Go.Proofs.Ytakghnaklimliaa
