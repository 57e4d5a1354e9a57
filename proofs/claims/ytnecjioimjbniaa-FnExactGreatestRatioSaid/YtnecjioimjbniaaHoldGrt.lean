/- FnExactGreatestRatio returns true for every input and leaves its arguments as they were: no condition. -/
import Derived.Test.YtnecjioimjbniaaRowGrt
import Derived.Test.YtnecjioimjbniaaFactsGrt
namespace Go.Proofs.Ytnecjioimjbniaa

theorem holdsGreatestRatio : Rows.FnExactGreatestRatioSaid :=
  OpenClaim.holds_of_wide 7 Try.f7 rfl rfl rfl rfl rfl rfl rfl ⟨rfl, rfl, rfl, rfl, rfl⟩ rfl rfl rfl rfl rfl namedGreatestRatio Try.func7 closedGreatestRatio
    (of_decide_eq_true (by kernel_rfl)) wrapGreatestRatio
    (fun os started H enc _ => fnExactGreatestRatio_lifted os started H enc)
#print axioms holdsGreatestRatio
end Go.Proofs.Ytnecjioimjbniaa
