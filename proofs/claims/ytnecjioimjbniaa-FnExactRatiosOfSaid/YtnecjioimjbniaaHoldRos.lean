/- FnExactRatiosOf returns true for every input and leaves its arguments as they were: no condition. -/
import Derived.Test.YtnecjioimjbniaaRowRos
import Derived.Test.YtnecjioimjbniaaFactsRos
namespace Go.Proofs.Ytnecjioimjbniaa

theorem holdsRatiosOf : Rows.FnExactRatiosOfSaid :=
  OpenClaim.holds_of_wide 9 Try.f9 rfl rfl rfl rfl rfl rfl rfl ⟨rfl, rfl, rfl, rfl, rfl⟩ rfl rfl rfl rfl rfl namedRatiosOf Try.func9 closedRatiosOf
    (of_decide_eq_true (by kernel_rfl)) wrapRatiosOf
    (fun os started H enc _ => fnExactRatiosOf_lifted os started H enc)
#print axioms holdsRatiosOf
end Go.Proofs.Ytnecjioimjbniaa
