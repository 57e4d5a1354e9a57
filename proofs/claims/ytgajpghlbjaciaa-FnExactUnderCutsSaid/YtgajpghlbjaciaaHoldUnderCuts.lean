/- FnExactUnderCuts returns true for every input and leaves its arguments as they were: no condition. -/
import Derived.Test.YtgajpghlbjaciaaRowUnderCuts
import Derived.Test.YtgajpghlbjaciaaFactsUnderCuts
namespace Go.Proofs.Ytgajpghlbjaciaa

theorem holdsUnderCuts : Rows.FnExactUnderCutsSaid :=
  OpenClaim.holds_of_wide 4 Try.f4 rfl rfl rfl rfl rfl rfl rfl ⟨rfl, rfl, rfl, rfl, rfl⟩ rfl rfl rfl rfl rfl namedUnderCuts Try.func4 closedUnderCuts
    (of_decide_eq_true (by kernel_rfl)) wrapUnderCuts
    (fun os started H enc _ => fnExactUnderCuts_lifted os started H enc)
#print axioms holdsUnderCuts
end Go.Proofs.Ytgajpghlbjaciaa
