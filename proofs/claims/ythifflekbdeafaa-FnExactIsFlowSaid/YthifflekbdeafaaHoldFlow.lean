/- FnExactIsFlow returns true for every input and leaves its arguments as they were: no condition. -/
import Derived.Test.YthifflekbdeafaaRowFlow
import Derived.Test.YthifflekbdeafaaFactsFlow
namespace Go.Proofs.Ythifflekbdeafaa

theorem holdsIsFlow : Rows.FnExactIsFlowSaid :=
  OpenClaim.holds_of_wide 3 Try.f3 rfl rfl rfl rfl rfl rfl rfl ⟨rfl, rfl, rfl, rfl, rfl⟩ rfl rfl rfl rfl rfl namedIsFlow Try.func3 closedIsFlow
    (of_decide_eq_true (by kernel_rfl)) wrapIsFlow
    (fun os started H enc _ => fnExactIsFlow_lifted os started H enc)
#print axioms holdsIsFlow
end Go.Proofs.Ythifflekbdeafaa
