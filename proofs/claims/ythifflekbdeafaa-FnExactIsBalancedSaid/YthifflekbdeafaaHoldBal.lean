/- FnExactIsBalanced returns true for every input and leaves its arguments as they were: no condition. -/
import Derived.Test.YthifflekbdeafaaRowBal
import Derived.Test.YthifflekbdeafaaFactsBal
namespace Go.Proofs.Ythifflekbdeafaa

theorem holdsIsBalanced : Rows.FnExactIsBalancedSaid :=
  OpenClaim.holds_of_wide 4 Try.f4 rfl rfl rfl rfl rfl rfl rfl ⟨rfl, rfl, rfl, rfl, rfl⟩ rfl rfl rfl rfl rfl namedIsBalanced Try.func4 closedIsBalanced
    (of_decide_eq_true (by kernel_rfl)) wrapIsBalanced
    (fun os started H enc _ => fnExactIsBalanced_lifted os started H enc)
#print axioms holdsIsBalanced
end Go.Proofs.Ythifflekbdeafaa
