/- FnExactLinesDown returns true for every input and leaves its arguments as they were: no condition. -/
import Derived.Test.YtgajpghlbjaciaaRowLinesDown
import Derived.Test.YtgajpghlbjaciaaFactsLinesDown
namespace Go.Proofs.Ytgajpghlbjaciaa

theorem holdsLinesDown : Rows.FnExactLinesDownSaid :=
  OpenClaim.holds_of_wide 11 Try.f11 rfl rfl rfl rfl rfl rfl rfl ⟨rfl, rfl, rfl, rfl, rfl⟩ rfl rfl rfl rfl rfl namedLinesDown Try.func11 closedLinesDown
    (of_decide_eq_true (by kernel_rfl)) wrapLinesDown
    (fun os started H enc _ => fnExactLinesDown_lifted os started H enc)
#print axioms holdsLinesDown
end Go.Proofs.Ytgajpghlbjaciaa
