/- FnExactReplaceSquare returns true for every input and leaves its arguments as they were: no condition. -/
import Derived.Test.YtgajpghlbjaciaaRowReplaceSquare
import Derived.Test.YtgajpghlbjaciaaFactsReplaceSquare
namespace Go.Proofs.Ytgajpghlbjaciaa

theorem holdsReplaceSquare : Rows.FnExactReplaceSquareSaid :=
  OpenClaim.holds_of_wide 9 Try.f9 rfl rfl rfl rfl rfl rfl rfl ⟨rfl, rfl, rfl, rfl, rfl⟩ rfl rfl rfl rfl rfl namedReplaceSquare Try.func9 closedReplaceSquare
    (of_decide_eq_true (by kernel_rfl)) wrapReplaceSquare
    (fun os started H enc _ => fnExactReplaceSquare_lifted os started H enc)
#print axioms holdsReplaceSquare
end Go.Proofs.Ytgajpghlbjaciaa
