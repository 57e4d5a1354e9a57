/- FnExactPutSquare returns true for every input and leaves its arguments as they were: no condition. -/
import Derived.Test.YtgajpghlbjaciaaRowPutSquare
import Derived.Test.YtgajpghlbjaciaaFactsPutSquare
namespace Go.Proofs.Ytgajpghlbjaciaa

theorem holdsPutSquare : Rows.FnExactPutSquareSaid :=
  OpenClaim.holds_of_wide 5 Try.f5 rfl rfl rfl rfl rfl rfl rfl ⟨rfl, rfl, rfl, rfl, rfl⟩ rfl rfl rfl rfl rfl namedPutSquare Try.func5 closedPutSquare
    (of_decide_eq_true (by kernel_rfl)) wrapPutSquare
    (fun os started H enc _ => fnExactPutSquare_lifted os started H enc)
#print axioms holdsPutSquare
end Go.Proofs.Ytgajpghlbjaciaa
