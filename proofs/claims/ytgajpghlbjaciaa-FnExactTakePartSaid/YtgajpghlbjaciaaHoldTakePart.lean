/- FnExactTakePart returns true for every input and leaves its arguments as they were: no condition. -/
import Derived.Test.YtgajpghlbjaciaaRowTakePart
import Derived.Test.YtgajpghlbjaciaaFactsTakePart
namespace Go.Proofs.Ytgajpghlbjaciaa

theorem holdsTakePart : Rows.FnExactTakePartSaid :=
  OpenClaim.holds_of_wide 8 Try.f8 rfl rfl rfl rfl rfl rfl rfl ⟨rfl, rfl, rfl, rfl, rfl⟩ rfl rfl rfl rfl rfl namedTakePart Try.func8 closedTakePart
    (of_decide_eq_true (by kernel_rfl)) wrapTakePart
    (fun os started H enc _ => fnExactTakePart_lifted os started H enc)
#print axioms holdsTakePart
end Go.Proofs.Ytgajpghlbjaciaa
