/- FnExactGroupOfSquare returns true for every input and leaves its arguments as they were: no condition. -/
import Derived.Test.YtiipjlejcknnfaaRowGroup
import Derived.Test.YtiipjlejcknnfaaFactsGroup
namespace Go.Proofs.Ytiipjlejcknnfaa

theorem holdsGroupOfSquare : Rows.FnExactGroupOfSquareSaid :=
  OpenClaim.holds_of_wide 8 Try.f8 rfl rfl rfl rfl rfl rfl rfl ⟨rfl, rfl, rfl, rfl, rfl⟩ rfl rfl rfl rfl rfl namedGroupOfSquare Try.func8 closedGroupOfSquare
    (of_decide_eq_true (by kernel_rfl)) wrapGroupOfSquare
    (fun os started H enc _ => fnExactGroupOfSquare_lifted os started H enc)
#print axioms holdsGroupOfSquare
end Go.Proofs.Ytiipjlejcknnfaa
