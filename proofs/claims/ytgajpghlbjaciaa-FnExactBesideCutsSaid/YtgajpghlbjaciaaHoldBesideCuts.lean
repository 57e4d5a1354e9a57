/- FnExactBesideCuts returns true for every input and leaves its arguments as they were: no condition. -/
import Derived.Test.YtgajpghlbjaciaaRowBesideCuts
import Derived.Test.YtgajpghlbjaciaaFactsBesideCuts
namespace Go.Proofs.Ytgajpghlbjaciaa

theorem holdsBesideCuts : Rows.FnExactBesideCutsSaid :=
  OpenClaim.holds_of_wide 3 Try.f3 rfl rfl rfl rfl rfl rfl rfl ⟨rfl, rfl, rfl, rfl, rfl⟩ rfl rfl rfl rfl rfl namedBesideCuts Try.func3 closedBesideCuts
    (of_decide_eq_true (by kernel_rfl)) wrapBesideCuts
    (fun os started H enc _ => fnExactBesideCuts_lifted os started H enc)
#print axioms holdsBesideCuts
end Go.Proofs.Ytgajpghlbjaciaa
