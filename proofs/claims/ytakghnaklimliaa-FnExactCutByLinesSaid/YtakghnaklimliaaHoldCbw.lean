/- FnExactCutByLines returns true for every input and leaves its arguments as they were: no condition. -/
import Derived.Test.YtakghnaklimliaaRowCbw
import Derived.Test.YtakghnaklimliaaFactsCbw
namespace Go.Proofs.Ytakghnaklimliaa

theorem holdsCutByLines : Rows.FnExactCutByLinesSaid :=
  OpenClaim.holds_of_wide 4 Try.f4 rfl rfl rfl rfl rfl rfl rfl ⟨rfl, rfl, rfl, rfl, rfl⟩ rfl rfl rfl rfl rfl namedCutByLines Try.func4 closedCutByLines
    (of_decide_eq_true (by kernel_rfl)) wrapCutByLines
    (fun os started H enc _ => fnExactCutByLines_lifted os started H enc)
#print axioms holdsCutByLines
end Go.Proofs.Ytakghnaklimliaa
