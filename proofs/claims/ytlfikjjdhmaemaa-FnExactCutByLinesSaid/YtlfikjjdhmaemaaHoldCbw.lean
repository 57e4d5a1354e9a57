/- FnExactCutByLines returns true for every input and leaves its arguments as they were: no condition. -/
import Derived.Test.YtlfikjjdhmaemaaRowCbw
import Derived.Test.YtlfikjjdhmaemaaFactsCbw
set_option linter.all false
namespace Go.Proofs.Ytlfikjjdhmaemaa

theorem holdsCutByLines : Rows.FnExactCutByLinesSaid :=
  OpenClaim.holds_of_wide 14 Try.f14 rfl rfl rfl rfl rfl rfl rfl ⟨rfl, rfl, rfl, rfl, rfl⟩ rfl rfl rfl rfl rfl namedCutByLines Try.func14 closedCutByLines
    (of_decide_eq_true (by kernel_rfl)) wrapCutByLines
    (fun os started H enc _ => fnExactCutByLines_lifted os started H enc)
#print axioms holdsCutByLines
end Go.Proofs.Ytlfikjjdhmaemaa
