/- FnExactMeanOfCuts returns true for every input and leaves its arguments as they were: no condition. -/
import Derived.Test.YtchabjmdjpfkfaaRowMean
import Derived.Test.YtchabjmdjpfkfaaFactsMean
set_option linter.all false
namespace Go.Proofs.Ytchabjmdjpfkfaa

theorem holdsMeanOfCuts : Rows.FnExactMeanOfCutsSaid :=
  OpenClaim.holds_of_wide 6 Try.f6 rfl rfl rfl rfl rfl rfl rfl ⟨rfl, rfl, rfl, rfl, rfl⟩ rfl rfl rfl rfl rfl namedMeanOfCuts Try.func6 closedMeanOfCuts
    (of_decide_eq_true (by kernel_rfl)) wrapMeanOfCuts
    (fun os started H enc _ => fnExactMeanOfCuts_lifted os started H enc)
#print axioms holdsMeanOfCuts
end Go.Proofs.Ytchabjmdjpfkfaa
