/- FnExactMeanOfCuts returns true for every input and leaves its arguments as they were: no condition. -/
import Derived.Test.YtdkokblgakgklaaRowMean
import Derived.Test.YtdkokblgakgklaaFactsMean
namespace Go.Proofs.Ytdkokblgakgklaa

theorem holdsMeanOfCuts : Rows.FnExactMeanOfCutsSaid :=
  OpenClaim.holds_of_wide 10 Try.f10 rfl rfl rfl rfl rfl rfl rfl ⟨rfl, rfl, rfl, rfl, rfl⟩ rfl rfl rfl rfl rfl namedMeanOfCuts Try.func10 closedMeanOfCuts
    (of_decide_eq_true (by kernel_rfl)) wrapMeanOfCuts
    (fun os started H enc _ => fnExactMeanOfCuts_lifted os started H enc)
#print axioms holdsMeanOfCuts
end Go.Proofs.Ytdkokblgakgklaa
