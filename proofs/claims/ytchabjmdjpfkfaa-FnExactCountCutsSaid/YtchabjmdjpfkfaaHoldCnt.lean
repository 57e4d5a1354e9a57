/- FnExactCountCuts returns true for every input and leaves its arguments as they were: no condition. -/
import Derived.Test.YtchabjmdjpfkfaaRowCnt
import Derived.Test.YtchabjmdjpfkfaaFactsCnt
set_option linter.all false
namespace Go.Proofs.Ytchabjmdjpfkfaa

theorem holdsCountCuts : Rows.FnExactCountCutsSaid :=
  OpenClaim.holds_of_wide 3 Try.f3 rfl rfl rfl rfl rfl rfl rfl ⟨rfl, rfl, rfl, rfl, rfl⟩ rfl rfl rfl rfl rfl namedCountCuts Try.func3 closedCountCuts
    (of_decide_eq_true (by kernel_rfl)) wrapCountCuts
    (fun os started H enc _ => fnExactCountCuts_lifted os started H enc)
#print axioms holdsCountCuts
end Go.Proofs.Ytchabjmdjpfkfaa
