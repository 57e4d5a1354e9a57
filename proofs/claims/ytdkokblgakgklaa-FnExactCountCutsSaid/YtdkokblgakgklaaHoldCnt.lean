/- FnExactCountCuts returns true for every input and leaves its arguments as they were: no condition. -/
import Derived.Test.YtdkokblgakgklaaRowCnt
import Derived.Test.YtdkokblgakgklaaFactsCnt
namespace Go.Proofs.Ytdkokblgakgklaa

theorem holdsCountCuts : Rows.FnExactCountCutsSaid :=
  OpenClaim.holds_of_wide 7 Try.f7 rfl rfl rfl rfl rfl rfl rfl ⟨rfl, rfl, rfl, rfl, rfl⟩ rfl rfl rfl rfl rfl namedCountCuts Try.func7 closedCountCuts
    (of_decide_eq_true (by kernel_rfl)) wrapCountCuts
    (fun os started H enc _ => fnExactCountCuts_lifted os started H enc)
#print axioms holdsCountCuts
end Go.Proofs.Ytdkokblgakgklaa
