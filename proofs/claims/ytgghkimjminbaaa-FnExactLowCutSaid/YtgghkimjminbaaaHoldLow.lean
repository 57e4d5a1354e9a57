/- FnExactLowCut returns true for every input and leaves its arguments as they were: no condition. -/
import Derived.Test.YtgghkimjminbaaaRowLow
import Derived.Test.YtgghkimjminbaaaFactsLow
set_option linter.all false
namespace Go.Proofs.Ytgghkimjminbaaa

theorem holdsLowCut : Rows.FnExactLowCutSaid :=
  OpenClaim.holds_of_wide 12 Try.f12 rfl rfl rfl rfl rfl rfl rfl ⟨rfl, rfl, rfl, rfl, rfl⟩ rfl rfl rfl rfl rfl namedLowCut Try.func12 closedLowCut
    (of_decide_eq_true (by kernel_rfl)) wrapLowCut
    (fun os started H enc _ => fnExactLowCut_lifted os started H enc)
#print axioms holdsLowCut
end Go.Proofs.Ytgghkimjminbaaa
