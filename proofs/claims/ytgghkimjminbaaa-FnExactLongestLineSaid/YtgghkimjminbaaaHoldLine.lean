/- FnExactLongestLine returns true for every input and leaves its arguments as they were: no condition. -/
import Derived.Test.YtgghkimjminbaaaRowLine
import Derived.Test.YtgghkimjminbaaaFactsLine
set_option linter.all false
namespace Go.Proofs.Ytgghkimjminbaaa

theorem holdsLongestLine : Rows.FnExactLongestLineSaid :=
  OpenClaim.holds_of_wide 14 Try.f14 rfl rfl rfl rfl rfl rfl rfl ⟨rfl, rfl, rfl, rfl, rfl⟩ rfl rfl rfl rfl rfl namedLongestLine Try.func14 closedLongestLine
    (of_decide_eq_true (by kernel_rfl)) wrapLongestLine
    (fun os started H enc _ => fnExactLongestLine_lifted os started H enc)
#print axioms holdsLongestLine
end Go.Proofs.Ytgghkimjminbaaa
