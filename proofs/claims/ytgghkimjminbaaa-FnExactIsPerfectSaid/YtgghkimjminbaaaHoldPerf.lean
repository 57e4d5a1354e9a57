/- FnExactIsPerfect returns true for every input and leaves its arguments as they were: no condition. -/
import Derived.Test.YtgghkimjminbaaaRowPerf
import Derived.Test.YtgghkimjminbaaaFactsPerf
set_option linter.all false
namespace Go.Proofs.Ytgghkimjminbaaa

theorem holdsIsPerfect : Rows.FnExactIsPerfectSaid :=
  OpenClaim.holds_of_wide 8 Try.f8 rfl rfl rfl rfl rfl rfl rfl ⟨rfl, rfl, rfl, rfl, rfl⟩ rfl rfl rfl rfl rfl namedIsPerfect Try.func8 closedIsPerfect
    (of_decide_eq_true (by kernel_rfl)) wrapIsPerfect
    (fun os started H enc _ => fnExactIsPerfect_lifted os started H enc)
#print axioms holdsIsPerfect
end Go.Proofs.Ytgghkimjminbaaa
