/- FnExactPartDown returns true for every input and leaves its arguments as they were: no condition. -/
import Derived.Test.YtdkokblgakgklaaRowPartDown
import Derived.Test.YtdkokblgakgklaaFactsPartDown
set_option linter.all false
namespace Go.Proofs.Ytdkokblgakgklaa

theorem holdsPartDown : Rows.FnExactPartDownSaid :=
  OpenClaim.holds_of_wide 3 Try.f3 rfl rfl rfl rfl rfl rfl rfl ⟨rfl, rfl, rfl, rfl, rfl⟩ rfl rfl rfl rfl rfl namedPartDown Try.func3 closedPartDown
    (of_decide_eq_true (by kernel_rfl)) wrapPartDown
    (fun os started H enc _ => fnExactPartDown_lifted os started H enc)
#print axioms holdsPartDown
end Go.Proofs.Ytdkokblgakgklaa
