/- FnExactPartAcross returns true for every input and leaves its arguments as they were: no condition. -/
import Derived.Test.YtdkokblgakgklaaRowPartAcross
import Derived.Test.YtdkokblgakgklaaFactsPartAcross
set_option linter.all false
namespace Go.Proofs.Ytdkokblgakgklaa

theorem holdsPartAcross : Rows.FnExactPartAcrossSaid :=
  OpenClaim.holds_of_wide 4 Try.f4 rfl rfl rfl rfl rfl rfl rfl ⟨rfl, rfl, rfl, rfl, rfl⟩ rfl rfl rfl rfl rfl namedPartAcross Try.func4 closedPartAcross
    (of_decide_eq_true (by kernel_rfl)) wrapPartAcross
    (fun os started H enc _ => fnExactPartAcross_lifted os started H enc)
#print axioms holdsPartAcross
end Go.Proofs.Ytdkokblgakgklaa
