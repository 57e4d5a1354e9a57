/- FnExactCutsWithMost returns true for every input and leaves its arguments as they were: no condition. -/
import Derived.Test.YtdkokblgakgklaaRowMost
import Derived.Test.YtdkokblgakgklaaFactsMost
namespace Go.Proofs.Ytdkokblgakgklaa

theorem holdsCutsWithMost : Rows.FnExactCutsWithMostSaid :=
  OpenClaim.holds_of_wide 9 Try.f9 rfl rfl rfl rfl rfl rfl rfl ⟨rfl, rfl, rfl, rfl, rfl⟩ rfl rfl rfl rfl rfl namedCutsWithMost Try.func9 closedCutsWithMost
    (of_decide_eq_true (by kernel_rfl)) wrapCutsWithMost
    (fun os started H enc _ => fnExactCutsWithMost_lifted os started H enc)
#print axioms holdsCutsWithMost
end Go.Proofs.Ytdkokblgakgklaa
