/- FnExactCutsWithMost returns true for every input and leaves its arguments as they were: no condition. -/
import Derived.Test.YtchabjmdjpfkfaaRowMost
import Derived.Test.YtchabjmdjpfkfaaFactsMost
set_option linter.all false
namespace Go.Proofs.Ytchabjmdjpfkfaa

theorem holdsCutsWithMost : Rows.FnExactCutsWithMostSaid :=
  OpenClaim.holds_of_wide 5 Try.f5 rfl rfl rfl rfl rfl rfl rfl ⟨rfl, rfl, rfl, rfl, rfl⟩ rfl rfl rfl rfl rfl namedCutsWithMost Try.func5 closedCutsWithMost
    (of_decide_eq_true (by kernel_rfl)) wrapCutsWithMost
    (fun os started H enc _ => fnExactCutsWithMost_lifted os started H enc)
#print axioms holdsCutsWithMost
end Go.Proofs.Ytchabjmdjpfkfaa
