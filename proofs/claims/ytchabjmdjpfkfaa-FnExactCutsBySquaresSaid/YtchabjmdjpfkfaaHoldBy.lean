/- FnExactCutsBySquares returns true for every input and leaves its arguments as they were: no condition. -/
import Derived.Test.YtchabjmdjpfkfaaRowBy
import Derived.Test.YtchabjmdjpfkfaaFactsBy
set_option linter.all false
namespace Go.Proofs.Ytchabjmdjpfkfaa

theorem holdsCutsBySquares : Rows.FnExactCutsBySquaresSaid :=
  OpenClaim.holds_of_wide 4 Try.f4 rfl rfl rfl rfl rfl rfl rfl ⟨rfl, rfl, rfl, rfl, rfl⟩ rfl rfl rfl rfl rfl namedCutsBySquares Try.func4 closedCutsBySquares
    (of_decide_eq_true (by kernel_rfl)) wrapCutsBySquares
    (fun os started H enc _ => fnExactCutsBySquares_lifted os started H enc)
#print axioms holdsCutsBySquares
end Go.Proofs.Ytchabjmdjpfkfaa
