/- FnExactCutsBySquares returns true for every input and leaves its arguments as they were: no condition. -/
import Derived.Test.YtdkokblgakgklaaRowBy
import Derived.Test.YtdkokblgakgklaaFactsBy
namespace Go.Proofs.Ytdkokblgakgklaa

theorem holdsCutsBySquares : Rows.FnExactCutsBySquaresSaid :=
  OpenClaim.holds_of_wide 8 Try.f8 rfl rfl rfl rfl rfl rfl rfl ⟨rfl, rfl, rfl, rfl, rfl⟩ rfl rfl rfl rfl rfl namedCutsBySquares Try.func8 closedCutsBySquares
    (of_decide_eq_true (by kernel_rfl)) wrapCutsBySquares
    (fun os started H enc _ => fnExactCutsBySquares_lifted os started H enc)
#print axioms holdsCutsBySquares
end Go.Proofs.Ytdkokblgakgklaa
