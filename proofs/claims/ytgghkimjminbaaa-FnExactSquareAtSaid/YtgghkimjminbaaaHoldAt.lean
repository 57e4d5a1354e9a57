/- FnExactSquareAt returns true for every input and leaves its arguments as they were: no condition. -/
import Derived.Test.YtgghkimjminbaaaRowAt
import Derived.Test.YtgghkimjminbaaaFactsAt
set_option linter.all false
namespace Go.Proofs.Ytgghkimjminbaaa

theorem holdsSquareAt : Rows.FnExactSquareAtSaid :=
  OpenClaim.holds_of_wide 9 Try.f9 rfl rfl rfl rfl rfl rfl rfl ⟨rfl, rfl, rfl, rfl, rfl⟩ rfl rfl rfl rfl rfl namedSquareAt Try.func9 closedSquareAt
    (of_decide_eq_true (by kernel_rfl)) wrapSquareAt
    (fun os started H enc _ => fnExactSquareAt_lifted os started H enc)
#print axioms holdsSquareAt
end Go.Proofs.Ytgghkimjminbaaa
