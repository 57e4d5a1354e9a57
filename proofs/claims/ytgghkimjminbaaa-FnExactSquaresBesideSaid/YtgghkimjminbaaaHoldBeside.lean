/- FnExactSquaresBeside returns true for every input and leaves its arguments as they were: no condition. -/
import Derived.Test.YtgghkimjminbaaaRowBeside
import Derived.Test.YtgghkimjminbaaaFactsBeside
set_option linter.all false
namespace Go.Proofs.Ytgghkimjminbaaa

theorem holdsSquaresBeside : Rows.FnExactSquaresBesideSaid :=
  OpenClaim.holds_of_wide 10 Try.f10 rfl rfl rfl rfl rfl rfl rfl ⟨rfl, rfl, rfl, rfl, rfl⟩ rfl rfl rfl rfl rfl namedSquaresBeside Try.func10 closedSquaresBeside
    (of_decide_eq_true (by kernel_rfl)) wrapSquaresBeside
    (fun os started H enc _ => fnExactSquaresBeside_lifted os started H enc)
#print axioms holdsSquaresBeside
end Go.Proofs.Ytgghkimjminbaaa
