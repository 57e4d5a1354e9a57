/- FnExactOneSquare returns true for every input and leaves its arguments as they were: no condition. -/
import Derived.Test.YtgghkimjminbaaaRowOne
import Derived.Test.YtgghkimjminbaaaFactsOne
set_option linter.all false
namespace Go.Proofs.Ytgghkimjminbaaa

theorem holdsOneSquare : Rows.FnExactOneSquareSaid :=
  OpenClaim.holds_of_wide 5 Try.f5 rfl rfl rfl rfl rfl rfl rfl ⟨rfl, rfl, rfl, rfl, rfl⟩ rfl rfl rfl rfl rfl namedOneSquare Try.func5 closedOneSquare
    (of_decide_eq_true (by kernel_rfl)) wrapOneSquare
    (fun os started H enc _ => fnExactOneSquare_lifted os started H enc)
#print axioms holdsOneSquare
end Go.Proofs.Ytgghkimjminbaaa
