/- FnExactSquaresAtEdges returns true for every input and leaves its arguments as they were: no condition. -/
import Derived.Test.YtgghkimjminbaaaRowEdges
import Derived.Test.YtgghkimjminbaaaFactsEdges
set_option linter.all false
namespace Go.Proofs.Ytgghkimjminbaaa

theorem holdsSquaresAtEdges : Rows.FnExactSquaresAtEdgesSaid :=
  OpenClaim.holds_of_wide 11 Try.f11 rfl rfl rfl rfl rfl rfl rfl ⟨rfl, rfl, rfl, rfl, rfl⟩ rfl rfl rfl rfl rfl namedSquaresAtEdges Try.func11 closedSquaresAtEdges
    (of_decide_eq_true (by kernel_rfl)) wrapSquaresAtEdges
    (fun os started H enc _ => fnExactSquaresAtEdges_lifted os started H enc)
#print axioms holdsSquaresAtEdges
end Go.Proofs.Ytgghkimjminbaaa
