/- FnExactSquaresAtEdges returns true for every input and leaves its arguments as they were: no condition. -/
import Derived.Test.YtmcgcgclhmckeaaRowEdges
import Derived.Test.YtmcgcgclhmckeaaFactsEdges
namespace Go.Proofs.Ytmcgcgclhmckeaa

theorem holdsSquaresAtEdges : Rows.FnExactSquaresAtEdgesSaid :=
  OpenClaim.holds_of_wide 10 Try.f10 rfl rfl rfl rfl rfl rfl rfl ⟨rfl, rfl, rfl, rfl, rfl⟩ rfl rfl rfl rfl rfl namedSquaresAtEdges Try.func10 closedSquaresAtEdges
    (of_decide_eq_true (by kernel_rfl)) wrapSquaresAtEdges
    (fun os started H enc _ => fnExactSquaresAtEdges_lifted os started H enc)
#print axioms holdsSquaresAtEdges
end Go.Proofs.Ytmcgcgclhmckeaa
