/- FnExactSquareAt returns true for every input and leaves its arguments as they were: no condition. -/
import Derived.Test.YtmcgcgclhmckeaaRowAt
import Derived.Test.YtmcgcgclhmckeaaFactsAt
namespace Go.Proofs.Ytmcgcgclhmckeaa

theorem holdsSquareAt : Rows.FnExactSquareAtSaid :=
  OpenClaim.holds_of_wide 8 Try.f8 rfl rfl rfl rfl rfl rfl rfl ⟨rfl, rfl, rfl, rfl, rfl⟩ rfl rfl rfl rfl rfl namedSquareAt Try.func8 closedSquareAt
    (of_decide_eq_true (by kernel_rfl)) wrapSquareAt
    (fun os started H enc _ => fnExactSquareAt_lifted os started H enc)
#print axioms holdsSquareAt
end Go.Proofs.Ytmcgcgclhmckeaa
