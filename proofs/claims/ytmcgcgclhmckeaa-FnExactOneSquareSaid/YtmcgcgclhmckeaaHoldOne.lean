/- FnExactOneSquare returns true for every input and leaves its arguments as they were: no condition. -/
import Derived.Test.YtmcgcgclhmckeaaRowOne
import Derived.Test.YtmcgcgclhmckeaaFactsOne
namespace Go.Proofs.Ytmcgcgclhmckeaa

theorem holdsOneSquare : Rows.FnExactOneSquareSaid :=
  OpenClaim.holds_of_wide 4 Try.f4 rfl rfl rfl rfl rfl rfl rfl ⟨rfl, rfl, rfl, rfl, rfl⟩ rfl rfl rfl rfl rfl namedOneSquare Try.func4 closedOneSquare
    (of_decide_eq_true (by kernel_rfl)) wrapOneSquare
    (fun os started H enc _ => fnExactOneSquare_lifted os started H enc)
#print axioms holdsOneSquare
end Go.Proofs.Ytmcgcgclhmckeaa
