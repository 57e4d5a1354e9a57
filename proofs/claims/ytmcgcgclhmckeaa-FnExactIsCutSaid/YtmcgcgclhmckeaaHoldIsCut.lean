/- FnExactIsCut returns true for every input and leaves its arguments as they were: no condition. -/
import Derived.Test.YtmcgcgclhmckeaaRowIsCut
import Derived.Test.YtmcgcgclhmckeaaFactsIsCut
namespace Go.Proofs.Ytmcgcgclhmckeaa

theorem holdsIsCut : Rows.FnExactIsCutSaid :=
  OpenClaim.holds_of_wide 3 Try.f3 rfl rfl rfl rfl rfl rfl rfl ⟨rfl, rfl, rfl, rfl, rfl⟩ rfl rfl rfl rfl rfl namedIsCut Try.func3 closedIsCut
    (of_decide_eq_true (by kernel_rfl)) wrapIsCut
    (fun os started H enc _ => fnExactIsCut_lifted os started H enc)
#print axioms holdsIsCut
end Go.Proofs.Ytmcgcgclhmckeaa
