/- FnExactLowCut returns true for every input and leaves its arguments as they were: no condition. -/
import Derived.Test.YtmcgcgclhmckeaaRowLow
import Derived.Test.YtmcgcgclhmckeaaFactsLow
namespace Go.Proofs.Ytmcgcgclhmckeaa

theorem holdsLowCut : Rows.FnExactLowCutSaid :=
  OpenClaim.holds_of_wide 18 Try.f18 rfl rfl rfl rfl rfl rfl rfl ⟨rfl, rfl, rfl, rfl, rfl⟩ rfl rfl rfl rfl rfl namedLowCut Try.func18 closedLowCut
    (of_decide_eq_true (by kernel_rfl)) wrapLowCut
    (fun os started H enc _ => fnExactLowCut_lifted os started H enc)
#print axioms holdsLowCut
end Go.Proofs.Ytmcgcgclhmckeaa
