/- FnExactIsPerfect returns true for every input and leaves its arguments as they were: no condition. -/
import Derived.Test.YtmcgcgclhmckeaaRowPerf
import Derived.Test.YtmcgcgclhmckeaaFactsPerf
namespace Go.Proofs.Ytmcgcgclhmckeaa

theorem holdsIsPerfect : Rows.FnExactIsPerfectSaid :=
  OpenClaim.holds_of_wide 7 Try.f7 rfl rfl rfl rfl rfl rfl rfl ⟨rfl, rfl, rfl, rfl, rfl⟩ rfl rfl rfl rfl rfl namedIsPerfect Try.func7 closedIsPerfect
    (of_decide_eq_true (by kernel_rfl)) wrapIsPerfect
    (fun os started H enc _ => fnExactIsPerfect_lifted os started H enc)
#print axioms holdsIsPerfect
end Go.Proofs.Ytmcgcgclhmckeaa
