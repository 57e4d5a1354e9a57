/- FnExactSidesOf returns true for every input and leaves its arguments as they were: no condition. -/
import Derived.Test.YtmcgcgclhmckeaaRowSides
import Derived.Test.YtmcgcgclhmckeaaFactsSides
namespace Go.Proofs.Ytmcgcgclhmckeaa

theorem holdsSidesOf : Rows.FnExactSidesOfSaid :=
  OpenClaim.holds_of_wide 6 Try.f6 rfl rfl rfl rfl rfl rfl rfl ⟨rfl, rfl, rfl, rfl, rfl⟩ rfl rfl rfl rfl rfl namedSidesOf Try.func6 closedSidesOf
    (of_decide_eq_true (by kernel_rfl)) wrapSidesOf
    (fun os started H enc _ => fnExactSidesOf_lifted os started H enc)
#print axioms holdsSidesOf
end Go.Proofs.Ytmcgcgclhmckeaa
