/- FnExactCountWithoutCross returns true for every input and leaves its arguments as they were: no condition. -/
import Derived.Test.YtohajmbgdapnhaaRowCwc
import Derived.Test.YtohajmbgdapnhaaFactsCwc
namespace Go.Proofs.Ytohajmbgdapnhaa

theorem holdsCountWithoutCross : Rows.FnExactCountWithoutCrossSaid :=
  OpenClaim.holds_of_wide 8 Try.f8 rfl rfl rfl rfl rfl rfl rfl ⟨rfl, rfl, rfl, rfl, rfl⟩ rfl rfl rfl rfl rfl namedCountWithoutCross Try.func8 closedCountWithoutCross
    (of_decide_eq_true (by kernel_rfl)) wrapCountWithoutCross
    (fun os started H enc _ => fnExactCountWithoutCross_lifted os started H enc)
#print axioms holdsCountWithoutCross
end Go.Proofs.Ytohajmbgdapnhaa
