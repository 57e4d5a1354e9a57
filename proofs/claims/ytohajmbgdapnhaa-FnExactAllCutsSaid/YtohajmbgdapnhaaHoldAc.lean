/- FnExactAllCuts returns true for every input and leaves its arguments as they were: no condition. -/
import Derived.Test.YtohajmbgdapnhaaRowAc
import Derived.Test.YtohajmbgdapnhaaFactsAc
namespace Go.Proofs.Ytohajmbgdapnhaa

theorem holdsAllCuts : Rows.FnExactAllCutsSaid :=
  OpenClaim.holds_of_wide 3 Try.f3 rfl rfl rfl rfl rfl rfl rfl ⟨rfl, rfl, rfl, rfl, rfl⟩ rfl rfl rfl rfl rfl namedAllCuts Try.func3 closedAllCuts
    (of_decide_eq_true (by kernel_rfl)) wrapAllCuts
    (fun os started H enc _ => fnExactAllCuts_lifted os started H enc)
#print axioms holdsAllCuts
end Go.Proofs.Ytohajmbgdapnhaa
