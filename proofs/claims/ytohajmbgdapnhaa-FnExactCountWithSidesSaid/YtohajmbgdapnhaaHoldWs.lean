/- FnExactCountWithSides returns true for every input and leaves its arguments as they were: no condition. -/
import Derived.Test.YtohajmbgdapnhaaRowWs
import Derived.Test.YtohajmbgdapnhaaFactsWs
set_option linter.all false
namespace Go.Proofs.Ytohajmbgdapnhaa

theorem holdsCountWithSides : Rows.FnExactCountWithSidesSaid :=
  OpenClaim.holds_of_wide 6 Try.f6 rfl rfl rfl rfl rfl rfl rfl ⟨rfl, rfl, rfl, rfl, rfl⟩ rfl rfl rfl rfl rfl namedCountWithSides Try.func6 closedCountWithSides
    (of_decide_eq_true (by kernel_rfl)) wrapCountWithSides
    (fun os started H enc _ => fnExactCountWithSides_lifted os started H enc)
#print axioms holdsCountWithSides
end Go.Proofs.Ytohajmbgdapnhaa
