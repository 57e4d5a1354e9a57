/- FnExactFillSides returns true for every input and leaves its arguments as they were: no condition. -/
import Derived.Test.YtohajmbgdapnhaaRowFs
import Derived.Test.YtohajmbgdapnhaaFactsFs
namespace Go.Proofs.Ytohajmbgdapnhaa

theorem holdsFillSides : Rows.FnExactFillSidesSaid :=
  OpenClaim.holds_of_wide 10 Try.f10 rfl rfl rfl rfl rfl rfl rfl ⟨rfl, rfl, rfl, rfl, rfl⟩ rfl rfl rfl rfl rfl namedFillSides Try.func10 closedFillSides
    (of_decide_eq_true (by kernel_rfl)) wrapFillSides
    (fun os started H enc _ => fnExactFillSides_lifted os started H enc)
#print axioms holdsFillSides
end Go.Proofs.Ytohajmbgdapnhaa
