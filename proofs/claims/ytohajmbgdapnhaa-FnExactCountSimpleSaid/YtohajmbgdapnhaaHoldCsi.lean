/- FnExactCountSimple returns true for every input and leaves its arguments as they were: no condition. -/
import Derived.Test.YtohajmbgdapnhaaRowCsi
import Derived.Test.YtohajmbgdapnhaaFactsCsi
namespace Go.Proofs.Ytohajmbgdapnhaa

theorem holdsCountSimple : Rows.FnExactCountSimpleSaid :=
  OpenClaim.holds_of_wide 7 Try.f7 rfl rfl rfl rfl rfl rfl rfl ⟨rfl, rfl, rfl, rfl, rfl⟩ rfl rfl rfl rfl rfl namedCountSimple Try.func7 closedCountSimple
    (of_decide_eq_true (by kernel_rfl)) wrapCountSimple
    (fun os started H enc _ => fnExactCountSimple_lifted os started H enc)
#print axioms holdsCountSimple
end Go.Proofs.Ytohajmbgdapnhaa
