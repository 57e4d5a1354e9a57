/- FnExactCutOfFill returns true for every input and leaves its arguments as they were: no condition. -/
import Derived.Test.YtohajmbgdapnhaaRowCof
import Derived.Test.YtohajmbgdapnhaaFactsCof
set_option linter.all false
namespace Go.Proofs.Ytohajmbgdapnhaa

theorem holdsCutOfFill : Rows.FnExactCutOfFillSaid :=
  OpenClaim.holds_of_wide 11 Try.f11 rfl rfl rfl rfl rfl rfl rfl ⟨rfl, rfl, rfl, rfl, rfl⟩ rfl rfl rfl rfl rfl namedCutOfFill Try.func11 closedCutOfFill
    (of_decide_eq_true (by kernel_rfl)) wrapCutOfFill
    (fun os started H enc _ => fnExactCutOfFill_lifted os started H enc)
#print axioms holdsCutOfFill
end Go.Proofs.Ytohajmbgdapnhaa
