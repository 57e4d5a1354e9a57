/- FnExactIsWholeStrip returns true for every input and leaves its arguments as they were: no condition. -/
import Derived.Test.YtohajmbgdapnhaaRowWh
import Derived.Test.YtohajmbgdapnhaaFactsWh
namespace Go.Proofs.Ytohajmbgdapnhaa

theorem holdsIsWholeStrip : Rows.FnExactIsWholeStripSaid :=
  OpenClaim.holds_of_wide 13 Try.f13 rfl rfl rfl rfl rfl rfl rfl ⟨rfl, rfl, rfl, rfl, rfl⟩ rfl rfl rfl rfl rfl namedIsWholeStrip Try.func13 closedIsWholeStrip
    (of_decide_eq_true (by kernel_rfl)) wrapIsWholeStrip
    (fun os started H enc _ => fnExactIsWholeStrip_lifted os started H enc)
#print axioms holdsIsWholeStrip
end Go.Proofs.Ytohajmbgdapnhaa
