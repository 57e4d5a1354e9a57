/- FnExactRankOfCut returns true for every input and leaves its arguments as they were: no condition. -/
import Derived.Test.YtohajmbgdapnhaaRowRk
import Derived.Test.YtohajmbgdapnhaaFactsRk
namespace Go.Proofs.Ytohajmbgdapnhaa

theorem holdsRankOfCut : Rows.FnExactRankOfCutSaid :=
  OpenClaim.holds_of_wide 5 Try.f5 rfl rfl rfl rfl rfl rfl rfl ⟨rfl, rfl, rfl, rfl, rfl⟩ rfl rfl rfl rfl rfl namedRankOfCut Try.func5 closedRankOfCut
    (of_decide_eq_true (by kernel_rfl)) wrapRankOfCut
    (fun os started H enc _ => fnExactRankOfCut_lifted os started H enc)
#print axioms holdsRankOfCut
end Go.Proofs.Ytohajmbgdapnhaa
