/- FnExactCutOfRank returns true for every input and leaves its arguments as they were: no condition. -/
import Derived.Test.YtohajmbgdapnhaaRowRo
import Derived.Test.YtohajmbgdapnhaaFactsRo
namespace Go.Proofs.Ytohajmbgdapnhaa

theorem holdsCutOfRank : Rows.FnExactCutOfRankSaid :=
  OpenClaim.holds_of_wide 4 Try.f4 rfl rfl rfl rfl rfl rfl rfl ⟨rfl, rfl, rfl, rfl, rfl⟩ rfl rfl rfl rfl rfl namedCutOfRank Try.func4 closedCutOfRank
    (of_decide_eq_true (by kernel_rfl)) wrapCutOfRank
    (fun os started H enc _ => fnExactCutOfRank_lifted os started H enc)
#print axioms holdsCutOfRank
end Go.Proofs.Ytohajmbgdapnhaa
