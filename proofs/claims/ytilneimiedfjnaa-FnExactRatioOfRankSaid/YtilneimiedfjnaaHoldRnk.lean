/- FnExactRatioOfRank returns true for every input and leaves its arguments as they were: no condition. -/
import Derived.Test.YtilneimiedfjnaaRowRnk
import Derived.Test.YtilneimiedfjnaaFactsRnk
set_option linter.all false
namespace Go.Proofs.Ytilneimiedfjnaa

theorem holdsRatioOfRank : Rows.FnExactRatioOfRankSaid :=
  OpenClaim.holds_of_wide 13 Try.f13 rfl rfl rfl rfl rfl rfl rfl ⟨rfl, rfl, rfl, rfl, rfl⟩ rfl rfl rfl rfl rfl namedRatioOfRank Try.func13 closedRatioOfRank
    (of_decide_eq_true (by kernel_rfl)) wrapRatioOfRank
    (fun os started H enc _ => fnExactRatioOfRank_lifted os started H enc)
#print axioms holdsRatioOfRank
end Go.Proofs.Ytilneimiedfjnaa
