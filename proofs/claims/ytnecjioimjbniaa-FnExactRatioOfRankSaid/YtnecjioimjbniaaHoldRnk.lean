/- FnExactRatioOfRank returns true for every input and leaves its arguments as they were: no condition. -/
import Derived.Test.YtnecjioimjbniaaRowRnk
import Derived.Test.YtnecjioimjbniaaFactsRnk
namespace Go.Proofs.Ytnecjioimjbniaa

theorem holdsRatioOfRank : Rows.FnExactRatioOfRankSaid :=
  OpenClaim.holds_of_wide 8 Try.f8 rfl rfl rfl rfl rfl rfl rfl ⟨rfl, rfl, rfl, rfl, rfl⟩ rfl rfl rfl rfl rfl namedRatioOfRank Try.func8 closedRatioOfRank
    (of_decide_eq_true (by kernel_rfl)) wrapRatioOfRank
    (fun os started H enc _ => fnExactRatioOfRank_lifted os started H enc)
#print axioms holdsRatioOfRank
end Go.Proofs.Ytnecjioimjbniaa
