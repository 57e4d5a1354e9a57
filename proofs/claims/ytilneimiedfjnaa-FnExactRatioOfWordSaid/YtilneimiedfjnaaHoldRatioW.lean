/- FnExactRatioOfWord returns true for every input and leaves its arguments as they were: no condition. -/
import Derived.Test.YtilneimiedfjnaaRowRatioW
import Derived.Test.YtilneimiedfjnaaFactsRatioW
set_option linter.all false
namespace Go.Proofs.Ytilneimiedfjnaa

theorem holdsRatioOfWord : Rows.FnExactRatioOfWordSaid :=
  OpenClaim.holds_of_wide 9 Try.f9 rfl rfl rfl rfl rfl rfl rfl ⟨rfl, rfl, rfl, rfl, rfl⟩ rfl rfl rfl rfl rfl namedRatioOfWord Try.func9 closedRatioOfWord
    (of_decide_eq_true (by kernel_rfl)) wrapRatioOfWord
    (fun os started H enc _ => fnExactRatioOfWord_lifted os started H enc)
#print axioms holdsRatioOfWord
end Go.Proofs.Ytilneimiedfjnaa
