/- FnExactCutOfWord returns true for every input and leaves its arguments as they were: no condition. -/
import Derived.Test.YtilneimiedfjnaaRowCutW
import Derived.Test.YtilneimiedfjnaaFactsCutW
set_option linter.all false
namespace Go.Proofs.Ytilneimiedfjnaa

theorem holdsCutOfWord : Rows.FnExactCutOfWordSaid :=
  OpenClaim.holds_of_wide 10 Try.f10 rfl rfl rfl rfl rfl rfl rfl ⟨rfl, rfl, rfl, rfl, rfl⟩ rfl rfl rfl rfl rfl namedCutOfWord Try.func10 closedCutOfWord
    (of_decide_eq_true (by kernel_rfl)) wrapCutOfWord
    (fun os started H enc _ => fnExactCutOfWord_lifted os started H enc)
#print axioms holdsCutOfWord
end Go.Proofs.Ytilneimiedfjnaa
