/- FnExactCutOfWord returns true for every input and leaves its arguments as they were: no condition. -/
import Derived.Test.YtakghnaklimliaaRowCutW
import Derived.Test.YtakghnaklimliaaFactsCutW
namespace Go.Proofs.Ytakghnaklimliaa

theorem holdsCutOfWord : Rows.FnExactCutOfWordSaid :=
  OpenClaim.holds_of_wide 3 Try.f3 rfl rfl rfl rfl rfl rfl rfl ⟨rfl, rfl, rfl, rfl, rfl⟩ rfl rfl rfl rfl rfl namedCutOfWord Try.func3 closedCutOfWord
    (of_decide_eq_true (by kernel_rfl)) wrapCutOfWord
    (fun os started H enc _ => fnExactCutOfWord_lifted os started H enc)
#print axioms holdsCutOfWord
end Go.Proofs.Ytakghnaklimliaa
