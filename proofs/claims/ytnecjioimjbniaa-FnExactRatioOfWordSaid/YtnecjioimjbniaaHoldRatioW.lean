/- FnExactRatioOfWord returns true for every input and leaves its arguments as they were: no condition. -/
import Derived.Test.YtnecjioimjbniaaRowRatioW
import Derived.Test.YtnecjioimjbniaaFactsRatioW
namespace Go.Proofs.Ytnecjioimjbniaa

theorem holdsRatioOfWord : Rows.FnExactRatioOfWordSaid :=
  OpenClaim.holds_of_wide 3 Try.f3 rfl rfl rfl rfl rfl rfl rfl ⟨rfl, rfl, rfl, rfl, rfl⟩ rfl rfl rfl rfl rfl namedRatioOfWord Try.func3 closedRatioOfWord
    (of_decide_eq_true (by kernel_rfl)) wrapRatioOfWord
    (fun os started H enc _ => fnExactRatioOfWord_lifted os started H enc)
#print axioms holdsRatioOfWord
end Go.Proofs.Ytnecjioimjbniaa
