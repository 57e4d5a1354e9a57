/- FnExactCutOfWord returns true for every input and leaves its arguments as they were: no condition. -/
import Derived.Test.YtnecjioimjbniaaRowCutW
import Derived.Test.YtnecjioimjbniaaFactsCutW
namespace Go.Proofs.Ytnecjioimjbniaa

theorem holdsCutOfWord : Rows.FnExactCutOfWordSaid :=
  OpenClaim.holds_of_wide 4 Try.f4 rfl rfl rfl rfl rfl rfl rfl ⟨rfl, rfl, rfl, rfl, rfl⟩ rfl rfl rfl rfl rfl namedCutOfWord Try.func4 closedCutOfWord
    (of_decide_eq_true (by kernel_rfl)) wrapCutOfWord
    (fun os started H enc _ => fnExactCutOfWord_lifted os started H enc)
#print axioms holdsCutOfWord
end Go.Proofs.Ytnecjioimjbniaa
