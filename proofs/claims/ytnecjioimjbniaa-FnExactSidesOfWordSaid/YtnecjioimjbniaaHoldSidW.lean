/- FnExactSidesOfWord returns true for every input and leaves its arguments as they were: no condition. -/
import Derived.Test.YtnecjioimjbniaaRowSidW
import Derived.Test.YtnecjioimjbniaaFactsSidW
namespace Go.Proofs.Ytnecjioimjbniaa

theorem holdsSidesOfWord : Rows.FnExactSidesOfWordSaid :=
  OpenClaim.holds_of_wide 5 Try.f5 rfl rfl rfl rfl rfl rfl rfl ⟨rfl, rfl, rfl, rfl, rfl⟩ rfl rfl rfl rfl rfl namedSidesOfWord Try.func5 closedSidesOfWord
    (of_decide_eq_true (by kernel_rfl)) wrapSidesOfWord
    (fun os started H enc _ => fnExactSidesOfWord_lifted os started H enc)
#print axioms holdsSidesOfWord
end Go.Proofs.Ytnecjioimjbniaa
