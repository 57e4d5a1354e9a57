/- FnExactFirstCode returns true for every input and leaves its arguments as they were: no condition. -/
import Derived.Test.YtchabjmdjpfkfaaRowFirstC
import Derived.Test.YtchabjmdjpfkfaaFactsFirstC
set_option linter.all false
namespace Go.Proofs.Ytchabjmdjpfkfaa

theorem holdsFirstCode : Rows.FnExactFirstCodeSaid :=
  OpenClaim.holds_of_wide 12 Try.f12 rfl rfl rfl rfl rfl rfl rfl ⟨rfl, rfl, rfl, rfl, rfl⟩ rfl rfl rfl rfl rfl namedFirstCode Try.func12 closedFirstCode
    (of_decide_eq_true (by kernel_rfl)) wrapFirstCode
    (fun os started H enc _ => fnExactFirstCode_lifted os started H enc)
#print axioms holdsFirstCode
end Go.Proofs.Ytchabjmdjpfkfaa
