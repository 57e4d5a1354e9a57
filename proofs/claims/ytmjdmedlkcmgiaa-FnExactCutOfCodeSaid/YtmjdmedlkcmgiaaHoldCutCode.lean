/- FnExactCutOfCode returns true for every input and leaves its arguments as they were: no condition. -/
import Derived.Test.YtmjdmedlkcmgiaaRowCutCode
import Derived.Test.YtmjdmedlkcmgiaaFactsCutCode
set_option linter.all false
namespace Go.Proofs.Ytmjdmedlkcmgiaa

theorem holdsCutOfCode : Rows.FnExactCutOfCodeSaid :=
  OpenClaim.holds_of_wide 4 Try.f4 rfl rfl rfl rfl rfl rfl rfl ⟨rfl, rfl, rfl, rfl, rfl⟩ rfl rfl rfl rfl rfl namedCutOfCode Try.func4 closedCutOfCode
    (of_decide_eq_true (by kernel_rfl)) wrapCutOfCode
    (fun os started H enc _ => fnExactCutOfCode_lifted os started H enc)
#print axioms holdsCutOfCode
end Go.Proofs.Ytmjdmedlkcmgiaa
