/- FnExactIsCutCode returns true for every input and leaves its arguments as they were: no condition. -/
import Derived.Test.YtmjdmedlkcmgiaaRowIsCode
import Derived.Test.YtmjdmedlkcmgiaaFactsIsCode
set_option linter.all false
namespace Go.Proofs.Ytmjdmedlkcmgiaa

theorem holdsIsCutCode : Rows.FnExactIsCutCodeSaid :=
  OpenClaim.holds_of_wide 6 Try.f6 rfl rfl rfl rfl rfl rfl rfl ⟨rfl, rfl, rfl, rfl, rfl⟩ rfl rfl rfl rfl rfl namedIsCutCode Try.func6 closedIsCutCode
    (of_decide_eq_true (by kernel_rfl)) wrapIsCutCode
    (fun os started H enc _ => fnExactIsCutCode_lifted os started H enc)
#print axioms holdsIsCutCode
end Go.Proofs.Ytmjdmedlkcmgiaa
