/- FnExactWidthOfCode returns true for every input and leaves its arguments as they were: no condition. -/
import Derived.Test.YtmjdmedlkcmgiaaRowWidth
import Derived.Test.YtmjdmedlkcmgiaaFactsWidth
set_option linter.all false
namespace Go.Proofs.Ytmjdmedlkcmgiaa

theorem holdsWidthOfCode : Rows.FnExactWidthOfCodeSaid :=
  OpenClaim.holds_of_wide 10 Try.f10 rfl rfl rfl rfl rfl rfl rfl ⟨rfl, rfl, rfl, rfl, rfl⟩ rfl rfl rfl rfl rfl namedWidthOfCode Try.func10 closedWidthOfCode
    (of_decide_eq_true (by kernel_rfl)) wrapWidthOfCode
    (fun os started H enc _ => fnExactWidthOfCode_lifted os started H enc)
#print axioms holdsWidthOfCode
end Go.Proofs.Ytmjdmedlkcmgiaa
