/- FnExactOrderOfCode returns true for every input and leaves its arguments as they were: no condition. -/
import Derived.Test.YtmjdmedlkcmgiaaRowOrder
import Derived.Test.YtmjdmedlkcmgiaaFactsOrder
set_option linter.all false
namespace Go.Proofs.Ytmjdmedlkcmgiaa

theorem holdsOrderOfCode : Rows.FnExactOrderOfCodeSaid :=
  OpenClaim.holds_of_wide 7 Try.f7 rfl rfl rfl rfl rfl rfl rfl ⟨rfl, rfl, rfl, rfl, rfl⟩ rfl rfl rfl rfl rfl namedOrderOfCode Try.func7 closedOrderOfCode
    (of_decide_eq_true (by kernel_rfl)) wrapOrderOfCode
    (fun os started H enc _ => fnExactOrderOfCode_lifted os started H enc)
#print axioms holdsOrderOfCode
end Go.Proofs.Ytmjdmedlkcmgiaa
