/- FnExactCodeOf returns true for every input and leaves its arguments as they were: no condition. -/
import Derived.Test.YtmjdmedlkcmgiaaRowCodeOf
import Derived.Test.YtmjdmedlkcmgiaaFactsCodeOf
set_option linter.all false
namespace Go.Proofs.Ytmjdmedlkcmgiaa

theorem holdsCodeOf : Rows.FnExactCodeOfSaid :=
  OpenClaim.holds_of_wide 3 Try.f3 rfl rfl rfl rfl rfl rfl rfl ⟨rfl, rfl, rfl, rfl, rfl⟩ rfl rfl rfl rfl rfl namedCodeOf Try.func3 closedCodeOf
    (of_decide_eq_true (by kernel_rfl)) wrapCodeOf
    (fun os started H enc _ => fnExactCodeOf_lifted os started H enc)
#print axioms holdsCodeOf
end Go.Proofs.Ytmjdmedlkcmgiaa
