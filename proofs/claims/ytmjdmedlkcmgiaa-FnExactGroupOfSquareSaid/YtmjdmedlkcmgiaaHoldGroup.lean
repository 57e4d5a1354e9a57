/- FnExactGroupOfSquare returns true for every input and leaves its arguments as they were: no condition. -/
import Derived.Test.YtmjdmedlkcmgiaaRowGroup
import Derived.Test.YtmjdmedlkcmgiaaFactsGroup
set_option linter.all false
namespace Go.Proofs.Ytmjdmedlkcmgiaa

theorem holdsGroupOfSquare : Rows.FnExactGroupOfSquareSaid :=
  OpenClaim.holds_of_wide 9 Try.f9 rfl rfl rfl rfl rfl rfl rfl ⟨rfl, rfl, rfl, rfl, rfl⟩ rfl rfl rfl rfl rfl namedGroupOfSquare Try.func9 closedGroupOfSquare
    (of_decide_eq_true (by kernel_rfl)) wrapGroupOfSquare
    (fun os started H enc _ => fnExactGroupOfSquare_lifted os started H enc)
#print axioms holdsGroupOfSquare
end Go.Proofs.Ytmjdmedlkcmgiaa
