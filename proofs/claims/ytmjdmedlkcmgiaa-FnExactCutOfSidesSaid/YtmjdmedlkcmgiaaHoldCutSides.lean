/- FnExactCutOfSides returns true for every input and leaves its arguments as they were: no condition. -/
import Derived.Test.YtmjdmedlkcmgiaaRowCutSides
import Derived.Test.YtmjdmedlkcmgiaaFactsCutSides
set_option linter.all false
namespace Go.Proofs.Ytmjdmedlkcmgiaa

theorem holdsCutOfSides : Rows.FnExactCutOfSidesSaid :=
  OpenClaim.holds_of_wide 5 Try.f5 rfl rfl rfl rfl rfl rfl rfl ⟨rfl, rfl, rfl, rfl, rfl⟩ rfl rfl rfl rfl rfl namedCutOfSides Try.func5 closedCutOfSides
    (of_decide_eq_true (by kernel_rfl)) wrapCutOfSides
    (fun os started H enc _ => fnExactCutOfSides_lifted os started H enc)
#print axioms holdsCutOfSides
end Go.Proofs.Ytmjdmedlkcmgiaa
