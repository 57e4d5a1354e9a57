/- FnExactIsSimple returns true for every input and leaves its arguments as they were: no condition. -/
import Derived.Test.YtmjdmedlkcmgiaaRowSimple
import Derived.Test.YtmjdmedlkcmgiaaFactsSimple
set_option linter.all false
namespace Go.Proofs.Ytmjdmedlkcmgiaa

theorem holdsIsSimple : Rows.FnExactIsSimpleSaid :=
  OpenClaim.holds_of_wide 12 Try.f12 rfl rfl rfl rfl rfl rfl rfl ⟨rfl, rfl, rfl, rfl, rfl⟩ rfl rfl rfl rfl rfl namedIsSimple Try.func12 closedIsSimple
    (of_decide_eq_true (by kernel_rfl)) wrapIsSimple
    (fun os started H enc _ => fnExactIsSimple_lifted os started H enc)
#print axioms holdsIsSimple
end Go.Proofs.Ytmjdmedlkcmgiaa
