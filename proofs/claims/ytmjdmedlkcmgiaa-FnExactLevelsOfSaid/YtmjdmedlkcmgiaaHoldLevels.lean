/- FnExactLevelsOf returns true for every input and leaves its arguments as they were: no condition. -/
import Derived.Test.YtmjdmedlkcmgiaaRowLevels
import Derived.Test.YtmjdmedlkcmgiaaFactsLevels
set_option linter.all false
namespace Go.Proofs.Ytmjdmedlkcmgiaa

theorem holdsLevelsOf : Rows.FnExactLevelsOfSaid :=
  OpenClaim.holds_of_wide 8 Try.f8 rfl rfl rfl rfl rfl rfl rfl ⟨rfl, rfl, rfl, rfl, rfl⟩ rfl rfl rfl rfl rfl namedLevelsOf Try.func8 closedLevelsOf
    (of_decide_eq_true (by kernel_rfl)) wrapLevelsOf
    (fun os started H enc _ => fnExactLevelsOf_lifted os started H enc)
#print axioms holdsLevelsOf
end Go.Proofs.Ytmjdmedlkcmgiaa
