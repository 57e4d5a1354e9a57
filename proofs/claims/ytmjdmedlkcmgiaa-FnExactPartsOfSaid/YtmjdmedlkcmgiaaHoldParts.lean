/- FnExactPartsOf returns true for every input and leaves its arguments as they were: no condition. -/
import Derived.Test.YtmjdmedlkcmgiaaRowParts
import Derived.Test.YtmjdmedlkcmgiaaFactsParts
set_option linter.all false
namespace Go.Proofs.Ytmjdmedlkcmgiaa

theorem holdsPartsOf : Rows.FnExactPartsOfSaid :=
  OpenClaim.holds_of_wide 13 Try.f13 rfl rfl rfl rfl rfl rfl rfl ⟨rfl, rfl, rfl, rfl, rfl⟩ rfl rfl rfl rfl rfl namedPartsOf Try.func13 closedPartsOf
    (of_decide_eq_true (by kernel_rfl)) wrapPartsOf
    (fun os started H enc _ => fnExactPartsOf_lifted os started H enc)
#print axioms holdsPartsOf
end Go.Proofs.Ytmjdmedlkcmgiaa
