/- Contracts of the laws' helpers at lists of lists of numbers. -/
import Derived.Test.YtpbghalljfcaoaaSS
set_option linter.all false
namespace Go.Proofs.Ytpbghalljfcaoaa
open Go.RowKit

/-- What szIntSS returns: -1, or a number of at least 0 and the list is small. -/
def Sized (M : List (List Int)) (w : World) (e : Ending) (w' : World) : Prop := ∃ x : Int, e = .returned (.int .i64 x) ∧ (x = -1 ∨ (0 ≤ x ∧ M.length + tot M ≤ 1048576)) ∧ w = w'
end Go.Proofs.Ytpbghalljfcaoaa
