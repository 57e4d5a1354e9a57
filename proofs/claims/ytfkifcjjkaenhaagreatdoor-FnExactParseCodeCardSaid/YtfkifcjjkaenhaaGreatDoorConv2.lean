/- Contracts of the conversions of cuts, and of comparing cuts. -/
import Derived.Test.YtfkifcjjkaenhaaGreatDoorConv
set_option linter.all false
namespace Go.Proofs.YtfkifcjjkaenhaaGreatDoor
open Go.RowKit

/-- A cut of the call's own that reads as W, H, L. -/
def OwnCut (w w' : World) (W H : Int) (L : List Sq) (e : Ending) : Prop := ∃ g, e = .returned (.agg #[.int .i64 W, .int .i64 H, .slice (some ⟨g, 0, none⟩) L.length L.length]) ∧ Below w.heap.size w w' ∧ w'.ownsRow w.heap.size 71 3 (.slice (some ⟨g, 0, none⟩) L.length L.length) L.length (flat L)

end Go.Proofs.YtfkifcjjkaenhaaGreatDoor
