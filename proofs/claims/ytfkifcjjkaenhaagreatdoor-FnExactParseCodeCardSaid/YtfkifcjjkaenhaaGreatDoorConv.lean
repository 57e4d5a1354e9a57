/- Contracts of the conversions of the laws' types into the program's, and of comparing, marking and reading marks. -/
import Derived.Test.YtfkifcjjkaenhaaGreatDoorLeaf
set_option linter.all false
namespace Go.Proofs.YtfkifcjjkaenhaaGreatDoor
open Go.RowKit

theorem infoSq : (Tryz.prog.info? 71).map (fun i => (i.zero, i.size, i.bytes)) = some (some (.agg #[.int .i64 0, .int .i64 0, .int .i64 0]), 3, 24) := by kernel_rfl

/-- A slice of squares of the call's own that reads as L. -/
def OwnSqs (w w' : World) (L : List Sq) (e : Ending) : Prop := ∃ g, e = .returned (.slice (some ⟨g, 0, none⟩) L.length L.length) ∧ Below w.heap.size w w' ∧ w'.ownsRow w.heap.size 71 3 (.slice (some ⟨g, 0, none⟩) L.length L.length) L.length (flat L)

end Go.Proofs.YtfkifcjjkaenhaaGreatDoor
