/- Conv, Conv2: texts in one. -/
import Derived.Test.YtchabjmdjpfkfaaGreatLeaf
set_option linter.all false
namespace Go.Proofs.YtchabjmdjpfkfaaGreat
open Go.RowKit

theorem infoSq : (Tryz.prog.info? 69).map (fun i => (i.zero, i.size, i.bytes)) = some (some (.agg #[.int .i64 0, .int .i64 0, .int .i64 0]), 3, 24) := by kernel_rfl

/-- A slice of squares of the call's own that reads as L. -/
def OwnSqs (w w' : World) (L : List Sq) (e : Ending) : Prop := ∃ g, e = .returned (.slice (some ⟨g, 0, none⟩) L.length L.length) ∧ Below w.heap.size w w' ∧ w'.ownsRow w.heap.size 69 3 (.slice (some ⟨g, 0, none⟩) L.length L.length) L.length (flat L)

end Go.Proofs.YtchabjmdjpfkfaaGreat
namespace Go.Proofs.YtchabjmdjpfkfaaGreat
open Go.RowKit

/-- A cut of the call's own that reads as W, H, L. -/
def OwnCut (w w' : World) (W H : Int) (L : List Sq) (e : Ending) : Prop := ∃ g, e = .returned (.agg #[.int .i64 W, .int .i64 H, .slice (some ⟨g, 0, none⟩) L.length L.length]) ∧ Below w.heap.size w w' ∧ w'.ownsRow w.heap.size 69 3 (.slice (some ⟨g, 0, none⟩) L.length L.length) L.length (flat L)

end Go.Proofs.YtchabjmdjpfkfaaGreat
