/- RatioOfWord: the program's and the model's. -/
import Derived.Test.YtakghnaklimliaaPutM
namespace Go.Proofs.Ytakghnaklimliaa
open Go.RowKit

def ratB (a b : Int) : Bool := inB a 1 1000 && inB b 1 1000
def rat2 (a b : Int) : Int × Int × Bool := if ratB a b then (a, b, true) else (0, 0, false)
theorem rat2_yes {a b : Int} (h : ratB a b = true) : rat2 a b = (a, b, true) := by simp [rat2, h]
theorem rat2_no {a b : Int} (h : ratB a b = false) : rat2 a b = (0, 0, false) := by simp [rat2, h]
noncomputable def ratW (s : ByteArray) : Int × Int × Bool := rat2 (putA s) (putB s)
def RetR (w : World) (r : Int × Int × Bool) (e : Ending) (w' : World) : Prop := e = .returned (.tuple #[.int .i64 r.1, .int .i64 r.2.1, .bool r.2.2]) ∧ Below w.heap.size w w'
theorem put_yes {s : ByteArray} (h : WordG (wcs s)) : putA s = (putF (wcs s)).1 ∧ putB s = (putF (wcs s)).2.1 ∧ putQ s = (putF (wcs s)).2.2 := by
  unfold putA putB putQ
  rw [dc_true h]
  exact ⟨rfl, rfl, rfl⟩
theorem put_no {s : ByteArray} (h : ¬ WordG (wcs s)) : putA s = 0 ∧ putB s = 0 ∧ putQ s = [] := by
  unfold putA putB putQ
  rw [dc_false h]
  exact ⟨rfl, rfl, rfl⟩
end Go.Proofs.Ytakghnaklimliaa
