/- Contracts of the program's turned and mirrored cuts. -/
import Derived.Test.YtakghnaklimliaaSortF
import Derived.Test.YtakghnaklimliaaGen
namespace Go.Proofs.Ytakghnaklimliaa
open Go.RowKit

theorem flat_map_succ (f : Sq → Sq) (L : List Sq) (k : Nat) (s : Sq) (h : L[k]? = some s) : flat ((L.take (k + 1)).map f) = flat ((L.take k).map f) ++ [.int .i64 (f s).x, .int .i64 (f s).y, .int .i64 (f s).d] := by
  rw [List.take_add_one, h]; simp [flat_app]; rfl
/-- A cut of these lengths whose squares, in their order, lie in memory of the call's own. -/
def RetOrd (w : World) (base : Nat) (X Y : Int) (L : List Sq) (e : Ending) (w' : World) : Prop :=
  ∃ (A : Option Addr) (c : Nat) (T : List Sq), e = .returned (.agg #[.int .i64 X, .int .i64 Y, .slice A L.length c]) ∧ T.Perm L ∧ T.Pairwise (fun a b => leB a b = true) ∧ w'.ownsRow base 67 3 (.slice A L.length c) L.length (flat T) ∧ Below w.heap.size w w'

end Go.Proofs.Ytakghnaklimliaa
