/- The program's ranges over all cuts of a width and a height. -/
import Derived.Test.YtebnekicbcdnaaaRfz
import Derived.Test.YtebnekicbcdnaaaFn
set_option linter.all false
namespace Go.Proofs.Ytebnekicbcdnaaa
open Go.RowKit Go.Shelf
attribute [local go_sem] Oper.semAt_some

/-- All cuts of a width and a height, in their order. -/
noncomputable def allF (W H : Nat) : List (List Sq) := fills 6 H (W * H) (List.replicate W 0)
theorem sum_zeros (n : Nat) : (List.replicate n (0 : Int)).sum = 0 := by induction n with | zero => rfl | succ n ih => simp [List.replicate_succ]
theorem free_start (W H : Nat) : free W H (List.replicate W 0) = W * H := by
  unfold free
  rw [sum_zeros]
  have : ((W : Int) * (H : Int)) = ((W * H : Nat) : Int) := by simp
  omega
theorem pad_zeros {W : Nat} (h : W ≤ 13) : arr (pad (List.replicate W 0)) = .agg #[.int .i64 0, .int .i64 0, .int .i64 0, .int .i64 0, .int .i64 0, .int .i64 0, .int .i64 0, .int .i64 0, .int .i64 0, .int .i64 0, .int .i64 0, .int .i64 0, .int .i64 0] := by
  have e : pad (List.replicate W 0) = List.replicate 13 0 := by
    unfold pad
    rw [List.length_replicate, List.replicate_append_replicate]
    congr 1; omega
  rw [e]; rfl

end Go.Proofs.Ytebnekicbcdnaaa
