/- Sizes of counted cuts. -/
import Derived.Test.YtbkfenhiaedlgaaDoorGen
set_option linter.all false
namespace Go.Proofs.YtbkfenhiaedlgaaDoor
open Go.RowKit

def okF (W H : Int) : Bool := inB W 1 6 && inB H 1 6
theorem okF_iff {W H : Int} : okF W H = true ↔ (1 ≤ W ∧ W ≤ 6) ∧ 1 ≤ H ∧ H ≤ 6 := by simp [okF, inB]
theorem ctSize_any (a b : Int) (w : World) : Calls Tryd.prog 157 #[.int .i64 a, .int .i64 b] w fun e w' => e = .returned (.bool (okF a b)) ∧ w = w' := by
  unfold okF
  cases e1 : inB a 1 6 with
  | true =>
    cases e2 : inB b 1 6 with
    | true =>
      go_enter Tryd.func157, Tryd.ntmps157
      go_wp2_with fail
      refine (l1In_any _ _ _ _).mono ?_
      rw [e1]
      rintro e w' ⟨rfl, rfl⟩
      go_wp2_with fail
      refine (l1In_any _ _ _ _).mono ?_
      rw [e2]
      rintro e w' ⟨rfl, rfl⟩
      go_wp2_with fail
      go_ret
      exact ⟨rfl, rfl⟩
    | false =>
      go_enter Tryd.func157, Tryd.ntmps157
      go_wp2_with fail
      refine (l1In_any _ _ _ _).mono ?_
      rw [e1]
      rintro e w' ⟨rfl, rfl⟩
      go_wp2_with fail
      refine (l1In_any _ _ _ _).mono ?_
      rw [e2]
      rintro e w' ⟨rfl, rfl⟩
      go_wp2_with fail
      go_ret
      exact ⟨rfl, rfl⟩
  | false =>
    go_enter Tryd.func157, Tryd.ntmps157
    go_wp2_with fail
    refine (l1In_any _ _ _ _).mono ?_
    rw [e1]
    rintro e w' ⟨rfl, rfl⟩
    go_wp2_with fail
    go_ret
    exact ⟨rfl, rfl⟩
end Go.Proofs.YtbkfenhiaedlgaaDoor
