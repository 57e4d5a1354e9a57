/- FewestByLines: the model's; the law. -/
import Derived.Test.YtakghnaklimliaaLineS
namespace Go.Proofs.Ytakghnaklimliaa
open Go.RowKit
theorem feSize_any (a b m : Int) (w : World) : Calls Try.prog 35 #[.int .i64 a, .int .i64 b, .int .i64 m] w fun e w' => e = .returned (.bool (inB a 1 m && inB b 1 m)) ∧ w = w' := by
  cases e1 : inB a 1 m with
  | true =>
    cases e2 : inB b 1 m with
    | true =>
      go_enter Try.func35, Try.ntmps35
      go_wp2_with fail
      refine (l1In_any _ _ _ _).mono ?_
      rw [e1]
      rintro e w' ⟨rfl, rfl⟩
      go_wp2_with fail
      refine (l1In_any _ _ _ _).mono ?_
      rw [e2]
      rintro e w' ⟨rfl, rfl⟩
      go_wp2_with fail
      go_ret
      exact ⟨rfl, rfl⟩
    | false =>
      go_enter Try.func35, Try.ntmps35
      go_wp2_with fail
      refine (l1In_any _ _ _ _).mono ?_
      rw [e1]
      rintro e w' ⟨rfl, rfl⟩
      go_wp2_with fail
      refine (l1In_any _ _ _ _).mono ?_
      rw [e2]
      rintro e w' ⟨rfl, rfl⟩
      go_wp2_with fail
      go_ret
      exact ⟨rfl, rfl⟩
  | false =>
    go_enter Try.func35, Try.ntmps35
    go_wp2_with fail
    refine (l1In_any _ _ _ _).mono ?_
    rw [e1]
    rintro e w' ⟨rfl, rfl⟩
    go_wp2_with fail
    go_ret
    exact ⟨rfl, rfl⟩
end Go.Proofs.Ytakghnaklimliaa
