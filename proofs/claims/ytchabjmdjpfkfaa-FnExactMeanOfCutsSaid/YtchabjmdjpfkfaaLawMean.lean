/- The walk of FnExactMeanOfCuts. -/
import Derived.Test.YtchabjmdjpfkfaaMean
set_option linter.all false
namespace Go.Proofs.Ytchabjmdjpfkfaa
open Go.RowKit
set_option maxRecDepth 100000 in
theorem lawMeanOfCuts (x0 : Int) (x1 : Int) (w : World) : Calls Try.prog 6 #[.int .i64 x0, .int .i64 x1] w fun e w' => e = .returned (.bool true) ∧ Below w.heap.size w w' := by
  obtain ⟨v0, hv0⟩ : ∃ v, meanA x0 x1 = v := ⟨_, rfl⟩
  obtain ⟨v1, hv1⟩ : ∃ v, meanB x0 x1 = v := ⟨_, rfl⟩
  obtain ⟨ok, hk⟩ : ∃ ok, okF x0 x1 = ok := ⟨_, rfl⟩
  have c1 := fun w => specMean_any x0 x1 w
  have c2 := fun w => implMean_any x0 x1 w
  simp only [hv0, hv1, hk] at c1 c2
  have C1 := Lib.hid c1
  have C2 := Lib.hid c2
  clear c1 c2 hv0 hv1 hk
  have h1 : (ok != ok) = false := by simp
  have h20 : (v0 != v0) = false := by simp
  have h21 : (v1 != v1) = false := by simp
  go_enter Try.func6, Try.ntmps6
  go_wp2_with fail
  refine (C1.out _).mono ?_
  rintro e w1 ⟨rfl, hb1⟩
  go_wp2_with fail
  refine (C2.out _).mono ?_
  rintro e w2 ⟨rfl, hb2⟩
  go_wp2_with fail
  go_ret
  exact ⟨rfl, hb1.trans (hb2.mono hb1.size)⟩
end Go.Proofs.Ytchabjmdjpfkfaa
