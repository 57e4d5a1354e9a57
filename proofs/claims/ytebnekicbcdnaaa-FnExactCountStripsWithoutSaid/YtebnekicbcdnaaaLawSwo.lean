/- The walk of FnExactCountStripsWithout. -/
import Derived.Test.YtebnekicbcdnaaaSv
set_option linter.all false
namespace Go.Proofs.Ytebnekicbcdnaaa
open Go.RowKit
set_option maxRecDepth 100000 in
theorem lawCountStripsWithout (x0 : Int) (x1 : Int) (x2 : Int) (w : World) : Calls Try.prog 5 #[.int .i64 x0, .int .i64 x1, .int .i64 x2] w fun e w' => e = .returned (.bool true) ∧ Below w.heap.size w w' := by
  obtain ⟨v0, hv0⟩ : ∃ v, ((woS x0 x1 x2 : Nat) : Int) = v := ⟨_, rfl⟩
  obtain ⟨ok, hk⟩ : ∃ ok, okSd x0 x1 x2 = ok := ⟨_, rfl⟩
  have c1 := fun w => specWo_any x0 x1 x2 w
  have c2 := fun w => implWo_any x0 x1 x2 w
  simp only [hv0, hk] at c1 c2
  have C1 := Lib.hid c1
  have C2 := Lib.hid c2
  clear c1 c2 hv0 hk
  have h1 : (ok != ok) = false := by simp
  have h20 : (v0 != v0) = false := by simp
  go_enter Try.func5, Try.ntmps5
  go_wp2_with fail
  refine (C1.out _).mono ?_
  rintro e w1 ⟨rfl, hb1⟩
  go_wp2_with fail
  refine (C2.out _).mono ?_
  rintro e w2 ⟨rfl, hb2⟩
  go_wp2_with fail
  go_ret
  exact ⟨rfl, hb1.trans (hb2.mono hb1.size)⟩
end Go.Proofs.Ytebnekicbcdnaaa
