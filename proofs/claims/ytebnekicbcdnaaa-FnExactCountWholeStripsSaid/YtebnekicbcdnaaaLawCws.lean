/- The walk of FnExactCountWholeStrips. -/
import Derived.Test.YtebnekicbcdnaaaSz
set_option linter.all false
namespace Go.Proofs.Ytebnekicbcdnaaa
open Go.RowKit
set_option maxRecDepth 100000 in
theorem lawCountWholeStrips (x0 : Int) (x1 : Int) (w : World) : Calls Try.prog 13 #[.int .i64 x0, .int .i64 x1] w fun e w' => e = .returned (.bool true) ∧ Below w.heap.size w w' := by
  obtain ⟨v0, hv0⟩ : ∃ v, whV x0 x1 = v := ⟨_, rfl⟩
  obtain ⟨ok, hk⟩ : ∃ ok, (inB x0 1 4 && inB x1 1 30) = ok := ⟨_, rfl⟩
  have c1 := fun w => specWh_any x0 x1 w
  have c2 := fun w => implWh_any x0 x1 w
  simp only [hv0, hk] at c1 c2
  have C1 := Lib.hid c1
  have C2 := Lib.hid c2
  clear c1 c2 hv0 hk
  have h1 : (ok != ok) = false := by simp
  have h20 : (v0 != v0) = false := by simp
  go_enter Try.func13, Try.ntmps13
  go_wp2_with fail
  refine (C1.out _).mono ?_
  rintro e w1 ⟨rfl, hb1⟩
  go_wp2_with fail
  refine (C2.out _).mono ?_
  rintro e w2 ⟨rfl, hb2⟩
  go_wp2_with fail
  go_ret
  exact ⟨rfl, hb1.trans (hb2.mono hb1.size)⟩
end Go.Proofs.Ytebnekicbcdnaaa
