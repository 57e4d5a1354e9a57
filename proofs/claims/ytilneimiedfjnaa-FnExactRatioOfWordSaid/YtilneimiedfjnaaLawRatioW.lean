/- The walk of FnExactRatioOfWord. -/
import Derived.Test.YtilneimiedfjnaaWrd
set_option linter.all false
namespace Go.Proofs.Ytilneimiedfjnaa
open Go.RowKit
set_option maxRecDepth 100000 in
theorem lawRatioOfWord (s : ByteArray) (w : World) (hs : s.size ≤ maxLen) : Calls Try.prog 9 #[.string s] w fun e w' => e = .returned (.bool true) ∧ Below w.heap.size w w' := by
  by_cases h : s.size ≤ 1048576
  · have h0 : (s.size : Int) ≤ 1048576 := by omega
    obtain ⟨⟨x, y, ok⟩, hr⟩ : ∃ r, ratW s = r := ⟨_, rfl⟩
    have c1 := fun w => specRatioW_any s w h
    have c2 := fun w => implRatioW_any s w h
    rw [hr] at c1 c2
    have C1 := Lib.hid c1
    have C2 := Lib.hid c2
    clear c1 c2 hr
    have h1 : (ok != ok) = false := by simp
    have h2 : (x != x) = false := by simp
    have h3 : (y != y) = false := by simp
    go_enter Try.func9, Try.ntmps9
    go_wp2_with fail
    refine (C1.out _).mono ?_
    rintro e w1 ⟨rfl, hb1⟩
    go_wp2_with fail
    refine (C2.out _).mono ?_
    rintro e w2 ⟨rfl, hb2⟩
    go_wp2_with fail
    go_ret
    exact ⟨rfl, hb1.trans (hb2.mono hb1.size)⟩
  · have h0 : 1048576 < (s.size : Int) := by omega
    have h1 : (s.size : Int) ≤ 9223372036854775807 := by unfold maxLen at hs; omega
    go_enter Try.func9, Try.ntmps9
    go_wp2_with fail
    go_ret
    exact ⟨rfl, Below.refl _ _⟩
end Go.Proofs.Ytilneimiedfjnaa
