/- FewestByLines: the model's; the law. -/
import Derived.Test.YtlfikjjdhmaemaaLineS
set_option linter.all false
namespace Go.Proofs.Ytlfikjjdhmaemaa
open Go.RowKit
theorem feSize_any (a b m : Int) (w : World) : Calls Try.prog 88 #[.int .i64 a, .int .i64 b, .int .i64 m] w fun e w' => e = .returned (.bool (inB a 1 m && inB b 1 m)) ∧ w = w' := by
  cases e1 : inB a 1 m with
  | true =>
    cases e2 : inB b 1 m with
    | true =>
      go_enter Try.func88, Try.ntmps88
      go_wp2_with fail
      refine (l1In_any _ _ _ _).mono ?_
      rw [e1]
      rintro e w' ⟨rfl, rfl⟩
      go_wp2_with fail
      refine (l1In_any _ _ _ _).mono ?_
      rw [e2]
      rintro e w' ⟨rfl, rfl⟩
      go_wp2_with fail
      go_ret
      exact ⟨rfl, rfl⟩
    | false =>
      go_enter Try.func88, Try.ntmps88
      go_wp2_with fail
      refine (l1In_any _ _ _ _).mono ?_
      rw [e1]
      rintro e w' ⟨rfl, rfl⟩
      go_wp2_with fail
      refine (l1In_any _ _ _ _).mono ?_
      rw [e2]
      rintro e w' ⟨rfl, rfl⟩
      go_wp2_with fail
      go_ret
      exact ⟨rfl, rfl⟩
  | false =>
    go_enter Try.func88, Try.ntmps88
    go_wp2_with fail
    refine (l1In_any _ _ _ _).mono ?_
    rw [e1]
    rintro e w' ⟨rfl, rfl⟩
    go_wp2_with fail
    go_ret
    exact ⟨rfl, rfl⟩
set_option maxRecDepth 100000 in
set_option maxHeartbeats 4000000 in
theorem specFew_any (W H : Int) (w : World) : Calls Try.prog 45 #[.int .i64 W, .int .i64 H] w fun e w' => e = .returned (.tuple #[.int .i64 (fewL W H), .bool (inB W 1 60 && inB H 1 60)]) ∧ Below w.heap.size w w' := by
  have ha := feSize_any W H 60 w
  cases hok : inB W 1 60 && inB H 1 60 with
  | false =>
    rw [fewL_no hok]
    rw [hok] at ha
    go_enter Try.func45, Try.ntmps45
    go_wp2_with fail
    refine ha.mono ?_
    rintro e w' ⟨rfl, rfl⟩
    go_wp2_with fail
    go_ret2
    exact ⟨rfl, Below.refl _ _⟩
  | true =>
    have h2 : (1 ≤ W ∧ W ≤ 60) ∧ 1 ≤ H ∧ H ≤ 60 := by simpa [inB] using hok
    obtain ⟨m, rfl⟩ := Int.eq_ofNat_of_zero_le (show 0 ≤ W by omega)
    obtain ⟨n, rfl⟩ := Int.eq_ofNat_of_zero_le (show 0 ≤ H by omega)
    rw [fewL_yes hok]
    rw [hok] at ha
    have k0 : (0 : Int) ≤ (m : Int) := by omega
    have k1 : (m : Int) < (m : Int) + 1 := by omega
    have k2 : (0 : Int) ≤ (n : Int) := by omega
    have k3 : (n : Int) < (n : Int) + 1 := by omega
    clear hok
    go_enter Try.func45, Try.ntmps45
    go_wp2_with fail
    refine ha.mono ?_
    rintro e w' ⟨rfl, rfl⟩
    go_wp2_with fail
    refine (feLines_any m n _ (by omega) (by omega) (by omega) (by omega)).mono ?_
    rintro e w2 ⟨g, rb, rfl, hT⟩
    obtain ⟨c1, c2, _⟩ := hT.val (x := m) (y := n) (by omega) (Nat.le_refl _) ⟨by omega, by omega, by omega, Nat.le_refl _⟩
    have hb2 := hT.below
    clear hT
    go_wp2_with fail
    go_ret2
    exact ⟨rfl, hb2⟩
set_option maxRecDepth 100000 in
theorem lawFewestByLines (x y : Int) (w : World) : Calls Try.prog 12 #[.int .i64 x, .int .i64 y] w fun e w' => e = .returned (.bool true) ∧ Below w.heap.size w w' := by
  obtain ⟨v, hv⟩ : ∃ v, fewL x y = v := ⟨_, rfl⟩
  obtain ⟨ok, hk⟩ : ∃ ok, (inB x 1 60 && inB y 1 60) = ok := ⟨_, rfl⟩
  have c1 := fun w => specFew_any x y w
  have c2 := fun w => implFew_any x y w
  rw [hv, hk] at c1 c2
  have C1 := Lib.hid c1
  have C2 := Lib.hid c2
  clear c1 c2 hv hk
  have h1 : (ok != ok) = false := by simp
  have h2 : (v != v) = false := by simp
  go_enter Try.func12, Try.ntmps12
  go_wp2_with fail
  refine (C1.out _).mono ?_
  rintro e w1 ⟨rfl, hb1⟩
  go_wp2_with fail
  refine (C2.out _).mono ?_
  rintro e w2 ⟨rfl, hb2⟩
  go_wp2_with fail
  go_ret
  exact ⟨rfl, hb1.trans (hb2.mono hb1.size)⟩
end Go.Proofs.Ytlfikjjdhmaemaa
