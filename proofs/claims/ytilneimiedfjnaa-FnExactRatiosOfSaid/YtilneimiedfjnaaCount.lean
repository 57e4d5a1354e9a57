/- CountRatios: the program's and the model's; the law. -/
import Derived.Test.YtilneimiedfjnaaLeaf
set_option linter.all false
namespace Go.Proofs.Ytilneimiedfjnaa
open Go.RowKit

def cntR (s : Int) : Int × Bool := if 1 ≤ s ∧ s ≤ 21 then ((2 : Int) ^ (s - 1).toNat, true) else (0, false)
theorem cntR_yes {s : Int} (h : 1 ≤ s ∧ s ≤ 21) : cntR s = ((2 : Int) ^ (s - 1).toNat, true) := if_pos h
theorem cntR_no {s : Int} (h : ¬ (1 ≤ s ∧ s ≤ 21)) : cntR s = (0, false) := if_neg h
theorem inB21 {s : Int} (h : ¬ (1 ≤ s ∧ s ≤ 21)) : inB s 1 21 = false := by
  cases e : inB s 1 21 with
  | false => rfl
  | true => exact absurd (inB_iff.1 e) h
theorem pow_sh (k : Nat) : ((2 : Int) ^ ((k : Int) + 1 - 1).toNat) = 2 ^ k := by
  rw [show ((k : Int) + 1 - 1).toNat = k by omega]
theorem pow_in {k : Nat} (hk : k ≤ 20) : wrap64 ((2 : Int) ^ k) = 2 ^ k := by
  have h1 : (2 : Nat) ^ k ≤ 2 ^ 20 := Nat.pow_le_pow_right (by decide) hk
  have h2 : (2 : Int) ^ k = ((2 ^ k : Nat) : Int) := by simp
  rw [h2]
  obtain ⟨m, hm⟩ : ∃ m : Nat, 2 ^ k = m := ⟨_, rfl⟩
  rw [hm] at h1 ⊢
  exact IntWalk.wrap64_in _ (by omega)
theorem raMany_any (s : Int) (w : World) : Calls Try.prog 87 #[.int .i64 s] w fun e w' => e = .returned (.bool (inB s 1 21)) ∧ w = w' := by
  go_enter Try.func87, Try.ntmps87
  go_wp2_with fail
  refine (l1In_any _ _ _ _).mono ?_
  rintro e w' ⟨rfl, rfl⟩
  go_wp2_with fail
  go_ret
  exact ⟨rfl, rfl⟩
set_option maxRecDepth 100000 in
theorem implCount_any (s : Int) (w : World) : Calls Try.prog 86 #[.int .i64 s] w fun e w' => e = .returned (.tuple #[.int .i64 (cntR s).1, .bool (cntR s).2]) ∧ w = w' := by
  by_cases h : 1 ≤ s ∧ s ≤ 21
  · obtain ⟨k, hk⟩ : ∃ k : Nat, s = (k : Int) + 1 := ⟨(s - 1).toNat, by omega⟩
    subst hk
    have hk : k ≤ 20 := by omega
    rw [cntR_yes h, pow_sh k]
    go_enter Try.func86, Try.ntmps86
    go_wp2_with fail
    rw [pow_in hk]
    go_ret2
    exact ⟨rfl, rfl⟩
  · rw [cntR_no h]
    by_cases h1 : s < 1
    · go_enter Try.func86, Try.ntmps86
      go_wp2_with fail
      go_ret2
      exact ⟨rfl, rfl⟩
    · have h2 : ¬ s ≤ 21 := by omega
      have h3 : 21 < s := by omega
      go_enter Try.func86, Try.ntmps86
      go_wp2_with fail
      go_ret2
      exact ⟨rfl, rfl⟩
end Go.Proofs.Ytilneimiedfjnaa
