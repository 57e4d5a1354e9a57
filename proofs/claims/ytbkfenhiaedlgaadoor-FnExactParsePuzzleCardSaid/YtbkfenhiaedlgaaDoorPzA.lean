/- Clues: what is one, for the program and the model. -/
import Derived.Test.YtbkfenhiaedlgaaDoorPzS
import Derived.WalkSmall
import Derived.Defers
import Derived.Recover
set_option linter.all false
namespace Go.Proofs.YtbkfenhiaedlgaaDoor
open Go.RowKit

/-- A clue of hidden cuts with N cells. -/
def ClueOk (N : Int) (c : Sq) : Prop := (c.x = 0 ∧ (1 ≤ c.y ∧ c.y ≤ 12) ∧ (0 ≤ c.d ∧ c.d ≤ 0)) ∨ (c.x = 1 ∧ (1 ≤ c.y ∧ c.y ≤ 6) ∧ (0 ≤ c.d ∧ c.d ≤ 12)) ∨ (c.x = 2 ∧ (0 ≤ c.y ∧ c.y ≤ N - 1) ∧ (1 ≤ c.d ∧ c.d ≤ 6)) ∨ (c.x = 3 ∧ (0 ≤ c.y ∧ c.y ≤ 3) ∧ (0 ≤ c.d ∧ c.d ≤ 12)) ∨ (c.x = 4 ∧ (0 ≤ c.y ∧ c.y ≤ 12) ∧ (0 ≤ c.d ∧ c.d ≤ 0)) ∨ (c.x = 5 ∧ (0 ≤ c.y ∧ c.y ≤ 6) ∧ (0 ≤ c.d ∧ c.d ≤ 0))
def spA (N k : Int) : Int × Int := if k = 0 then (1, 12) else if k = 1 then (1, 6) else if k = 2 then (0, N - 1) else if k = 3 then (0, 3) else if k = 4 then (0, 12) else (0, 6)
def spB (k : Int) : Int × Int := if k = 1 then (0, 12) else if k = 2 then (1, 6) else if k = 3 then (0, 12) else (0, 0)
theorem kinds (k : Int) : k = 0 ∨ k = 1 ∨ k = 2 ∨ k = 3 ∨ k = 4 ∨ k = 5 ∨ ((k == 0) = false ∧ (k == 1) = false ∧ (k == 2) = false ∧ (k == 3) = false ∧ (k == 4) = false ∧ (k == 5) = false ∧ ¬ (0 ≤ k ∧ k ≤ 5)) := by
  simp only [beq_eq_false_iff_ne]; omega
theorem clueOk_iff {N : Int} {c : Sq} : ClueOk N c ↔ (0 ≤ c.x ∧ c.x ≤ 5) ∧ ((spA N c.x).1 ≤ c.y ∧ c.y ≤ (spA N c.x).2) ∧ ((spB c.x).1 ≤ c.d ∧ c.d ≤ (spB c.x).2) := by
  unfold ClueOk spA spB
  rcases kinds c.x with h | h | h | h | h | h | ⟨_, _, _, _, _, _, h⟩
  · simp [h]
  · simp [h]
  · simp [h]
  · simp [h]
  · simp [h]
  · simp [h]
  · constructor
    · rintro (⟨h', _⟩ | ⟨h', _⟩ | ⟨h', _⟩ | ⟨h', _⟩ | ⟨h', _⟩ | ⟨h', _⟩) <;> omega
    · rintro ⟨h', _⟩; exact absurd h' h
theorem spans_yes (k a b N : Int) (hN : 1 ≤ N ∧ N ≤ 36) (hk : 0 ≤ k ∧ k ≤ 5) (w : World) :
    Calls Tryd.prog 179 #[.agg #[.int .i64 k, .int .i64 a, .int .i64 b], .int .i64 N] w fun e w' => e = .returned (.tuple #[.agg #[.int .i64 (spA N k).1, .int .i64 (spA N k).2], .agg #[.int .i64 (spB k).1, .int .i64 (spB k).2]]) ∧ Below w.heap.size w w' := by
  rcases (by omega : k = 0 ∨ k = 1 ∨ k = 2 ∨ k = 3 ∨ k = 4 ∨ k = 5) with rfl | rfl | rfl | rfl | rfl | rfl
  · go_enter Tryd.func179, Tryd.ntmps179
    go_wp2
    go_region
    go_wp2
    all_goals (refine bodyPost_ret (v := .tuple #[.agg #[.int .i64 _, .int .i64 _], .agg #[.int .i64 _, .int .i64 _]]) (by simp [results, Tryd.results179, go_sem, spA, spB]) rfl ⟨rfl, ?_⟩; repeat (first | exact Below.refl _ _ | refine Below.drew ?_ | refine Below.setCell ?_ (by first | exact Nat.le_refl _ | (simp; done) | (simp; omega)) _ | refine Below.alloc ?_ (by first | exact Nat.le_refl _ | (simp; done) | (simp; omega)) _))
  · go_enter Tryd.func179, Tryd.ntmps179
    go_wp2
    all_goals (refine bodyPost_ret (v := .tuple #[.agg #[.int .i64 _, .int .i64 _], .agg #[.int .i64 _, .int .i64 _]]) (by simp [results, Tryd.results179, go_sem, spA, spB]) rfl ⟨rfl, ?_⟩; repeat (first | exact Below.refl _ _ | refine Below.drew ?_ | refine Below.setCell ?_ (by first | exact Nat.le_refl _ | (simp; done) | (simp; omega)) _ | refine Below.alloc ?_ (by first | exact Nat.le_refl _ | (simp; done) | (simp; omega)) _))
  · go_enter Tryd.func179, Tryd.ntmps179
    go_wp2
    all_goals (refine bodyPost_ret (v := .tuple #[.agg #[.int .i64 _, .int .i64 _], .agg #[.int .i64 _, .int .i64 _]]) (by simp [results, Tryd.results179, go_sem, spA, spB]) rfl ⟨rfl, ?_⟩; repeat (first | exact Below.refl _ _ | refine Below.drew ?_ | refine Below.setCell ?_ (by first | exact Nat.le_refl _ | (simp; done) | (simp; omega)) _ | refine Below.alloc ?_ (by first | exact Nat.le_refl _ | (simp; done) | (simp; omega)) _))
  · go_enter Tryd.func179, Tryd.ntmps179
    go_wp2
    all_goals (refine bodyPost_ret (v := .tuple #[.agg #[.int .i64 _, .int .i64 _], .agg #[.int .i64 _, .int .i64 _]]) (by simp [results, Tryd.results179, go_sem, spA, spB]) rfl ⟨rfl, ?_⟩; repeat (first | exact Below.refl _ _ | refine Below.drew ?_ | refine Below.setCell ?_ (by first | exact Nat.le_refl _ | (simp; done) | (simp; omega)) _ | refine Below.alloc ?_ (by first | exact Nat.le_refl _ | (simp; done) | (simp; omega)) _))
  · go_enter Tryd.func179, Tryd.ntmps179
    go_wp2
    go_region
    go_wp2
    all_goals (refine bodyPost_ret (v := .tuple #[.agg #[.int .i64 _, .int .i64 _], .agg #[.int .i64 _, .int .i64 _]]) (by simp [results, Tryd.results179, go_sem, spA, spB]) rfl ⟨rfl, ?_⟩; repeat (first | exact Below.refl _ _ | refine Below.drew ?_ | refine Below.setCell ?_ (by first | exact Nat.le_refl _ | (simp; done) | (simp; omega)) _ | refine Below.alloc ?_ (by first | exact Nat.le_refl _ | (simp; done) | (simp; omega)) _))
  · go_enter Tryd.func179, Tryd.ntmps179
    go_wp2
    go_region
    go_wp2
    all_goals (refine bodyPost_ret (v := .tuple #[.agg #[.int .i64 _, .int .i64 _], .agg #[.int .i64 _, .int .i64 _]]) (by simp [results, Tryd.results179, go_sem, spA, spB]) rfl ⟨rfl, ?_⟩; repeat (first | exact Below.refl _ _ | refine Below.drew ?_ | refine Below.setCell ?_ (by first | exact Nat.le_refl _ | (simp; done) | (simp; omega)) _ | refine Below.alloc ?_ (by first | exact Nat.le_refl _ | (simp; done) | (simp; omega)) _))
theorem spans_no (k a b N : Int) (hk : ¬ (0 ≤ k ∧ k ≤ 5)) (w : World) :
    Calls Tryd.prog 179 #[.agg #[.int .i64 k, .int .i64 a, .int .i64 b], .int .i64 N] w fun e w' => e = .panicked [{ v := .iface 122 (.agg #[.int .i64 k, .int .i64 a, .int .i64 b]), recovered := false }] ∧ Below w.heap.size w w' := by
  have h0 : (k == 0) = false := by simp; omega
  have h1 : (k == 1) = false := by simp; omega
  have h2 : (k == 2) = false := by simp; omega
  have h3 : (k == 3) = false := by simp; omega
  have h4 : (k == 4) = false := by simp; omega
  have h5 : (k == 5) = false := by simp; omega
  go_enter Tryd.func179, Tryd.ntmps179
  go_wp2
  exact ⟨rfl, rfl, by repeat (first | exact Below.refl _ _ | refine Below.drew ?_ | refine Below.setCell ?_ (by first | exact Nat.le_refl _ | (simp; done) | (simp; omega)) _ | refine Below.alloc ?_ (by first | exact Nat.le_refl _ | (simp; done) | (simp; omega)) _)⟩
theorem has_any (lo hi n : Int) (w : World) : Calls Tryd.prog 180 #[.agg #[.int .i64 lo, .int .i64 hi], .int .i64 n] w fun e w' => e = .returned (.bool (inB n lo hi)) ∧ Below w.heap.size w w' := by
  by_cases h1 : lo ≤ n
  · have d1 : decide (lo ≤ n) = true := by simpa using h1
    go_enter Tryd.func180, Tryd.ntmps180
    go_wp2
    all_goals (go_ret; exact ⟨by simp [inB, d1], by repeat (first | exact Below.refl _ _ | refine Below.drew ?_ | refine Below.setCell ?_ (by first | exact Nat.le_refl _ | (simp; done) | (simp; omega)) _ | refine Below.alloc ?_ (by first | exact Nat.le_refl _ | (simp; done) | (simp; omega)) _)⟩)
  · have d1 : decide (lo ≤ n) = false := by simpa using h1
    go_enter Tryd.func180, Tryd.ntmps180
    go_wp2
    all_goals (go_ret; exact ⟨by simp [inB, d1], by repeat (first | exact Below.refl _ _ | refine Below.drew ?_ | refine Below.setCell ?_ (by first | exact Nat.le_refl _ | (simp; done) | (simp; omega)) _ | refine Below.alloc ?_ (by first | exact Nat.le_refl _ | (simp; done) | (simp; omega)) _)⟩)
end Go.Proofs.YtbkfenhiaedlgaaDoor
