/- Cuts compared and copied by the model; the memory of the search for the first turn. -/
import Derived.Test.YtilneimiedfjnaaFirstC
import Derived.Test.YtilneimiedfjnaaOrd
import Derived.Test.YtilneimiedfjnaaTurnU
set_option linter.all false
namespace Go.Proofs.Ytilneimiedfjnaa
open Go.RowKit

theorem eqSqF (a b c a' b' c' : Int) (w : World) : (Op.equalIn 10000 65 (.agg #[.int .i64 a, .int .i64 b, .int .i64 c]) (.agg #[.int .i64 a', .int .i64 b', .int .i64 c'])).run Try.prog w = .ok (a == a' && b == b' && c == c') w := by
  have u3 := Try.underlying3
  have a3 : ∀ w, (isAgg 3).run Try.prog w = .ok false w := fun _ => by kernel_rfl
  have z3 : ∀ w, (Go.sizeOf 3).run Try.prog w = .ok 1 w := fun _ => by kernel_rfl
  have hS : Try.prog.underlying 65 = some (.struct (Try.prog.fieldsOf 65)) := by kernel_rfl
  have hp : Try.prog.stoodInHeld 65 = false := by kernel_rfl
  rw [show (10000 : Nat) = 9999 + 1 from rfl, run_equalIn_agg w 9999 65 _ _ hS hp]
  simp only [Program.fieldsOf, Try.underlying65]
  go_simp
  by_cases h1 : a = a' <;> by_cases h2 : b = b' <;> by_cases h3 : c = c' <;> simp [h1, h2, h3]
theorem ltL_three (s q : Sq) : ltL [s.x, s.y, s.d] [q.x, q.y, q.d] = true ↔ F.ltS s q := by
  simp [ltL, F.ltS]
theorem sq_ne {s q : Sq} (h : s ≠ q) : (s.x == q.x && s.y == q.y && s.d == q.d) = false := by
  rw [← Bool.not_eq_true]
  intro k
  simp only [Bool.and_eq_true, beq_iff_eq] at k
  apply h
  obtain ⟨x, y, d⟩ := s
  obtain ⟨x', y', d'⟩ := q
  simp only at k
  obtain ⟨⟨rfl, rfl⟩, rfl⟩ := k
  rfl

end Go.Proofs.Ytilneimiedfjnaa
