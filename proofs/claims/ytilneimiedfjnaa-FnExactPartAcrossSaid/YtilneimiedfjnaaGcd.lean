/- Contracts of the greatest common divisor, the program's and the model's. -/
import Derived.Test.YtilneimiedfjnaaOne
set_option linter.all false
namespace Go.Proofs.Ytilneimiedfjnaa
open Go.RowKit

theorem implGcd_any (a b : Nat) (w : World) (ha : a ≤ 500) (hb : b ≤ 500) :
    Calls Try.prog 105 #[.int .i64 a, .int .i64 b] w fun e w' => e = .returned (.int .i64 (Nat.gcd a b : Nat)) ∧ Below w.heap.size w w' := by
  go_enter Try.func105, Try.ntmps105
  go_wp2_with fail
  go_loopw [0, 1] (fun u v wr => ∃ p q : Nat, u = .int .i64 p ∧ v = .int .i64 q ∧ p ≤ 500 ∧ q ≤ 500 ∧ Nat.gcd p q = Nat.gcd a b ∧ Below w.heap.size w wr) (fun _ v _ => (intOf v).toNat)
  case atStart => exact ⟨a, b, rfl, rfl, ha, hb, rfl, Below.refl _ _⟩
  case round =>
    obtain ⟨p, q, rfl, rfl, hp, hq, hg, hbr⟩ := hrel
    by_cases hlt : q = 0
    · subst hlt
      go_wp2_with fail
      go_ret
      exact ⟨by rw [← hg]; simp, hbr⟩
    · have h0 : (q : Int) ≠ 0 := by omega
      have h1 : (0 : Int) < (q : Int) := by omega
      have hmq : p % q < q := Nat.mod_lt _ (by omega)
      have hmg : q.gcd (p % q) = a.gcd b := by rw [Nat.gcd_comm, ← Nat.gcd_rec, Nat.gcd_comm]; exact hg
      go_wp2_with fail
      go_region
      go_wp2_with fail
      refine ⟨⟨q, p % q, rfl, rfl, hq, by omega, hmg, hbr.drew⟩, ?_⟩
      exact hmq

theorem specGcd_any (a b : Nat) (w : World) (ha : a ≤ 500) (hb : b ≤ 500) :
    Calls Try.prog 66 #[.int .i64 a, .int .i64 b] w fun e w' => e = .returned (.int .i64 (Nat.gcd a b : Nat)) ∧ Below w.heap.size w w' := by
  go_enter Try.func66, Try.ntmps66
  go_wp2_with fail
  go_loopw [0, 1] (fun u v wr => ∃ p q : Nat, u = .int .i64 p ∧ v = .int .i64 q ∧ p ≤ 500 ∧ q ≤ 500 ∧ Nat.gcd p q = Nat.gcd a b ∧ Below w.heap.size w wr) (fun _ v _ => (intOf v).toNat)
  case atStart => exact ⟨a, b, rfl, rfl, ha, hb, rfl, Below.refl _ _⟩
  case round =>
    obtain ⟨p, q, rfl, rfl, hp, hq, hg, hbr⟩ := hrel
    by_cases hlt : q = 0
    · subst hlt
      go_wp2_with fail
      go_ret
      exact ⟨by rw [← hg]; simp, hbr⟩
    · have h0 : (q : Int) ≠ 0 := by omega
      have h1 : (0 : Int) < (q : Int) := by omega
      have hmq : p % q < q := Nat.mod_lt _ (by omega)
      have hmg : q.gcd (p % q) = a.gcd b := by rw [Nat.gcd_comm, ← Nat.gcd_rec, Nat.gcd_comm]; exact hg
      go_wp2_with fail
      go_region
      go_wp2_with fail
      refine ⟨⟨q, p % q, rfl, rfl, hq, by omega, hmg, hbr.drew⟩, ?_⟩
      exact hmq
end Go.Proofs.Ytilneimiedfjnaa
