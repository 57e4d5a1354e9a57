/- Contract of the program's CutOf. -/
import Derived.Test.YtebnekicbcdnaaaMake
set_option linter.all false
namespace Go.Proofs.Ytebnekicbcdnaaa
open Go.RowKit

theorem src_sqs {w : World} {B : Nat} {A : Option Addr} {n c : Nat} {L : List Sq} (hl : L.length = n) (hL : SqsAt w B A L) (hA : A = none → n = 0 ∧ c = 0) : Src w A n c (flat L) := by
  cases A with
  | none =>
    obtain ⟨rfl, rfl⟩ := hA rfl
    have : L = [] := List.eq_nil_of_length_eq_zero hl
    subst this
    exact .inl ⟨rfl, rfl, rfl, rfl⟩
  | some ad =>
    refine .inr ⟨ad, rfl, fun j u hu => ?_⟩
    have hj : j < L.length * 3 := by have := (List.getElem?_eq_some_iff.1 hu).1; rwa [flat_len] at this
    obtain ⟨s, hs⟩ : ∃ s, L[j / 3]? = some s := ⟨_, List.getElem?_eq_getElem (by omega)⟩
    obtain ⟨b, off, e, _, c0, c1, c2⟩ := hL (j / 3) s hs
    have f := flat_get L (j / 3) s hs
    cases e
    rw [add_at]
    rcases (by omega : j % 3 = 0 ∨ j % 3 = 1 ∨ j % 3 = 2) with h | h | h
    · rw [show j = j / 3 * 3 by omega] at hu ⊢
      rw [f.1] at hu
      rw [← hu]; exact c0
    · rw [show j = j / 3 * 3 + 1 by omega] at hu ⊢
      rw [f.2.1] at hu
      rw [← hu]; exact c1
    · rw [show j = j / 3 * 3 + 2 by omega] at hu ⊢
      rw [f.2.2] at hu
      rw [← hu]; exact c2
end Go.Proofs.Ytebnekicbcdnaaa
