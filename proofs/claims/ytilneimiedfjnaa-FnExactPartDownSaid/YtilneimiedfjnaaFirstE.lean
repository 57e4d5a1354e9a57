/- Cuts copied by the model. -/
import Derived.Test.YtilneimiedfjnaaFirstD
set_option linter.all false
namespace Go.Proofs.Ytilneimiedfjnaa
open Go.RowKit

theorem src_sqsF {w : World} {B : Nat} {A : Option Addr} {n c : Nat} {L : List Sq} (hl : L.length = n) (hn : 1 ≤ n) (hL : SqsAt w B A L) : Src w A n c (flat L) := by
  obtain ⟨s0, h0⟩ : ∃ s, L[0]? = some s := ⟨_, List.getElem?_eq_getElem (by omega)⟩
  obtain ⟨b, off, rfl, _, _⟩ := hL 0 s0 h0
  refine .inr ⟨_, rfl, fun j u hu => ?_⟩
  have hj : j < L.length * 3 := by have := (List.getElem?_eq_some_iff.1 hu).1; rwa [flat_len] at this
  obtain ⟨s, hs⟩ : ∃ s, L[j / 3]? = some s := ⟨_, List.getElem?_eq_getElem (by omega)⟩
  obtain ⟨b, off, e, _, c0, c1, c2⟩ := hL (j / 3) s hs
  have f := flat_get L (j / 3) s hs
  cases e
  rw [add_at]
  rcases (by omega : j % 3 = 0 ∨ j % 3 = 1 ∨ j % 3 = 2) with h | h | h
  · rw [show j = j / 3 * 3 by omega] at hu ⊢
    rw [f.1] at hu
    rw [← hu]; exact c0
  · rw [show j = j / 3 * 3 + 1 by omega] at hu ⊢
    rw [f.2.1] at hu
    rw [← hu]; exact c1
  · rw [show j = j / 3 * 3 + 2 by omega] at hu ⊢
    rw [f.2.2] at hu
    rw [← hu]; exact c2
/-- It returns a cut in memory of the call's own. -/
def RetC (w : World) (X Y : Int) (L : List Sq) (e : Ending) (w' : World) : Prop :=
  ∃ A c, e = .returned (.agg #[.int .i64 X, .int .i64 Y, .slice A L.length c]) ∧ w'.ownsRow w.heap.size 65 3 (.slice A L.length c) L.length (flat L) ∧ Below w.heap.size w w'

end Go.Proofs.Ytilneimiedfjnaa
