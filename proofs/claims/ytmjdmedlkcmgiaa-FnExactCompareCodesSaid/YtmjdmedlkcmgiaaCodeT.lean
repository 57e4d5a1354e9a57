/- Codes of turned, mirrored and grown cuts of codes; the width and the height of a code's cut. -/
import Derived.Test.YtmjdmedlkcmgiaaSSArg
import Derived.Test.YtmjdmedlkcmgiaaTurnJ
import Derived.Test.YtmjdmedlkcmgiaaGrowJ
set_option linter.all false
namespace Go.Proofs.Ytmjdmedlkcmgiaa
open Go.RowKit

theorem codeR_zero {M : List (List Int)} (h : (codeR M).2.2.2 = false) : codeR M = (0, 0, [], false) := by
  unfold codeR at h ⊢
  split at h
  · cases h
  · next h2 => rw [if_neg h2]
theorem codeR_good {M : List (List Int)} (h : (codeR M).2.2.2 = true) : Good (codeR M).1 (codeR M).2.1 (codeR M).2.2.1 := by
  unfold codeR at h ⊢
  split at h
  · next h2 =>
    rw [if_pos h2]
    simp only [Bool.and_eq_true] at h2
    exact fillR_good h2.1
  · cases h
theorem not_good0 : ¬ Good 0 0 [] := fun h => by have := h.1; omega
theorem good_wfS {W H : Int} {L : List Sq} (h : Good W H L) : ∀ s ∈ L, wfS s := fun s hs => by
  have := good_fine h s hs
  unfold Fine at this
  unfold wfS wfI
  omega
/-- What is told of the cut of a code. -/
theorem code_split {M : List (List Int)} {X Y : Int} {R : List Sq} {ok : Bool} (hX : (codeR M).1 = X) (hY : (codeR M).2.1 = Y) (hR : (codeR M).2.2.1 = R) (hK : (codeR M).2.2.2 = ok) :
    (ok = true ∧ Good X Y R) ∨ (ok = false ∧ X = 0 ∧ Y = 0 ∧ R = []) := by
  cases ok with
  | true =>
    have := codeR_good hK
    rw [hX, hY, hR] at this
    exact .inl ⟨rfl, this⟩
  | false =>
    have := codeR_zero hK
    exact .inr ⟨rfl, by rw [← hX, this], by rw [← hY, this], by rw [← hR, this]⟩
theorem own_box {w : World} {B base : Nat} {e : TypeId} {size n : Nat} {v x y z : Value} {xs : List Value} (h : w.ownsRow base e size v n xs) (hB : B < base) : (((w.setCell ⟨B, 0, none⟩ x).setCell ⟨B, 1, none⟩ y).setCell ⟨B, 2, none⟩ z).ownsRow base e size v n xs :=
  ownsRow_setCell_below (ownsRow_setCell_below (ownsRow_setCell_below h (a := ⟨B, 0, none⟩) hB x) (a := ⟨B, 1, none⟩) hB y) (a := ⟨B, 2, none⟩) hB z
theorem below_box {w w' : World} {B base : Nat} {x y z : Value} (h : Below base w w') (hB : base ≤ B) : Below base w (((w'.setCell ⟨B, 0, none⟩ x).setCell ⟨B, 1, none⟩ y).setCell ⟨B, 2, none⟩ z) :=
  ((h.setCell (p := ⟨B, 0, none⟩) hB x).setCell (p := ⟨B, 1, none⟩) hB y).setCell (p := ⟨B, 2, none⟩) hB z

end Go.Proofs.Ytmjdmedlkcmgiaa
