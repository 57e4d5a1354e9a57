/- A list of lists as an argument of laws; the model's CutOfCode. -/
import Derived.Test.YtfkifcjjkaenhaaGreatDoorCodeM
import Derived.Test.YtfkifcjjkaenhaaGreatDoorFillJ
import Derived.Test.YtfkifcjjkaenhaaGreatDoorSSL
import Derived.Deep.Matrix
set_option linter.all false
namespace Go.Proofs.YtfkifcjjkaenhaaGreatDoor
open Go.RowKit Go.ChangeShapes Go.Deep

theorem codeR_len (M : List (List Int)) : (codeR M).2.2.1.length ≤ 1048576 := by
  unfold codeR
  split
  · exact fillR_len _ _
  · simp
theorem own_nilc {w : World} {base n c : Nat} {e : TypeId} {size : Nat} {A : Option Addr} {xs : List Value} (h : w.ownsRow base e size (.slice A n c) n xs) (hA : A = none) : c = 0 := by
  subst hA
  rcases h.2 with ⟨h1, _⟩ | ⟨g, cap, cur, h1, _⟩
  · cases h1; rfl
  · cases h1
theorem OwnSS.rowsZ {w : World} {base : Nat} {A : Option Addr} {n c : Nat} {R : List Rw} (h : OwnSS w base A n c R) : RowsZ w w.heap.size A (lists R) := by
  intro i l hl
  obtain ⟨b, off, A', c', h1, h2, h3, h4, h5⟩ := h.rows i l hl
  refine ⟨b, off, A', c', h1, h2, h3, h4, h5, fun e => ?_⟩
  simp only [lists, List.getElem?_map] at hl
  cases hr : R[i]? with
  | none => rw [hr] at hl; cases hl
  | some r =>
    rw [hr] at hl
    cases hl
    have ho := h.inner.own r (List.mem_of_getElem? hr)
    have hn := h.outer.1
    rw [vals_len] at hn
    have hir := (List.getElem?_eq_some_iff.1 hr).1
    subst h1
    obtain ⟨g, hg⟩ := own_form h.outer (by omega)
    cases hg
    have hc := h.outer.cellAt i (by omega)
    rw [Nat.zero_add] at h3
    rw [hc] at h3
    simp only [vals, List.getElem?_map, hr, Option.map_some, Option.some.injEq, Rw.val, Value.slice.injEq] at h3
    obtain ⟨e1, _, e2⟩ := h3
    have := own_nilc ho (e1.trans e)
    omega
end Go.Proofs.YtfkifcjjkaenhaaGreatDoor
