/- Lists of squares put one after the other: slices.Concat. -/
import Derived.Test.YtohajmbgdapnhaaCutOfI
import Derived.Shelf.Spec.SlicesGrow
set_option linter.all false
namespace Go.Proofs.Ytohajmbgdapnhaa
open Go.RowKit

/-- As RowsAt; a row that is nil has no room. -/
def RowsQ (w : World) (B : Nat) (A : Option Addr) (M : List (List Sq)) : Prop :=
  ∀ i l, M[i]? = some l → ∃ b off A' c, A = some ⟨b, off, none⟩ ∧ b < B ∧ w.cell? ⟨b, off + i, none⟩ = some (.slice A' l.length c) ∧ l.length ≤ c ∧ SqsAt w B A' l ∧ (A' = none → l.length = 0 ∧ c = 0)
theorem RowsQ.below {w w' : World} {B : Nat} {A : Option Addr} {M : List (List Sq)} (h : RowsQ w B A M) (hb : Below B w w') : RowsQ w' B A M := by
  intro i l hl
  obtain ⟨b, off, A', c, e, hB, c0, hc, hi, hz⟩ := h i l hl
  exact ⟨b, off, A', c, e, hB, (hb.cell (p := ⟨b, _, none⟩) hB).trans c0, hc, hi.below hb, hz⟩
theorem RowsQ.mono {w : World} {B B' : Nat} {A : Option Addr} {M : List (List Sq)} (h : RowsQ w B A M) (hB : B ≤ B') : RowsQ w B' A M := by
  intro i l hl
  obtain ⟨b, off, A', c, e, hb, c0, hc, hi, hz⟩ := h i l hl
  exact ⟨b, off, A', c, e, by omega, c0, hc, hi.mono hB, hz⟩
theorem catq_take (M : List (List Sq)) (k : Nat) (l : List Sq) (h : M[k]? = some l) : (M.take (k + 1)).flatten = (M.take k).flatten ++ l := by
  rw [List.take_add_one, h]; simp
theorem catq_len_le (M : List (List Sq)) (k : Nat) : (M.take k).flatten.length ≤ M.flatten.length := by
  have := congrArg List.length (congrArg List.flatten (List.take_append_drop k M))
  rw [List.flatten_append, List.length_append] at this
  omega
/-- It returns these squares in memory of the call's own. -/
def RetQ (w : World) (L : List Sq) (e : Ending) (w' : World) : Prop :=
  ∃ A c, e = .returned (.slice A L.length c) ∧ w'.ownsRow w.heap.size 78 3 (.slice A L.length c) L.length (flat L) ∧ Below w.heap.size w w'
theorem alloc_topq (w : World) (o : Obj) : (w.alloc o).heap[w.heap.size]? = some o := by
  show (w.heap.push o)[w.heap.size]? = some o
  simp
end Go.Proofs.Ytohajmbgdapnhaa
