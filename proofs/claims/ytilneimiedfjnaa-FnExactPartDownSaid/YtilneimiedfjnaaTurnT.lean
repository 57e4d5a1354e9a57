/- Contracts of the model's turned and mirrored cuts. -/
import Derived.Test.YtilneimiedfjnaaSrtT
import Derived.Test.YtilneimiedfjnaaTurnI
set_option linter.all false
namespace Go.Proofs.Ytilneimiedfjnaa
open Go.RowKit

theorem new3' (w : World) (o : Obj) (a b c : Value) (t : TypeId) : ∀ j u, [a, b, c][j]? = some u → ((w.alloc o).alloc (.cells #[a, b, c] t)).cell? ((⟨w.heap.size + 1, 0, none⟩ : Addr).add j) = some u := by
  have := new3 (w.alloc o) a b c t
  simpa using this
/-- What a region may lean on: below block B all is as it was in Wc, its marks too. -/
theorem keepF {B : Nat} {Wc wp w' : World} (hS : Below B Wc wp ∧ B ≤ wp.heap.size ∧ (∀ b o, b < B → wp.cell? ⟨b, o, none⟩ = Wc.cell? ⟨b, o, none⟩) ∧ (∀ b o, b < B → wp.frozen? ⟨b, o, none⟩ = Wc.frozen? ⟨b, o, none⟩)) (hb : Below wp.heap.size wp w') :
    Below B Wc w' ∧ B ≤ w'.heap.size ∧ (∀ b o, b < B → w'.cell? ⟨b, o, none⟩ = Wc.cell? ⟨b, o, none⟩) ∧ (∀ b o, b < B → w'.frozen? ⟨b, o, none⟩ = Wc.frozen? ⟨b, o, none⟩) :=
  ⟨hS.1.trans (hb.mono hS.2.1), Nat.le_trans hS.2.1 hb.size, fun b o h => (hb.cell (p := ⟨b, o, none⟩) (Nat.lt_of_lt_of_le h hS.2.1)).trans (hS.2.2.1 b o h), fun b o h => (hb.frozen (p := ⟨b, o, none⟩) (Nat.lt_of_lt_of_le h hS.2.1)).trans (hS.2.2.2 b o h)⟩
theorem belowF {B : Nat} {Wc wp : World} (hS : Below B Wc wp ∧ B ≤ wp.heap.size ∧ (∀ b o, b < B → wp.cell? ⟨b, o, none⟩ = Wc.cell? ⟨b, o, none⟩) ∧ (∀ b o, b < B → wp.frozen? ⟨b, o, none⟩ = Wc.frozen? ⟨b, o, none⟩)) : Below B Wc wp := hS.1

end Go.Proofs.Ytilneimiedfjnaa
