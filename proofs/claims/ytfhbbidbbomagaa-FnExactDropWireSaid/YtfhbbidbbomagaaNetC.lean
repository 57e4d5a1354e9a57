/- The model's AddWire. -/
import Derived.Test.YtfhbbidbbomagaaNetA
namespace Go.Proofs.Ytfhbbidbbomagaa
open Go.RowKit

theorem lit_at (w2 X : World) (b : Nat) (hb : X.heap.size = b) (h : w2.heap.size ≤ b) : (X.alloc (.cells #[] 70)).ownsRow w2.heap.size 70 2 (.slice (some ⟨b, 0, none⟩) 0 0) 0 [] := by
  subst hb
  exact own_base (World.ownsRow_lit X #[] 0 (Nat.le_refl _) (Nat.zero_le _) rfl) h
theorem new2g {W w6 : World} {a b : Value} {b0 : Nat} {row : Option Nat} (hg : W.grownBy w6 row) (hb : b0 < W.heap.size) (hne : row ≠ some b0) (hW : ∀ j u, [a, b][j]? = some u → W.cell? ((⟨b0, 0, none⟩ : Addr).add j) = some u) : ∀ j u, [a, b][j]? = some u → w6.cell? ((⟨b0, 0, none⟩ : Addr).add j) = some u := fun j u hj => by
  have h := hW j u hj
  rw [add_at] at h ⊢
  exact hg.cell h (fun e => hne e.symm)
end Go.Proofs.Ytfhbbidbbomagaa
