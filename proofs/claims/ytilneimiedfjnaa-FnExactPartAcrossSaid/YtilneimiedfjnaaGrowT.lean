/- Contract of the model's GrowCut. -/
import Derived.Test.YtilneimiedfjnaaMake
import Derived.Test.YtilneimiedfjnaaTurnT
set_option linter.all false
namespace Go.Proofs.Ytilneimiedfjnaa
open Go.RowKit

def GrowOk (W H : Int) (L : List Sq) (k : Int) : Prop := Good W H L ∧ 1 ≤ k ∧ k * W ≤ 500 ∧ k * H ≤ 500
noncomputable def growX (W H : Int) (L : List Sq) (k X : Int) : Int := if dc (GrowOk W H L k) then k * X else 0
noncomputable def growR (W H : Int) (L : List Sq) (k : Int) : List Sq := if dc (GrowOk W H L k) then growL k L else []
theorem growX_yes {W H k X : Int} {L : List Sq} (h : GrowOk W H L k) : growX W H L k X = k * X := by simp [growX, dc_true h]
theorem growX_no {W H k X : Int} {L : List Sq} (h : ¬ GrowOk W H L k) : growX W H L k X = 0 := by simp [growX, dc_false h]
theorem growR_yes {W H k : Int} {L : List Sq} (h : GrowOk W H L k) : growR W H L k = growL k L := by simp [growR, dc_true h]
theorem growR_no {W H k : Int} {L : List Sq} (h : ¬ GrowOk W H L k) : growR W H L k = [] := by simp [growR, dc_false h]
def RetGrow (w : World) (W H : Int) (L : List Sq) (k : Int) (e : Ending) (w' : World) : Prop := RetCut w (growX W H L k W) (growX W H L k H) (growR W H L k) (dc (GrowOk W H L k)) e w'
theorem RetGrow.no {w w' : World} {W H k : Int} {L : List Sq} (h : ¬ GrowOk W H L k) (hb : Below w.heap.size w w') : RetGrow w W H L k (.returned (.tuple #[.agg #[.int .i64 0, .int .i64 0, .slice none 0 0], .bool false])) w' := by
  unfold RetGrow
  rw [growX_no h, growX_no h, growR_no h, dc_false h]
  exact RetCut.none_ hb
theorem grow_made {W H k : Int} {L : List Sq} (hG : Good W H L) (hk : 1 ≤ k) :
    cutX (k * W) (k * H) (srt (growL k L)) (k * W) = growX W H L k W ∧ cutX (k * W) (k * H) (srt (growL k L)) (k * H) = growX W H L k H ∧ ifGood (k * W) (k * H) (srt (growL k L)) (srt (growL k L)) = growR W H L k ∧ dc (Good (k * W) (k * H) (srt (growL k L))) = dc (GrowOk W H L k) := by
  by_cases h : GrowOk W H L k
  · have hg := good_grow hG hk h.2.2.1 h.2.2.2
    have e := good_sorted hg
    rw [e, cutX_yes hg, cutX_yes hg, ifGood_yes hg, dc_true hg, growX_yes h, growX_yes h, growR_yes h, dc_true h]
    exact ⟨rfl, rfl, rfl, rfl⟩
  · have hg : ¬ Good (k * W) (k * H) (srt (growL k L)) := fun g => h ⟨hG, hk, g.1.2, g.2.1.2⟩
    rw [cutX_no hg, cutX_no hg, ifGood_no hg, dc_false hg, growX_no h, growX_no h, growR_no h, dc_false h]
    exact ⟨rfl, rfl, rfl, rfl⟩
theorem prod_bd {k x : Int} (k0 : 1 ≤ k) (k1 : k ≤ 500) (h0 : 0 ≤ x) (h1 : x ≤ 500) : 0 ≤ k * x ∧ k * x ≤ 250000 :=
  ⟨Int.mul_nonneg (by omega) h0, by have := Int.mul_le_mul k1 h1 h0 (by decide); omega⟩

end Go.Proofs.Ytilneimiedfjnaa
