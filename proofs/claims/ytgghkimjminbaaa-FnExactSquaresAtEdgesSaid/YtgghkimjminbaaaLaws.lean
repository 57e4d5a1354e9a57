/- What all laws' walks share, and the model's IsCut. -/
import Derived.Test.YtgghkimjminbaaaGen
set_option linter.all false
namespace Go.Proofs.Ytgghkimjminbaaa
open Go.RowKit

theorem specIsCut_any (W H : Int) (A : Option Addr) (n c : Nat) (L : List Sq) (w : World) (hl : L.length = n) (hc : n ≤ c) (hL : SqsAt w w.heap.size A L) :
    Calls Try.prog 26 #[.agg #[.int .i64 W, .int .i64 H, .slice A n c]] w (RetB w (Good W H L)) := by
  have hb0 : ∀ o : Obj, Below w.heap.size w (w.alloc o) := fun o => (Below.refl _ _).alloc (Nat.le_refl _) o
  go_enter Try.func26, Try.ntmps26
  go_wp2_with fail
  refine (cuGood_any W H A n c L _ hl hc ((hL.below (hb0 _)).mono (hb0 _).size)).mono ?_
  rintro e w' ⟨rfl, hb⟩
  go_wp2_with fail
  go_ret
  exact ⟨rfl, (hb0 _).trans (hb.mono (hb0 _).size)⟩

end Go.Proofs.Ytgghkimjminbaaa
