/- Contract of the model's CodeOf. -/
import Derived.Test.YtmjdmedlkcmgiaaBk
import Derived.Test.YtmjdmedlkcmgiaaCodeI
set_option linter.all false
namespace Go.Proofs.Ytmjdmedlkcmgiaa
open Go.RowKit

set_option maxRecDepth 100000 in
set_option maxHeartbeats 4000000 in
theorem specCode_any (W H : Int) (A : Option Addr) (n c : Nat) (L : List Sq) (w : World) (hl : L.length = n) (hc : n ≤ c) (hL : SqsAt w w.heap.size A L) :
    Calls Try.prog 16 #[.agg #[.int .i64 W, .int .i64 H, .slice A n c]] w (RetSS w (ifGood W H L (glists (grps L))) (dc (Good W H L))) := by
  subst hl
  have hb0 : ∀ o : Obj, Below w.heap.size w (w.alloc o) := fun o => (Below.refl _ _).alloc (Nat.le_refl _) o
  have Z0 : Box w.heap.size w (w.alloc (.cells #[.int .i64 W, .int .i64 H, .slice A L.length c] 31)) W H A c L := Box.start hL
  by_cases hG : Good W H L
  · rw [ifGood_yes hG, dc_true hG]
    have hg30 := hG.2.2.1.2
    have hfine := good_fine hG
    go_enter Try.func16, Try.ntmps16
    go_wp2_with fail
    refine (callB_yes (cuGood_any W H A _ c L _ rfl hc ((hL.below (hb0 _)).mono (hb0 _).size)) hG).mono ?_
    rintro e w1 ⟨rfl, hb1⟩
    have Z1 := Z0.next hb1
    obtain ⟨hB1, hz1, b0, b1, b2, hL1⟩ := id Z1
    clear Z0 hb1 hb0 hG
    go_wp2_with fail
    refine (bkCode_any W H A L.length c L _ rfl hg30 (hL1.mono hB1.size) hfine).mono ?_
    rintro e w2 ⟨A2, c2, R, rfl, hM, hS, hb2⟩
    go_wp2_with fail
    go_ret2
    exact RetSS.mk hM (hS.based hB1.size) (hB1.trans (hb2.mono hB1.size))
  · rw [ifGood_no hG, dc_false hG]
    go_enter Try.func16, Try.ntmps16
    go_wp2_with fail
    refine (callB_no (cuGood_any W H A _ c L _ rfl hc ((hL.below (hb0 _)).mono (hb0 _).size)) hG).mono ?_
    rintro e w1 ⟨rfl, hb1⟩
    go_wp2_with fail
    go_ret2
    exact RetSS.none_ ((hb0 _).trans (hb1.mono (hb0 _).size))
end Go.Proofs.Ytmjdmedlkcmgiaa
