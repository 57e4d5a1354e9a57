/- CutText of the model. -/
import Derived.Test.YtbkfenhiaedlgaaDoorCt
set_option linter.all false
namespace Go.Proofs.YtbkfenhiaedlgaaDoor
open Go.RowKit

set_option maxRecDepth 100000 in
set_option maxHeartbeats 4000000 in
theorem specCt_any (W H : Int) (A : Option Addr) (n c : Nat) (L : List Sq) (w : World) (hl : L.length = n) (hc : n ≤ c) (hL : SqsAt w w.heap.size A L) :
    Calls Tryd.prog 12 #[.agg #[.int .i64 W, .int .i64 H, .slice A n c]] w (RetTx w (ctV W H L) (dc (Good W H L))) := by
  have B0 : Below w.heap.size w (w.alloc (.cells #[.int .i64 W, .int .i64 H, .slice A n c] 30)) := (Below.refl _ _).alloc (Nat.le_refl _) _
  have K0 := Bx.start w W H A n c 30
  have C := cuGood_any W H A n c L _ hl hc ((hL.below B0).mono B0.size)
  by_cases hG : Good W H L
  · have C0 := Lib.hid (callB_yes C hG)
    rw [ctV_yes hG, dc_true hG]
    have hs := good_sm hG
    have hW := hG.1
    have hH := hG.2.1
    have hn30 : n ≤ 30 := by have := hG.2.2.1; omega
    clear C hG
    go_enter Tryd.func12, Tryd.ntmps12
    go_wp2_with fail
    (with_reducible refine C0.out.mono ?_)
    rintro e w1 ⟨rfl, hb1⟩
    have K1 := K0.next hb1
    have B1 := B0.trans (hb1.mono B0.size)
    obtain ⟨kl, k0, k1, k2⟩ := id K1
    have C1 := Lib.hid (cuText_any W H A n c L w1 hl (by omega) (by omega) (by omega) ((hL.below B1).mono B1.size) hs)
    clear hb1 C0 K0 B0 hL hs
    obtain ⟨T, hT⟩ : ∃ T, bas (txC W.toNat H.toNat L) = T := ⟨_, rfl⟩
    rw [hT] at C1
    have HT := Lib.hid hT
    clear hT
    go_wp2_with fail
    (with_reducible refine C1.out.mono ?_)
    rintro e w2 ⟨rfl, hb2⟩
    go_wp2_with fail
    go_ret2
    exact ⟨by rw [HT.out]; rfl, B1.trans (hb2.mono B1.size)⟩
  · have C0 := Lib.hid (callB_no C hG)
    rw [ctV_no hG, dc_false hG]
    clear C hG hL hl
    go_enter Tryd.func12, Tryd.ntmps12
    go_wp2_with fail
    (with_reducible refine C0.out.mono ?_)
    rintro e w1 ⟨rfl, hb1⟩
    go_wp2_with fail
    go_ret2
    exact ⟨rfl, B0.trans (hb1.mono B0.size)⟩
end Go.Proofs.YtbkfenhiaedlgaaDoor
