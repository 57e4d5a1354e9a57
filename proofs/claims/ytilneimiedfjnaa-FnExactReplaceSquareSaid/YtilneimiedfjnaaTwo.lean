/- BesideCuts and UnderCuts of the model. -/
import Derived.Test.YtilneimiedfjnaaUndS
set_option linter.all false
namespace Go.Proofs.Ytilneimiedfjnaa
open Go.RowKit

/-- Two boxes of cuts. -/
theorem joTwo_any (W H : Int) (A : Option Addr) (n c : Nat) (L : List Sq) (V G : Int) (A' : Option Addr) (n' c' : Nat) (M : List Sq) (w : World) (hl : L.length = n) (hl' : M.length = n') (hc : n ≤ c) (hc' : n' ≤ c') (hL : SqsAt w w.heap.size A L) (hM : SqsAt w w.heap.size A' M) :
    Calls Try.prog 64 #[.agg #[.int .i64 W, .int .i64 H, .slice A n c], .agg #[.int .i64 V, .int .i64 G, .slice A' n' c']] w (RetB w (Good W H L ∧ Good V G M)) := by
  subst hl
  subst hl'
  have hb : Below w.heap.size w ((w.alloc (.cells #[.int .i64 W, .int .i64 H, .slice A L.length c] 29)).alloc (.cells #[.int .i64 V, .int .i64 G, .slice A' M.length c'] 29)) := ((Below.refl _ _).alloc (Nat.le_refl _) _).alloc (by simp) _
  obtain ⟨W1, hW1⟩ : ∃ W1, W1 = ((w.alloc (.cells #[.int .i64 W, .int .i64 H, .slice A L.length c] 29)).alloc (.cells #[.int .i64 V, .int .i64 G, .slice A' M.length c'] 29)) := ⟨_, rfl⟩
  have bb : Bx (w.heap.size + 1) W1 V G A' M.length c' := by rw [hW1]; simpa using Bx.start (w.alloc (.cells #[.int .i64 W, .int .i64 H, .slice A L.length c] 29)) V G A' M.length c' 29
  have ba : Bx w.heap.size W1 W H A L.length c := by rw [hW1]; exact (Bx.start w W H A L.length c 29).next ((Below.refl _ _).alloc (Nat.le_refl _) _)
  rw [← hW1] at hb
  obtain ⟨_, a0, a1, a2⟩ := id ba
  by_cases hG : Good W H L
  · by_cases hK : Good V G M
    · go_enter Try.func64, Try.ntmps64
      go_wp2_with fail
      rw [← hW1]
      refine (callB_yes (cuGood_any W H A _ c L _ rfl hc ((hL.below hb).mono hb.size)) hG).mono ?_
      rintro e w1 ⟨rfl, hb1⟩
      have hb2 := hb.trans (hb1.mono hb.size)
      obtain ⟨_, b0, b1, b2⟩ := bb.next hb1
      clear a0 a1 a2 hb1 hW1
      go_wp2_with fail
      refine (callB_yes (cuGood_any V G A' _ c' M _ rfl hc' ((hM.below hb2).mono hb2.size)) hK).mono ?_
      rintro e w2 ⟨rfl, hb3⟩
      have hb4 := hb2.trans (hb3.mono hb2.size)
      clear b0 b1 b2 hb3 hb2
      go_wp2_with fail
      go_ret
      exact RetB.mk (by simp [hG, hK]) hb4
    · go_enter Try.func64, Try.ntmps64
      go_wp2_with fail
      rw [← hW1]
      refine (callB_yes (cuGood_any W H A _ c L _ rfl hc ((hL.below hb).mono hb.size)) hG).mono ?_
      rintro e w1 ⟨rfl, hb1⟩
      have hb2 := hb.trans (hb1.mono hb.size)
      obtain ⟨_, b0, b1, b2⟩ := bb.next hb1
      clear a0 a1 a2 hb1 hW1
      go_wp2_with fail
      refine (callB_no (cuGood_any V G A' _ c' M _ rfl hc' ((hM.below hb2).mono hb2.size)) hK).mono ?_
      rintro e w2 ⟨rfl, hb3⟩
      have hb4 := hb2.trans (hb3.mono hb2.size)
      clear b0 b1 b2 hb3 hb2
      go_wp2_with fail
      go_ret
      exact RetB.mk (by simp [hK]) hb4
  · go_enter Try.func64, Try.ntmps64
    go_wp2_with fail
    rw [← hW1]
    refine (callB_no (cuGood_any W H A _ c L _ rfl hc ((hL.below hb).mono hb.size)) hG).mono ?_
    rintro e w1 ⟨rfl, hb1⟩
    have hb2 := hb.trans (hb1.mono hb.size)
    clear a0 a1 a2 hb1 hW1
    go_wp2_with fail
    go_ret
    exact RetB.mk (by simp [hG]) hb2

end Go.Proofs.Ytilneimiedfjnaa
