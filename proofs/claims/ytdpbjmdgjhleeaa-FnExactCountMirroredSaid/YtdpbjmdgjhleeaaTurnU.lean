/- Contracts of the model's TurnCut and MirrorCut. -/
import Derived.Test.YtdpbjmdgjhleeaaTurnJ
import Derived.Test.YtdpbjmdgjhleeaaTurnT
set_option linter.all false
namespace Go.Proofs.Ytdpbjmdgjhleeaa
open Go.RowKit

set_option maxRecDepth 100000 in
set_option maxHeartbeats 1000000 in
theorem specMirror_any (W H : Int) (A : Option Addr) (n c : Nat) (L : List Sq) (w : World) (hl : L.length = n) (hc : n ≤ c) (hL : SqsAt w w.heap.size A L) :
    Calls Try.prog 14 #[.agg #[.int .i64 W, .int .i64 H, .slice A n c]] w (RetCut w (cutX W H L W) (cutX W H L H) (ifGood W H L (srt (mirL W L))) (dc (Good W H L))) := by
  subst hl
  have Z0 : Box w.heap.size w (w.alloc (.cells #[.int .i64 W, .int .i64 H, .slice A L.length c] 28)) W H A c L := Box.start hL
  have Z1 := Z0.next ((Below.refl _ _).alloc (Nat.le_refl _) (.cells #[.int .i64 0, .int .i64 0, .slice none 0 0] 28))
  have q1 : Bx (w.heap.size + 1) ((w.alloc (.cells #[.int .i64 W, .int .i64 H, .slice A L.length c] 28)).alloc (.cells #[.int .i64 0, .int .i64 0, .slice none 0 0] 28)) 0 0 none 0 0 := by simpa using Bx.start (w.alloc (.cells #[.int .i64 W, .int .i64 H, .slice A L.length c] 28)) 0 0 none 0 0 28
  obtain ⟨W1, hW1⟩ : ∃ W1, W1 = ((w.alloc (.cells #[.int .i64 W, .int .i64 H, .slice A L.length c] 28)).alloc (.cells #[.int .i64 0, .int .i64 0, .slice none 0 0] 28)) := ⟨_, rfl⟩
  have hz : W1.heap.size = w.heap.size + 2 := by rw [hW1]; simp
  rw [← hW1] at Z1 q1
  have qf : ∀ o, W1.frozen? ⟨w.heap.size + 1, o, none⟩ = false := by intro o; rw [hW1]; exact World.frozen?_alloc_at _ _ _ _ (by simp)
  obtain ⟨hB1, hz1', b0, b1, b2, hL1⟩ := id Z1
  clear Z0
  by_cases hG : Good W H L
  · rw [cutX_yes hG, cutX_yes hG, ifGood_yes hG, dc_true hG]
    go_enter Try.func14, Try.ntmps14
    go_wp2_with fail
    rw [← hW1]
    refine (callB_yes (cuGood_any W H A _ c L _ rfl hc (hL1.mono hB1.size)) hG).mono ?_
    rintro e w2 ⟨rfl, hb2⟩
    have Z2 := Z1.next hb2
    have q2 := q1.next hb2
    have qf2 : ∀ o, w2.frozen? ⟨w.heap.size + 1, o, none⟩ = false := fun o => (hb2.frozen (p := ⟨w.heap.size + 1, o, none⟩) (by simp; omega)).trans (qf o)
    have hs2 := hb2.size
    clear hb2 Z1 q1 qf b0 b1 b2 hL1 hB1 hz1' hW1
    obtain ⟨hB2, hz2, b0, b1, b2, hL2⟩ := id Z2
    go_wp2_with fail
    refine (cuMirror_any W H A L.length c L _ rfl hc (hL2.mono (by omega)) hG).mono ?_
    rintro e w3 ⟨Ag, cg, T, rfl, hp, hs, hown, hb3⟩
    obtain rfl := srt_uniq hp hs ((fill_mir (good_fill hG)).dist)
    have qs := q2.next hb3
    have t0 := (hb3.frozen (p := ⟨w.heap.size + 1, 0, none⟩) (by simp; omega)).trans (qf2 0)
    have t1 := (hb3.frozen (p := ⟨w.heap.size + 1, 1, none⟩) (by simp; omega)).trans (qf2 1)
    have t2 := (hb3.frozen (p := ⟨w.heap.size + 1, 2, none⟩) (by simp; omega)).trans (qf2 2)
    obtain ⟨_, r0, r1, r2⟩ := id qs
    have hB3 := hB2.trans (hb3.mono (by omega))
    clear b0 b1 b2 hL2 Z2 q2 qf2
    go_wp2_with fail
    have hB := ((hB3.setCell (p := ⟨w.heap.size + 1, 0, none⟩) (by simp) (.int .i64 W)).setCell (p := ⟨w.heap.size + 1, 1, none⟩) (by simp) (.int .i64 H)).setCell (p := ⟨w.heap.size + 1, 2, none⟩) (by simp) (.slice Ag (mirL W L).length cg)
    have R := ownsRow_setCell_below (ownsRow_setCell_below (ownsRow_setCell_below hown (a := ⟨w.heap.size + 1, 0, none⟩) (by simp; omega) (.int .i64 W)) (a := ⟨w.heap.size + 1, 1, none⟩) (by simp; omega) (.int .i64 H)) (a := ⟨w.heap.size + 1, 2, none⟩) (by simp; omega) (.slice Ag (mirL W L).length cg)
    refine bodyPost_ret (v := .tuple #[.agg #[.int .i64 W, .int .i64 H, .slice Ag (mirL W L).length cg], .bool true]) (by simp [results, Try.results14, go_sem, r0, r1, r2]) rfl ?_
    exact RetCut.mk (srt_len _).symm (own_base R (by omega)) hB
  · rw [cutX_no hG, cutX_no hG, ifGood_no hG, dc_false hG]
    go_enter Try.func14, Try.ntmps14
    go_wp2_with fail
    rw [← hW1]
    refine (callB_no (cuGood_any W H A _ c L _ rfl hc (hL1.mono hB1.size)) hG).mono ?_
    rintro e w2 ⟨rfl, hb2⟩
    have q2 := q1.next hb2
    have qf2 : ∀ o, w2.frozen? ⟨w.heap.size + 1, o, none⟩ = false := fun o => (hb2.frozen (p := ⟨w.heap.size + 1, o, none⟩) (by simp; omega)).trans (qf o)
    obtain ⟨_, r0, r1, r2⟩ := id q2
    have t0 := qf2 0
    have t1 := qf2 1
    have t2 := qf2 2
    have hB2 := hB1.trans (hb2.mono hB1.size)
    have hs2 := hb2.size
    clear q1 q2 qf qf2 Z1 b0 b1 b2 hL1
    go_wp2_with fail
    have hB := ((((hB2.setCell (p := ⟨w.heap.size + 1, 0, none⟩) (by simp) (.int .i64 0)).setCell (p := ⟨w.heap.size + 1, 1, none⟩) (by simp) (.int .i64 0)).setCell (p := ⟨w.heap.size + 1, 2, none⟩) (by simp) (.slice none 0 0)))
    refine bodyPost_ret (v := .tuple #[.agg #[.int .i64 0, .int .i64 0, .slice none 0 0], .bool false]) (by simp [results, Try.results14, go_sem, r0, r1, r2]) rfl ?_
    exact RetCut.mk rfl (World.ownsRow_nil _ _ _ _) hB
end Go.Proofs.Ytdpbjmdgjhleeaa
