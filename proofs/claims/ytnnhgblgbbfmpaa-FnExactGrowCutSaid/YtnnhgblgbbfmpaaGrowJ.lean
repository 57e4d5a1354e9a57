/- Contract of the program's GrowCut. -/
import Derived.Test.YtnnhgblgbbfmpaaGrowI
set_option linter.all false
namespace Go.Proofs.Ytnnhgblgbbfmpaa
open Go.RowKit

theorem quo_fit {k M : Int} (_hk : 1 ≤ k) (hM : 1 ≤ M) : ¬ 500 / M < k ↔ k * M ≤ 500 := by
  rw [Int.not_lt]
  exact Int.le_ediv_iff_mul_le (by omega)
theorem quo_wrap {M : Int} (hM : 1 ≤ M) : IntKind.i64.wrap ((500 : Int).tdiv M) = 500 / M ∧ 0 ≤ (500 : Int) / M ∧ (500 : Int) / M ≤ 500 := by
  have h0 : 0 ≤ (500 : Int) / M := Int.ediv_nonneg (by decide) (by omega)
  have h1 : (500 : Int) / M ≤ 500 := Int.ediv_le_self _ (by decide)
  refine ⟨?_, h0, h1⟩
  rw [Int.tdiv_eq_ediv_of_nonneg (by decide)]
  exact IntWalk.i64_in _ (by omega)
set_option maxRecDepth 100000 in
set_option maxHeartbeats 2000000 in
theorem implGrow_any (W H : Int) (A : Option Addr) (n c : Nat) (L : List Sq) (k : Int) (w : World) (hl : L.length = n) (hc : n ≤ c) (hL : SqsAt w w.heap.size A L) (hwf : ∀ s ∈ L, wfS s) :
    Calls Try.prog 23 #[.agg #[.int .i64 W, .int .i64 H, .slice A n c], .int .i64 k] w (RetGrow w W H L k) := by
  subst hl
  have Z0 : Box w.heap.size w (w.alloc (.cells #[.int .i64 W, .int .i64 H, .slice A L.length c] 28)) W H A c L := Box.start hL
  have Z1 := Z0.next ((Below.refl _ _).alloc (Nat.le_refl _) (.cells #[.int .i64 0, .int .i64 0, .slice none 0 0] 28))
  have q1 : Bx (w.heap.size + 1) ((w.alloc (.cells #[.int .i64 W, .int .i64 H, .slice A L.length c] 28)).alloc (.cells #[.int .i64 0, .int .i64 0, .slice none 0 0] 28)) 0 0 none 0 0 := by simpa using Bx.start (w.alloc (.cells #[.int .i64 W, .int .i64 H, .slice A L.length c] 28)) 0 0 none 0 0 28
  obtain ⟨W1, hW1⟩ : ∃ W1, W1 = ((w.alloc (.cells #[.int .i64 W, .int .i64 H, .slice A L.length c] 28)).alloc (.cells #[.int .i64 0, .int .i64 0, .slice none 0 0] 28)) := ⟨_, rfl⟩
  have hz : W1.heap.size = w.heap.size + 2 := by rw [hW1]; simp
  rw [← hW1] at Z1 q1
  have qf : ∀ o, W1.frozen? ⟨w.heap.size + 1, o, none⟩ = false := by intro o; rw [hW1]; exact World.frozen?_alloc_at _ _ _ _ (by simp)
  obtain ⟨hB1, hz1', b0, b1, b2, hL1⟩ := id Z1
  clear Z0
  by_cases hG : Good W H L
  · by_cases hk : 1 ≤ k
    · have hW := hG.1
      have hH := hG.2.1
      obtain ⟨M, hM1, hMW, hMH, hMM, hmax⟩ : ∃ M : Int, 1 ≤ M ∧ W ≤ M ∧ H ≤ M ∧ (M = W ∨ M = H) ∧ max W H = M := ⟨max W H, by omega, by omega, by omega, by omega, rfl⟩
      obtain ⟨e1, e2, e3⟩ := quo_wrap hM1
      have hfit := quo_fit hk hM1
      obtain ⟨D, hD⟩ : ∃ D, (500 : Int) / M = D := ⟨_, rfl⟩
      rw [hD] at e1 e2 e3 hfit
      have M0 : M ≠ 0 := by omega
      have HD := Lib.hid hD
      have HM := Lib.hid hMM
      clear hD hMM
      have hok : GrowOk W H L k ↔ k * M ≤ 500 := by
        unfold GrowOk
        refine ⟨fun h => ?_, fun h => ⟨hG, hk, Int.le_trans ((mul_le hk).2 hMW) h, Int.le_trans ((mul_le hk).2 hMH) h⟩⟩
        rcases HM.out with e | e
        · rw [e]; exact h.2.2.1
        · rw [e]; exact h.2.2.2
      have HO := Lib.hid hok
      clear hok
      by_cases hb : D < k
      · have hno : ¬ GrowOk W H L k := fun h => hfit.2 (HO.out.1 h) hb
        clear hfit
        go_enter Try.func23, Try.ntmps23
        go_wp2_with fail
        rw [← hW1]
        refine (callB_yes (isCut_good W H A _ c L _ rfl hc (hL1.mono hB1.size) hwf) hG).mono ?_
        rintro e w2 ⟨rfl, hb2⟩
        have Z2 := Z1.next hb2
        have q2 := q1.next hb2
        have qf2 : ∀ o, w2.frozen? ⟨w.heap.size + 1, o, none⟩ = false := fun o => (hb2.frozen (p := ⟨w.heap.size + 1, o, none⟩) (by simp; omega)).trans (qf o)
        have hs2 := hb2.size
        clear hb2 Z1 q1 qf b0 b1 b2 hL1 hB1 hz1' hW1
        obtain ⟨hB2, hz2', b0, b1, b2, hL2⟩ := id Z2
        obtain ⟨_, r0, r1, r2⟩ := id q2
        have t0 := qf2 0
        have t1 := qf2 1
        have t2 := qf2 2
        clear q2 qf2 Z2
        go_wp2_with fail
        have hB := ((hB2.setCell (p := ⟨w.heap.size + 1, 0, none⟩) (by simp) (.int .i64 0)).setCell (p := ⟨w.heap.size + 1, 1, none⟩) (by simp) (.int .i64 0)).setCell (p := ⟨w.heap.size + 1, 2, none⟩) (by simp) (.slice none 0 0)
        refine bodyPost_ret (v := .tuple #[.agg #[.int .i64 0, .int .i64 0, .slice none 0 0], .bool false]) (by simp [results, Try.results23, go_sem, r0, r1, r2]) rfl ?_
        exact RetGrow.no hno hB
      · have hyes : GrowOk W H L k := HO.out.2 (hfit.1 hb)
        clear hfit
        go_enter Try.func23, Try.ntmps23
        go_wp2_with fail
        rw [← hW1]
        refine (callB_yes (isCut_good W H A _ c L _ rfl hc (hL1.mono hB1.size) hwf) hG).mono ?_
        rintro e w2 ⟨rfl, hb2⟩
        have Z2 := Z1.next hb2
        have q2 := q1.next hb2
        have qf2 : ∀ o, w2.frozen? ⟨w.heap.size + 1, o, none⟩ = false := fun o => (hb2.frozen (p := ⟨w.heap.size + 1, o, none⟩) (by simp; omega)).trans (qf o)
        have hs2 := hb2.size
        clear hb2 Z1 q1 qf b0 b1 b2 hL1 hB1 hz1' hW1
        obtain ⟨hB2, hz2', b0, b1, b2, hL2⟩ := id Z2
        obtain ⟨_, r0, r1, r2⟩ := id q2
        have t0 := qf2 0
        have t1 := qf2 1
        have t2 := qf2 2
        clear q2 qf2 Z2
        go_wp2_with fail
        refine (implGrown_any W H A L.length c L k _ rfl hc (hL2.mono (by omega)) hyes.1 hyes.2.1 hyes.2.2.1 hyes.2.2.2).mono ?_
        rintro e w4 ⟨Ag, cg, rfl, hown, hb4⟩
        have hq : w.heap.size + 1 < w2.heap.size := by omega
        have r0' := (hb4.cell (p := ⟨w.heap.size + 1, 0, none⟩) hq).trans r0
        have r1' := (hb4.cell (p := ⟨w.heap.size + 1, 1, none⟩) hq).trans r1
        have r2' := (hb4.cell (p := ⟨w.heap.size + 1, 2, none⟩) hq).trans r2
        have t0' := (hb4.frozen (p := ⟨w.heap.size + 1, 0, none⟩) hq).trans t0
        have t1' := (hb4.frozen (p := ⟨w.heap.size + 1, 1, none⟩) hq).trans t1
        have t2' := (hb4.frozen (p := ⟨w.heap.size + 1, 2, none⟩) hq).trans t2
        have hB4 := hB2.trans (hb4.mono (by omega))
        clear r0 r1 r2 t0 t1 t2 b0 b1 b2 hL2
        go_wp2_with fail
        have hB := ((hB4.setCell (p := ⟨w.heap.size + 1, 0, none⟩) (by simp) (.int .i64 (k * W))).setCell (p := ⟨w.heap.size + 1, 1, none⟩) (by simp) (.int .i64 (k * H))).setCell (p := ⟨w.heap.size + 1, 2, none⟩) (by simp) (.slice Ag L.length cg)
        have R := ownsRow_setCell_below (ownsRow_setCell_below (ownsRow_setCell_below hown (a := ⟨w.heap.size + 1, 0, none⟩) hq (.int .i64 (k * W))) (a := ⟨w.heap.size + 1, 1, none⟩) hq (.int .i64 (k * H))) (a := ⟨w.heap.size + 1, 2, none⟩) hq (.slice Ag L.length cg)
        refine bodyPost_ret (v := .tuple #[.agg #[.int .i64 (k * W), .int .i64 (k * H), .slice Ag L.length cg], .bool true]) (by simp [results, Try.results23, go_sem, r0', r1', r2']) rfl ?_
        unfold RetGrow
        rw [growX_yes hyes, growX_yes hyes, growR_yes hyes, dc_true hyes]
        exact RetCut.mk (growL_len _ _).symm (own_base R (by omega)) hB
    · have hno : ¬ GrowOk W H L k := fun h => hk h.2.1
      go_enter Try.func23, Try.ntmps23
      go_wp2_with fail
      rw [← hW1]
      refine (callB_yes (isCut_good W H A _ c L _ rfl hc (hL1.mono hB1.size) hwf) hG).mono ?_
      rintro e w2 ⟨rfl, hb2⟩
      have Z2 := Z1.next hb2
      have q2 := q1.next hb2
      have qf2 : ∀ o, w2.frozen? ⟨w.heap.size + 1, o, none⟩ = false := fun o => (hb2.frozen (p := ⟨w.heap.size + 1, o, none⟩) (by simp; omega)).trans (qf o)
      have hs2 := hb2.size
      clear hb2 Z1 q1 qf b0 b1 b2 hL1 hB1 hz1' hW1
      obtain ⟨hB2, hz2', b0, b1, b2, hL2⟩ := id Z2
      obtain ⟨_, r0, r1, r2⟩ := id q2
      have t0 := qf2 0
      have t1 := qf2 1
      have t2 := qf2 2
      clear q2 qf2 Z2
      go_wp2_with fail
      have hB := ((hB2.setCell (p := ⟨w.heap.size + 1, 0, none⟩) (by simp) (.int .i64 0)).setCell (p := ⟨w.heap.size + 1, 1, none⟩) (by simp) (.int .i64 0)).setCell (p := ⟨w.heap.size + 1, 2, none⟩) (by simp) (.slice none 0 0)
      refine bodyPost_ret (v := .tuple #[.agg #[.int .i64 0, .int .i64 0, .slice none 0 0], .bool false]) (by simp [results, Try.results23, go_sem, r0, r1, r2]) rfl ?_
      exact RetGrow.no hno hB
  · have hno : ¬ GrowOk W H L k := fun h => hG h.1
    go_enter Try.func23, Try.ntmps23
    go_wp2_with fail
    rw [← hW1]
    refine (callB_no (isCut_good W H A _ c L _ rfl hc (hL1.mono hB1.size) hwf) hG).mono ?_
    rintro e w2 ⟨rfl, hb2⟩
    have Z2 := Z1.next hb2
    have q2 := q1.next hb2
    have qf2 : ∀ o, w2.frozen? ⟨w.heap.size + 1, o, none⟩ = false := fun o => (hb2.frozen (p := ⟨w.heap.size + 1, o, none⟩) (by simp; omega)).trans (qf o)
    have hs2 := hb2.size
    clear hb2 Z1 q1 qf b0 b1 b2 hL1 hB1 hz1' hW1
    obtain ⟨hB2, hz2', b0, b1, b2, hL2⟩ := id Z2
    obtain ⟨_, r0, r1, r2⟩ := id q2
    have t0 := qf2 0
    have t1 := qf2 1
    have t2 := qf2 2
    clear q2 qf2 Z2
    go_wp2_with fail
    have hB := ((hB2.setCell (p := ⟨w.heap.size + 1, 0, none⟩) (by simp) (.int .i64 0)).setCell (p := ⟨w.heap.size + 1, 1, none⟩) (by simp) (.int .i64 0)).setCell (p := ⟨w.heap.size + 1, 2, none⟩) (by simp) (.slice none 0 0)
    refine bodyPost_ret (v := .tuple #[.agg #[.int .i64 0, .int .i64 0, .slice none 0 0], .bool false]) (by simp [results, Try.results23, go_sem, r0, r1, r2]) rfl ?_
    exact RetGrow.no hno hB

theorem specGrow_cut (W H : Int) (A : Option Addr) (n c : Nat) (L : List Sq) (k : Int) (w : World) (hl : L.length = n) (hc : n ≤ c) (hL : SqsAt w w.heap.size A L) :
    Calls Try.prog 22 #[.agg #[.int .i64 W, .int .i64 H, .slice A n c], .int .i64 k] w (RetCut w (growX W H L k W) (growX W H L k H) (growR W H L k) (dc (GrowOk W H L k))) := specGrow_any W H A n c L k w hl hc hL
theorem implGrow_cut (W H : Int) (A : Option Addr) (n c : Nat) (L : List Sq) (k : Int) (w : World) (hl : L.length = n) (hc : n ≤ c) (hL : SqsAt w w.heap.size A L) (hwf : ∀ s ∈ L, wfS s) :
    Calls Try.prog 23 #[.agg #[.int .i64 W, .int .i64 H, .slice A n c], .int .i64 k] w (RetCut w (growX W H L k W) (growX W H L k H) (growR W H L k) (dc (GrowOk W H L k))) := implGrow_any W H A n c L k w hl hc hL hwf
end Go.Proofs.Ytnnhgblgbbfmpaa
