/- BesideCuts and UnderCuts of the model. -/
import Derived.Test.YtnnhgblgbbfmpaaUndS
set_option linter.all false
namespace Go.Proofs.Ytnnhgblgbbfmpaa
open Go.RowKit

/-- Two boxes of cuts. -/
theorem joTwo_any (W H : Int) (A : Option Addr) (n c : Nat) (L : List Sq) (V G : Int) (A' : Option Addr) (n' c' : Nat) (M : List Sq) (w : World) (hl : L.length = n) (hl' : M.length = n') (hc : n ≤ c) (hc' : n' ≤ c') (hL : SqsAt w w.heap.size A L) (hM : SqsAt w w.heap.size A' M) :
    Calls Try.prog 85 #[.agg #[.int .i64 W, .int .i64 H, .slice A n c], .agg #[.int .i64 V, .int .i64 G, .slice A' n' c']] w (RetB w (Good W H L ∧ Good V G M)) := by
  subst hl
  subst hl'
  have hb : Below w.heap.size w ((w.alloc (.cells #[.int .i64 W, .int .i64 H, .slice A L.length c] 28)).alloc (.cells #[.int .i64 V, .int .i64 G, .slice A' M.length c'] 28)) := ((Below.refl _ _).alloc (Nat.le_refl _) _).alloc (by simp) _
  obtain ⟨W1, hW1⟩ : ∃ W1, W1 = ((w.alloc (.cells #[.int .i64 W, .int .i64 H, .slice A L.length c] 28)).alloc (.cells #[.int .i64 V, .int .i64 G, .slice A' M.length c'] 28)) := ⟨_, rfl⟩
  have bb : Bx (w.heap.size + 1) W1 V G A' M.length c' := by rw [hW1]; simpa using Bx.start (w.alloc (.cells #[.int .i64 W, .int .i64 H, .slice A L.length c] 28)) V G A' M.length c' 28
  have ba : Bx w.heap.size W1 W H A L.length c := by rw [hW1]; exact (Bx.start w W H A L.length c 28).next ((Below.refl _ _).alloc (Nat.le_refl _) _)
  rw [← hW1] at hb
  obtain ⟨_, a0, a1, a2⟩ := id ba
  by_cases hG : Good W H L
  · by_cases hK : Good V G M
    · go_enter Try.func85, Try.ntmps85
      go_wp2_with fail
      rw [← hW1]
      refine (callB_yes (cuGood_any W H A _ c L _ rfl hc ((hL.below hb).mono hb.size)) hG).mono ?_
      rintro e w1 ⟨rfl, hb1⟩
      have hb2 := hb.trans (hb1.mono hb.size)
      obtain ⟨_, b0, b1, b2⟩ := bb.next hb1
      clear a0 a1 a2 hb1 hW1
      go_wp2_with fail
      refine (callB_yes (cuGood_any V G A' _ c' M _ rfl hc' ((hM.below hb2).mono hb2.size)) hK).mono ?_
      rintro e w2 ⟨rfl, hb3⟩
      have hb4 := hb2.trans (hb3.mono hb2.size)
      clear b0 b1 b2 hb3 hb2
      go_wp2_with fail
      go_ret
      exact RetB.mk (by simp [hG, hK]) hb4
    · go_enter Try.func85, Try.ntmps85
      go_wp2_with fail
      rw [← hW1]
      refine (callB_yes (cuGood_any W H A _ c L _ rfl hc ((hL.below hb).mono hb.size)) hG).mono ?_
      rintro e w1 ⟨rfl, hb1⟩
      have hb2 := hb.trans (hb1.mono hb.size)
      obtain ⟨_, b0, b1, b2⟩ := bb.next hb1
      clear a0 a1 a2 hb1 hW1
      go_wp2_with fail
      refine (callB_no (cuGood_any V G A' _ c' M _ rfl hc' ((hM.below hb2).mono hb2.size)) hK).mono ?_
      rintro e w2 ⟨rfl, hb3⟩
      have hb4 := hb2.trans (hb3.mono hb2.size)
      clear b0 b1 b2 hb3 hb2
      go_wp2_with fail
      go_ret
      exact RetB.mk (by simp [hK]) hb4
  · go_enter Try.func85, Try.ntmps85
    go_wp2_with fail
    rw [← hW1]
    refine (callB_no (cuGood_any W H A _ c L _ rfl hc ((hL.below hb).mono hb.size)) hG).mono ?_
    rintro e w1 ⟨rfl, hb1⟩
    have hb2 := hb.trans (hb1.mono hb.size)
    clear a0 a1 a2 hb1 hW1
    go_wp2_with fail
    go_ret
    exact RetB.mk (by simp [hG]) hb2

set_option maxRecDepth 100000 in
set_option maxHeartbeats 4000000 in
theorem specBeside_any (W H : Int) (A : Option Addr) (n c : Nat) (L : List Sq) (V G : Int) (A' : Option Addr) (n' c' : Nat) (M : List Sq) (w : World) (hl : L.length = n) (hl' : M.length = n') (hc : n ≤ c) (hc' : n' ≤ c') (hL : SqsAt w w.heap.size A L) (hM : SqsAt w w.heap.size A' M) :
    Calls Try.prog 47 #[.agg #[.int .i64 W, .int .i64 H, .slice A n c], .agg #[.int .i64 V, .int .i64 G, .slice A' n' c']] w (RetT w (beT W H L V G M)) := by
  subst hl
  subst hl'
  have K0 := BB.start w W H A L.length c V G A' M.length c'
  obtain ⟨W1, hW1⟩ : ∃ W1, W1 = (((w.alloc (.cells #[.int .i64 W, .int .i64 H, .slice A L.length c] 28)).alloc (.cells #[.int .i64 V, .int .i64 G, .slice A' M.length c'] 28)).alloc (.cells #[.int .i64 0, .int .i64 0, .slice none 0 0] 28)) := ⟨_, rfl⟩
  rw [← hW1] at K0
  by_cases hG : Good W H L ∧ Good V G M
  · obtain ⟨Z, hZ⟩ : ∃ Z, beT W H L V G M = Z := ⟨_, rfl⟩
    have HZ := Lib.hid hZ
    have ⟨_, a0, a1, a2⟩ := K0.a
    have ⟨_, b0, b1, b2⟩ := K0.b
    have ⟨_, r0, r1, r2⟩ := K0.r
    have t0 := K0.fz (w.heap.size + 2) 0 (by omega) (by omega)
    have t1 := K0.fz (w.heap.size + 2) 1 (by omega) (by omega)
    have t2 := K0.fz (w.heap.size + 2) 2 (by omega) (by omega)
    have s0 := K0.size
    go_enter Try.func47, Try.ntmps47
    go_wp2_with fail
    rw [← hW1]
    refine (callB_yes (joTwo_any W H A _ c L V G A' _ c' M _ rfl rfl hc hc' ((hL.below K0.below).mono K0.below.size) ((hM.below K0.below).mono K0.below.size)) hG).mono ?_
    rintro e w1 ⟨rfl, hb1⟩
    have K1 := K0.next hb1
    clear a0 a1 a2 b0 b1 b2 r0 r1 r2 t0 t1 t2
    clear K0 hW1 hb1 s0
    have ⟨_, a0, a1, a2⟩ := K1.a
    have ⟨_, b0, b1, b2⟩ := K1.b
    have ⟨_, r0, r1, r2⟩ := K1.r
    have t0 := K1.fz (w.heap.size + 2) 0 (by omega) (by omega)
    have t1 := K1.fz (w.heap.size + 2) 1 (by omega) (by omega)
    have t2 := K1.fz (w.heap.size + 2) 2 (by omega) (by omega)
    have s0 := K1.size
    go_wp2_with fail
    refine (joBeside_any W H A _ c L V G A' _ c' M _ rfl rfl ((hL.below K1.below).mono K1.below.size) ((hM.below K1.below).mono K1.below.size) hG.1 hG.2).mono ?_
    rw [hZ]
    rintro e w9 ⟨A3, c3, rfl, o9, hb9⟩
    have K9 := K1.next hb9
    have o9 := own_base (base' := w.heap.size + 3) o9 K1.size
    clear a0 a1 a2 b0 b1 b2 r0 r1 r2 t0 t1 t2
    clear s0 hZ
    have ⟨_, r0, r1, r2⟩ := K9.r
    have t0 := K9.fz (w.heap.size + 2) 0 (by omega) (by omega)
    have t1 := K9.fz (w.heap.size + 2) 1 (by omega) (by omega)
    have t2 := K9.fz (w.heap.size + 2) 2 (by omega) (by omega)
    go_wp2_with fail
    obtain ⟨e1, e2⟩ := K9.done (X := Z.1) (Y := Z.2.1) o9 (Nat.le_refl _)
    rw [HZ.out]
    refine bodyPost_ret (v := .tuple #[.agg #[.int .i64 Z.1, .int .i64 Z.2.1, .slice A3 Z.2.2.1.length c3], .bool Z.2.2.2]) (by simp [results, Try.results47, go_sem, r0, r1, r2]) rfl ?_
    exact ⟨A3, c3, rfl, e2, e1⟩
  · rw [beT_no hG]
    have ⟨_, a0, a1, a2⟩ := K0.a
    have ⟨_, b0, b1, b2⟩ := K0.b
    have ⟨_, r0, r1, r2⟩ := K0.r
    have t0 := K0.fz (w.heap.size + 2) 0 (by omega) (by omega)
    have t1 := K0.fz (w.heap.size + 2) 1 (by omega) (by omega)
    have t2 := K0.fz (w.heap.size + 2) 2 (by omega) (by omega)
    have s0 := K0.size
    go_enter Try.func47, Try.ntmps47
    go_wp2_with fail
    rw [← hW1]
    refine (callB_no (joTwo_any W H A _ c L V G A' _ c' M _ rfl rfl hc hc' ((hL.below K0.below).mono K0.below.size) ((hM.below K0.below).mono K0.below.size)) hG).mono ?_
    rintro e w1 ⟨rfl, hb1⟩
    have K1 := K0.next hb1
    clear a0 a1 a2 b0 b1 b2 r0 r1 r2 t0 t1 t2
    clear K0 hW1 hb1 s0
    have ⟨_, a0, a1, a2⟩ := K1.a
    have ⟨_, b0, b1, b2⟩ := K1.b
    have ⟨_, r0, r1, r2⟩ := K1.r
    have t0 := K1.fz (w.heap.size + 2) 0 (by omega) (by omega)
    have t1 := K1.fz (w.heap.size + 2) 1 (by omega) (by omega)
    have t2 := K1.fz (w.heap.size + 2) 2 (by omega) (by omega)
    have s0 := K1.size
    go_wp2_with fail
    have hB := ((K1.below.setCell (p := ⟨w.heap.size + 2, 0, none⟩) (by simp) (.int .i64 0)).setCell (p := ⟨w.heap.size + 2, 1, none⟩) (by simp) (.int .i64 0)).setCell (p := ⟨w.heap.size + 2, 2, none⟩) (by simp) (.slice none 0 0)
    refine bodyPost_ret (v := .tuple #[.agg #[.int .i64 0, .int .i64 0, .slice none 0 0], .bool false]) (by simp [results, Try.results47, go_sem, r0, r1, r2]) rfl ?_
    exact RetT.no hB

set_option maxRecDepth 100000 in
set_option maxHeartbeats 4000000 in
theorem specUnder_any (W H : Int) (A : Option Addr) (n c : Nat) (L : List Sq) (V G : Int) (A' : Option Addr) (n' c' : Nat) (M : List Sq) (w : World) (hl : L.length = n) (hl' : M.length = n') (hc : n ≤ c) (hc' : n' ≤ c') (hL : SqsAt w w.heap.size A L) (hM : SqsAt w w.heap.size A' M) :
    Calls Try.prog 49 #[.agg #[.int .i64 W, .int .i64 H, .slice A n c], .agg #[.int .i64 V, .int .i64 G, .slice A' n' c']] w (RetT w (unT W H L V G M)) := by
  subst hl
  subst hl'
  have K0 := BB.start w W H A L.length c V G A' M.length c'
  obtain ⟨W1, hW1⟩ : ∃ W1, W1 = (((w.alloc (.cells #[.int .i64 W, .int .i64 H, .slice A L.length c] 28)).alloc (.cells #[.int .i64 V, .int .i64 G, .slice A' M.length c'] 28)).alloc (.cells #[.int .i64 0, .int .i64 0, .slice none 0 0] 28)) := ⟨_, rfl⟩
  rw [← hW1] at K0
  by_cases hG : Good W H L ∧ Good V G M
  · obtain ⟨Z, hZ⟩ : ∃ Z, unT W H L V G M = Z := ⟨_, rfl⟩
    have HZ := Lib.hid hZ
    have ⟨_, a0, a1, a2⟩ := K0.a
    have ⟨_, b0, b1, b2⟩ := K0.b
    have ⟨_, r0, r1, r2⟩ := K0.r
    have t0 := K0.fz (w.heap.size + 2) 0 (by omega) (by omega)
    have t1 := K0.fz (w.heap.size + 2) 1 (by omega) (by omega)
    have t2 := K0.fz (w.heap.size + 2) 2 (by omega) (by omega)
    have s0 := K0.size
    go_enter Try.func49, Try.ntmps49
    go_wp2_with fail
    rw [← hW1]
    refine (callB_yes (joTwo_any W H A _ c L V G A' _ c' M _ rfl rfl hc hc' ((hL.below K0.below).mono K0.below.size) ((hM.below K0.below).mono K0.below.size)) hG).mono ?_
    rintro e w1 ⟨rfl, hb1⟩
    have K1 := K0.next hb1
    clear a0 a1 a2 b0 b1 b2 r0 r1 r2 t0 t1 t2
    clear K0 hW1 hb1 s0
    have ⟨_, a0, a1, a2⟩ := K1.a
    have ⟨_, b0, b1, b2⟩ := K1.b
    have ⟨_, r0, r1, r2⟩ := K1.r
    have t0 := K1.fz (w.heap.size + 2) 0 (by omega) (by omega)
    have t1 := K1.fz (w.heap.size + 2) 1 (by omega) (by omega)
    have t2 := K1.fz (w.heap.size + 2) 2 (by omega) (by omega)
    have s0 := K1.size
    go_wp2_with fail
    refine (joUnder_any W H A _ c L V G A' _ c' M _ rfl rfl ((hL.below K1.below).mono K1.below.size) ((hM.below K1.below).mono K1.below.size) hG.1 hG.2).mono ?_
    rw [hZ]
    rintro e w9 ⟨A3, c3, rfl, o9, hb9⟩
    have K9 := K1.next hb9
    have o9 := own_base (base' := w.heap.size + 3) o9 K1.size
    clear a0 a1 a2 b0 b1 b2 r0 r1 r2 t0 t1 t2
    clear s0 hZ
    have ⟨_, r0, r1, r2⟩ := K9.r
    have t0 := K9.fz (w.heap.size + 2) 0 (by omega) (by omega)
    have t1 := K9.fz (w.heap.size + 2) 1 (by omega) (by omega)
    have t2 := K9.fz (w.heap.size + 2) 2 (by omega) (by omega)
    go_wp2_with fail
    obtain ⟨e1, e2⟩ := K9.done (X := Z.1) (Y := Z.2.1) o9 (Nat.le_refl _)
    rw [HZ.out]
    refine bodyPost_ret (v := .tuple #[.agg #[.int .i64 Z.1, .int .i64 Z.2.1, .slice A3 Z.2.2.1.length c3], .bool Z.2.2.2]) (by simp [results, Try.results49, go_sem, r0, r1, r2]) rfl ?_
    exact ⟨A3, c3, rfl, e2, e1⟩
  · rw [unT_no hG]
    have ⟨_, a0, a1, a2⟩ := K0.a
    have ⟨_, b0, b1, b2⟩ := K0.b
    have ⟨_, r0, r1, r2⟩ := K0.r
    have t0 := K0.fz (w.heap.size + 2) 0 (by omega) (by omega)
    have t1 := K0.fz (w.heap.size + 2) 1 (by omega) (by omega)
    have t2 := K0.fz (w.heap.size + 2) 2 (by omega) (by omega)
    have s0 := K0.size
    go_enter Try.func49, Try.ntmps49
    go_wp2_with fail
    rw [← hW1]
    refine (callB_no (joTwo_any W H A _ c L V G A' _ c' M _ rfl rfl hc hc' ((hL.below K0.below).mono K0.below.size) ((hM.below K0.below).mono K0.below.size)) hG).mono ?_
    rintro e w1 ⟨rfl, hb1⟩
    have K1 := K0.next hb1
    clear a0 a1 a2 b0 b1 b2 r0 r1 r2 t0 t1 t2
    clear K0 hW1 hb1 s0
    have ⟨_, a0, a1, a2⟩ := K1.a
    have ⟨_, b0, b1, b2⟩ := K1.b
    have ⟨_, r0, r1, r2⟩ := K1.r
    have t0 := K1.fz (w.heap.size + 2) 0 (by omega) (by omega)
    have t1 := K1.fz (w.heap.size + 2) 1 (by omega) (by omega)
    have t2 := K1.fz (w.heap.size + 2) 2 (by omega) (by omega)
    have s0 := K1.size
    go_wp2_with fail
    have hB := ((K1.below.setCell (p := ⟨w.heap.size + 2, 0, none⟩) (by simp) (.int .i64 0)).setCell (p := ⟨w.heap.size + 2, 1, none⟩) (by simp) (.int .i64 0)).setCell (p := ⟨w.heap.size + 2, 2, none⟩) (by simp) (.slice none 0 0)
    refine bodyPost_ret (v := .tuple #[.agg #[.int .i64 0, .int .i64 0, .slice none 0 0], .bool false]) (by simp [results, Try.results49, go_sem, r0, r1, r2]) rfl ?_
    exact RetT.no hB

end Go.Proofs.Ytnnhgblgbbfmpaa
