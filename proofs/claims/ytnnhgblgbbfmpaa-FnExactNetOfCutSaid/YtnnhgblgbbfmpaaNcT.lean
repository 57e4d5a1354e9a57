/- The net of a cut: both contracts for all cuts. -/
import Derived.Test.YtnnhgblgbbfmpaaNcS
set_option linter.all false
namespace Go.Proofs.Ytnnhgblgbbfmpaa
open Go.RowKit

theorem nc_yes {α : Type} {W H : Int} {L : List Sq} {R : List α} (h : NetOk W H L) : ifNc W H L R = R := by simp [ifNc, dc_true h]
theorem nc_no {α : Type} {W H : Int} {L : List Sq} {R : List α} (h : ¬ NetOk W H L) : ifNc W H L R = [] := by simp [ifNc, dc_false h]
theorem nn_yes {W H : Int} {L : List Sq} (h : NetOk W H L) : netN W H L = (M.linesC L).length := by simp [netN, dc_true h]
theorem nn_no {W H : Int} {L : List Sq} (h : ¬ NetOk W H L) : netN W H L = 0 := by simp [netN, dc_false h]

set_option maxRecDepth 100000 in
set_option maxHeartbeats 4000000 in
theorem implNet_any (W H : Int) (A : Option Addr) (n c : Nat) (L : List Sq) (w : World) (hl : L.length = n) (hc : n ≤ c) (hL : SqsAt w w.heap.size A L) (hwf : ∀ s ∈ L, wfS s) :
    Calls Try.prog 40 #[.agg #[.int .i64 W, .int .i64 H, .slice A n c]] w (RetNS w (netN W H L) (ifNc W H L (netW L)) (ifNc W H L (sides L)) (dc (NetOk W H L))) := by
  by_cases hK : NetOk W H L
  · rw [nc_yes hK, nc_yes hK, nn_yes hK, dc_true hK]
    exact implNetOf_good W H A n c L w hl hc hL hwf hK.1 hK.2
  · subst hl
    rw [nc_no hK, nc_no hK, nn_no hK, dc_false hK]
    obtain ⟨W1, hW1⟩ : ∃ W1, W1 = (w.alloc (.cells #[.int .i64 W, .int .i64 H, .slice A L.length c] 28)).alloc (.cells #[.int .i64 0, .slice none 0 0] 51) := ⟨_, rfl⟩
    have hB1 : Below w.heap.size w W1 := by rw [hW1]; exact ((Below.refl _ _).alloc (Nat.le_refl _) _).alloc (by simp) _
    have hz1' : W1.heap.size = w.heap.size + 2 := by rw [hW1]; simp
    have r0 : W1.cell? ⟨w.heap.size + 1, 0, none⟩ = some (.int .i64 0) := by rw [hW1]; simp [go_sem]
    have r1 : W1.cell? ⟨w.heap.size + 1, 1, none⟩ = some (.slice none 0 0) := by rw [hW1]; simp [go_sem]
    have rf : ∀ o, W1.frozen? ⟨w.heap.size + 1, o, none⟩ = false := fun o => by rw [hW1]; exact World.frozen?_alloc_at _ _ _ _ (by simp)
    have CL := implLines_any W H A L.length c L W1 rfl hc ((hL.below hB1).mono hB1.size) hwf
    by_cases hG : Good W H L
    · rw [ifGood_yes hG, dc_true hG] at CL
      have h12 : ¬ (M.linesC L).length ≤ 12 := fun h => hK ⟨hG, h⟩
      obtain ⟨nl, hnl⟩ : ∃ nl, nl = (M.linesC L).length := ⟨_, rfl⟩
      have hnl2 : nl ≤ 31 := by rw [hnl]; exact lines_room hG
      have hg12 : decide ((12 : Int) < (nl : Int)) = true := by simp; omega
      have HNL := Lib.hid hnl
      clear hnl h12 hK hG hL hwf
      go_enter Try.func40, Try.ntmps40
      go_wp2_with fail
      rw [← hW1]
      clear hW1
      (with_reducible refine CL.mono ?_)
      rintro e w2 ⟨A2, c2, RL, rfl, hM, hS, hb2⟩
      rw [lnL_len, ← HNL.out]
      have hz2' := hb2.size
      have r0' := (hb2.cell (p := ⟨w.heap.size + 1, 0, none⟩) (by show w.heap.size + 1 < _; omega)).trans r0
      have r1' := (hb2.cell (p := ⟨w.heap.size + 1, 1, none⟩) (by show w.heap.size + 1 < _; omega)).trans r1
      have t0 := (hb2.frozen (p := ⟨w.heap.size + 1, 0, none⟩) (by show w.heap.size + 1 < _; omega)).trans (rf 0)
      have t1 := (hb2.frozen (p := ⟨w.heap.size + 1, 1, none⟩) (by show w.heap.size + 1 < _; omega)).trans (rf 1)
      have hB2 := hB1.trans (hb2.mono hB1.size)
      clear hM hS CL hb2 r0 r1 rf
      go_wp2_with fail
      refine bodyPost_ret (v := .tuple #[.agg #[.int .i64 0, .slice none 0 0], .slice none 0 0, .bool false]) (by simp [results, Try.results40, go_sem, r0', r1']) rfl ?_
      exact RetNS.none_ ((hB2.setCell (p := ⟨w.heap.size + 1, 0, none⟩) (by simp) _).setCell (p := ⟨w.heap.size + 1, 1, none⟩) (by simp) _)
    · rw [ifGood_no hG, dc_false hG] at CL
      clear hK hG hL hwf
      go_enter Try.func40, Try.ntmps40
      go_wp2_with fail
      rw [← hW1]
      clear hW1
      (with_reducible refine CL.mono ?_)
      rintro e w2 ⟨A2, c2, RL, rfl, hM, hS, hb2⟩
      have hz2' := hb2.size
      have r0' := (hb2.cell (p := ⟨w.heap.size + 1, 0, none⟩) (by show w.heap.size + 1 < _; omega)).trans r0
      have r1' := (hb2.cell (p := ⟨w.heap.size + 1, 1, none⟩) (by show w.heap.size + 1 < _; omega)).trans r1
      have t0 := (hb2.frozen (p := ⟨w.heap.size + 1, 0, none⟩) (by show w.heap.size + 1 < _; omega)).trans (rf 0)
      have t1 := (hb2.frozen (p := ⟨w.heap.size + 1, 1, none⟩) (by show w.heap.size + 1 < _; omega)).trans (rf 1)
      have hB2 := hB1.trans (hb2.mono hB1.size)
      clear hM hS CL hb2 r0 r1 rf
      go_wp2_with fail
      refine bodyPost_ret (v := .tuple #[.agg #[.int .i64 0, .slice none 0 0], .slice none 0 0, .bool false]) (by simp [results, Try.results40, go_sem, r0', r1']) rfl ?_
      exact RetNS.none_ ((hB2.setCell (p := ⟨w.heap.size + 1, 0, none⟩) (by simp) _).setCell (p := ⟨w.heap.size + 1, 1, none⟩) (by simp) _)

set_option maxRecDepth 100000 in
set_option maxHeartbeats 4000000 in
theorem specNetOf_any (W H : Int) (A : Option Addr) (n c : Nat) (L : List Sq) (w : World) (hl : L.length = n) (hc : n ≤ c) (hL : SqsAt w w.heap.size A L) :
    Calls Try.prog 39 #[.agg #[.int .i64 W, .int .i64 H, .slice A n c]] w (RetNS w (netN W H L) (ifNc W H L (netW L)) (ifNc W H L (sides L)) (dc (NetOk W H L))) := by
  subst hl
  have hb0 : ∀ o : Obj, Below w.heap.size w (w.alloc o) := fun o => (Below.refl _ _).alloc (Nat.le_refl _) o
  have Z0 : Box w.heap.size w (w.alloc (.cells #[.int .i64 W, .int .i64 H, .slice A L.length c] 28)) W H A c L := Box.start hL
  obtain ⟨W1, hW1⟩ : ∃ W1, W1 = (w.alloc (.cells #[.int .i64 W, .int .i64 H, .slice A L.length c] 28)).alloc (.cells #[.int .i64 0, .slice none 0 0] 51) := ⟨_, rfl⟩
  have Z1 := Z0.next (show Below (w.alloc (.cells #[.int .i64 W, .int .i64 H, .slice A L.length c] 28)).heap.size _ W1 by rw [hW1]; exact (Below.refl _ _).alloc (Nat.le_refl _) _)
  have hz1' : W1.heap.size = w.heap.size + 2 := by rw [hW1]; simp
  have r0 : W1.cell? ⟨w.heap.size + 1, 0, none⟩ = some (.int .i64 0) := by rw [hW1]; simp [go_sem]
  have r1 : W1.cell? ⟨w.heap.size + 1, 1, none⟩ = some (.slice none 0 0) := by rw [hW1]; simp [go_sem]
  have rf : ∀ o, W1.frozen? ⟨w.heap.size + 1, o, none⟩ = false := fun o => by rw [hW1]; exact World.frozen?_alloc_at _ _ _ _ (by simp)
  have hL1 := Z1.sqs
  by_cases hG : Good W H L
  · have HG := Lib.hid hG
    have CG := callB_yes (cuGood_any W H A _ c L W1 rfl hc (hL1.mono (Nat.le_of_lt Z1.lt))) hG
    clear hG
    go_enter Try.func39, Try.ntmps39
    go_wp2_with fail
    rw [← hW1]
    clear hW1
    (with_reducible refine CG.mono ?_)
    rintro e w1 ⟨rfl, hb1⟩
    have Z2 := Z1.next hb1
    obtain ⟨hB2, hz2, b0, b1, b2, hL2⟩ := id Z2
    have hzz := hb1.size
    have r0 := (hb1.cell (p := ⟨w.heap.size + 1, 0, none⟩) (by show w.heap.size + 1 < _; omega)).trans r0
    have r1 := (hb1.cell (p := ⟨w.heap.size + 1, 1, none⟩) (by show w.heap.size + 1 < _; omega)).trans r1
    have rf : ∀ o, w1.frozen? ⟨w.heap.size + 1, o, none⟩ = false := fun o => (hb1.frozen (p := ⟨w.heap.size + 1, o, none⟩) (by show w.heap.size + 1 < _; omega)).trans (rf o)
    have CN := neOf_good W H A L.length c L w1 rfl hc (hL2.mono (Nat.le_of_lt hz2)) HG.out
    obtain ⟨nl, hnl⟩ : ∃ nl, nl = (M.linesC L).length := ⟨_, rfl⟩
    have hnl2 : nl ≤ 31 := by rw [hnl]; exact lines_room HG.out
    rw [← hnl] at CN
    have HNL := Lib.hid hnl
    clear hnl CG Z0 Z1 hb0 hL hL1 hb1
    go_wp2_with fail
    (with_reducible refine CN.mono ?_)
    rintro e w2 ⟨A3, c3, A4, c4, rfl, o3, o4, hap, hb2⟩
    have hz3 := hb2.size
    have r0 := (hb2.cell (p := ⟨w.heap.size + 1, 0, none⟩) (by show w.heap.size + 1 < _; omega)).trans r0
    have r1 := (hb2.cell (p := ⟨w.heap.size + 1, 1, none⟩) (by show w.heap.size + 1 < _; omega)).trans r1
    have t0 := (hb2.frozen (p := ⟨w.heap.size + 1, 0, none⟩) (by show w.heap.size + 1 < _; omega)).trans (rf 0)
    have t1 := (hb2.frozen (p := ⟨w.heap.size + 1, 1, none⟩) (by show w.heap.size + 1 < _; omega)).trans (rf 1)
    have hB3 := hB2.trans (hb2.mono hB2.size)
    have hq1 : w.heap.size + 1 < w2.heap.size := by omega
    have hq2 : ¬ w.heap.size + 1 = w2.heap.size := by omega
    have hq3 : ¬ w2.heap.size = w.heap.size + 1 := by omega
    have O3 := Lib.hid o3
    have O4 := Lib.hid o4
    have HAP := Lib.hid hap
    clear o3 o4 hap CN hb2 b0 b1 b2 hL2 Z2 rf
    by_cases h12 : nl ≤ 12
    · have hK : NetOk W H L := ⟨HG.out, by rw [← HNL.out]; exact h12⟩
      have HK := Lib.hid hK
      clear hK
      have hg12 : decide ((12 : Int) < (nl : Int)) = false := by simp; omega
      go_wp2_with fail
      obtain ⟨W8, hW8⟩ : ∃ W8, W8 = (w2.setCell ⟨w.heap.size + 1, 0, none⟩ (Value.int .i64 nl)).setCell ⟨w.heap.size + 1, 1, none⟩ (Value.slice A3 (netW L).length c3) := ⟨_, rfl⟩
      have hz8 : W8.heap.size = w2.heap.size := by rw [hW8]; simp
      have s0 : W8.cell? ⟨w.heap.size + 1, 0, none⟩ = some (Value.int .i64 nl) := by rw [hW8]; simp [go_sem, r0, r1]
      have s1 : W8.cell? ⟨w.heap.size + 1, 1, none⟩ = some (Value.slice A3 (netW L).length c3) := by rw [hW8]; simp [go_sem, r0, r1]
      obtain ⟨W9, hW9⟩ : ∃ W9, W9 = W8.alloc (.cells #[.int .i64 nl, .slice A3 (netW L).length c3] 51) := ⟨_, rfl⟩
      have hb9 : Below W8.heap.size W8 W9 := by rw [hW9]; exact (Below.refl _ _).alloc (Nat.le_refl _) _
      have s0 := (hb9.cell (p := ⟨w.heap.size + 1, 0, none⟩) (by show w.heap.size + 1 < _; omega)).trans s0
      have s1 := (hb9.cell (p := ⟨w.heap.size + 1, 1, none⟩) (by show w.heap.size + 1 < _; omega)).trans s1
      have hB8 : Below w.heap.size w W8 := by rw [hW8]; exact (hB3.setCell (p := ⟨w.heap.size + 1, 0, none⟩) (by simp) _).setCell (p := ⟨w.heap.size + 1, 1, none⟩) (by simp) _
      have hB9 := hB8.trans (hb9.mono hB8.size)
      rw [← hW8, ← hW9]
      refine bodyPost_ret (v := .tuple #[.agg #[.int .i64 nl, .slice A3 (netW L).length c3], .slice A4 (sides L).length c4, .bool true]) (by simp [results, Try.results39, go_sem, s0, s1]) rfl ?_
      have R1 : W8.ownsRow w1.heap.size 86 2 (.slice A3 (netW L).length c3) (netW L).length (flatW (netW L)) := by
        rw [hW8]
        exact ownsRow_setCell_below (ownsRow_setCell_below O3.out (a := ⟨w.heap.size + 1, 0, none⟩) (by show w.heap.size + 1 < _; omega) _) (a := ⟨w.heap.size + 1, 1, none⟩) (by show w.heap.size + 1 < _; omega) _
      have R2 : W8.ownsRow w1.heap.size 3 1 (.slice A4 (sides L).length c4) (sides L).length (ints (sides L)) := by
        rw [hW8]
        exact ownsRow_setCell_below (ownsRow_setCell_below O4.out (a := ⟨w.heap.size + 1, 0, none⟩) (by show w.heap.size + 1 < _; omega) _) (a := ⟨w.heap.size + 1, 1, none⟩) (by show w.heap.size + 1 < _; omega) _
      rw [nc_yes HK.out, nc_yes HK.out, nn_yes HK.out, dc_true HK.out, ← HNL.out]
      exact RetNS.mk rfl rfl (own_base (own_keep R1 hb9) (by omega)) (own_base (own_keep R2 hb9) (by omega)) HAP.out hB9
    · have hK : ¬ NetOk W H L := fun h => h12 (by rw [HNL.out]; exact h.2)
      have HK := Lib.hid hK
      clear hK
      have hg12 : decide ((12 : Int) < (nl : Int)) = true := by simp; omega
      go_wp2_with fail
      obtain ⟨W8, hW8⟩ : ∃ W8, W8 = (w2.setCell ⟨w.heap.size + 1, 0, none⟩ (Value.int .i64 0)).setCell ⟨w.heap.size + 1, 1, none⟩ (Value.slice none 0 0) := ⟨_, rfl⟩
      have hz8 : W8.heap.size = w2.heap.size := by rw [hW8]; simp
      have s0 : W8.cell? ⟨w.heap.size + 1, 0, none⟩ = some (Value.int .i64 0) := by rw [hW8]; simp [go_sem, r0, r1]
      have s1 : W8.cell? ⟨w.heap.size + 1, 1, none⟩ = some (Value.slice none 0 0) := by rw [hW8]; simp [go_sem, r0, r1]
      obtain ⟨W9, hW9⟩ : ∃ W9, W9 = W8.alloc (.cells #[.int .i64 nl, .slice A3 (netW L).length c3] 51) := ⟨_, rfl⟩
      have hb9 : Below W8.heap.size W8 W9 := by rw [hW9]; exact (Below.refl _ _).alloc (Nat.le_refl _) _
      have s0 := (hb9.cell (p := ⟨w.heap.size + 1, 0, none⟩) (by show w.heap.size + 1 < _; omega)).trans s0
      have s1 := (hb9.cell (p := ⟨w.heap.size + 1, 1, none⟩) (by show w.heap.size + 1 < _; omega)).trans s1
      have hB8 : Below w.heap.size w W8 := by rw [hW8]; exact (hB3.setCell (p := ⟨w.heap.size + 1, 0, none⟩) (by simp) _).setCell (p := ⟨w.heap.size + 1, 1, none⟩) (by simp) _
      have hB9 := hB8.trans (hb9.mono hB8.size)
      rw [← hW8, ← hW9]
      refine bodyPost_ret (v := .tuple #[.agg #[.int .i64 0, .slice none 0 0], .slice none 0 0, .bool false]) (by simp [results, Try.results39, go_sem, s0, s1]) rfl ?_
      rw [nc_no HK.out, nc_no HK.out, nn_no HK.out, dc_false HK.out]
      exact RetNS.none_ hB9
  · have hK : ¬ NetOk W H L := fun h => hG h.1
    rw [nc_no hK, nc_no hK, nn_no hK, dc_false hK]
    have CG := callB_no (cuGood_any W H A _ c L W1 rfl hc (hL1.mono (Nat.le_of_lt Z1.lt))) hG
    clear hG hK
    go_enter Try.func39, Try.ntmps39
    go_wp2_with fail
    rw [← hW1]
    clear hW1
    (with_reducible refine CG.mono ?_)
    rintro e w1 ⟨rfl, hb1⟩
    have hzz := hb1.size
    have r0 := (hb1.cell (p := ⟨w.heap.size + 1, 0, none⟩) (by show w.heap.size + 1 < _; omega)).trans r0
    have r1 := (hb1.cell (p := ⟨w.heap.size + 1, 1, none⟩) (by show w.heap.size + 1 < _; omega)).trans r1
    have t0 := (hb1.frozen (p := ⟨w.heap.size + 1, 0, none⟩) (by show w.heap.size + 1 < _; omega)).trans (rf 0)
    have t1 := (hb1.frozen (p := ⟨w.heap.size + 1, 1, none⟩) (by show w.heap.size + 1 < _; omega)).trans (rf 1)
    have hB2 := Z1.below.trans (hb1.mono (Nat.le_of_lt Z1.lt))
    clear Z0 Z1 hb0 hL hL1 hb1 CG rf
    go_wp2_with fail
    refine bodyPost_ret (v := .tuple #[.agg #[.int .i64 0, .slice none 0 0], .slice none 0 0, .bool false]) (by simp [results, Try.results39, go_sem, r0, r1]) rfl ?_
    exact RetNS.none_ ((hB2.setCell (p := ⟨w.heap.size + 1, 0, none⟩) (by simp) _).setCell (p := ⟨w.heap.size + 1, 1, none⟩) (by simp) _)
end Go.Proofs.Ytnnhgblgbbfmpaa
