/- CutsWithMost of both. -/
import Derived.Test.YtchabjmdjpfkfaaMost
set_option linter.all false
namespace Go.Proofs.Ytchabjmdjpfkfaa
open Go.RowKit Go.Shelf
attribute [local go_sem] Oper.semAt_some


set_option maxRecDepth 100000 in
theorem countMost_any (W H : Nat) (hW : 1 ≤ W ∧ W ≤ 6) (hH : 1 ≤ H ∧ H ≤ 6) (Bw Bh B : Nat) (m : Int) (w : World) (hw : w.cell? ⟨Bw, 0, none⟩ = some (.int .i64 W)) (hh : w.cell? ⟨Bh, 0, none⟩ = some (.int .i64 H)) (hm : w.cell? ⟨B, 0, none⟩ = some (.int .i64 m)) :
    Calls Try.prog 57 #[.func (.func 105) #[] #[.pointer (some ⟨Bw, 0, none⟩), .pointer (some ⟨Bh, 0, none⟩)], .func (.func 58) #[] #[.pointer (some ⟨B, 0, none⟩)]] w fun e w' => e = .returned (.int .i64 (wrap64 ((allF W H).filter (allB m)).length)) ∧ Below w.heap.size w w' := by
  obtain ⟨w1, hw1⟩ : ∃ w1, w1 = w.alloc (.cells #[.func (.func 58) #[] #[.pointer (some ⟨B, 0, none⟩)]] 79) := ⟨_, rfl⟩
  have hb1 : Below w.heap.size w w1 := by rw [hw1]; exact (Below.refl _ _).alloc (Nat.le_refl _) _
  have q : ∀ {b : Nat} {v : Value}, w.cell? ⟨b, 0, none⟩ = some v → w1.cell? ⟨b, 0, none⟩ = some v := fun h => (hb1.cell (p := ⟨_, 0, none⟩) (World.block_lt_of_cell? _ _ h)).trans h
  have i1 : w1.cell? ⟨w.heap.size, 0, none⟩ = some (.func (.func 58) #[] #[.pointer (some ⟨B, 0, none⟩)]) := by rw [hw1]; simp [go_sem]
  have CS := sumC_most W H hW hH Bw Bh w.heap.size (fun L => if allB m L then 1 else 0) w1 (q hw) (q hh) (fun V L A c hb hL hsq => by
    have h1 := fills_len hW.1 (Fl.start W (H := H) (by omega)) L hL
    rw [free_start] at h1
    have h36 : W * H ≤ 36 := Nat.le_trans (Nat.mul_le_mul hW.2 hH.2) (by decide)
    have hp : 0 < W * H := Nat.mul_pos (by omega) (by omega)
    exact mostOne_any W H m L A c B w.heap.size V (h1.2.1 hp hp) (by omega) ((hb.cell (p := ⟨B, 0, none⟩) (World.block_lt_of_cell? _ _ (q hm))).trans (q hm)) ((hb.cell (p := ⟨w.heap.size, 0, none⟩) (World.block_lt_of_cell? _ _ i1)).trans i1) hsq)
  rw [wtell_is] at CS
  have HC := Lib.hid CS
  clear CS q i1 hw hh hm
  go_enter Try.func57, Try.ntmps57
  go_wp2_with fail
  rw [← hw1]
  refine HC.out.mono ?_
  rintro e w2 ⟨rfl, hb2⟩
  clear hw1
  go_wp2_with fail
  go_ret
  exact ⟨rfl, hb1.trans (hb2.mono hb1.size)⟩
theorem isSide_any (s : Int) (w : World) : Calls Try.prog 56 #[.int .i64 s] w fun e w' => e = .returned (.bool (inB s 1 6)) ∧ w = w' := by
  go_enter Try.func56, Try.ntmps56
  go_wp2_with fail
  refine (isUpTo_any _ _ _).mono ?_
  rintro e w' ⟨rfl, rfl⟩
  go_wp2_with fail
  go_ret
  exact ⟨rfl, rfl⟩
noncomputable def mostV (W H m : Int) : Int := if okF W H && inB m 1 6 then wrap64 (fills m.toNat H.toNat (W.toNat * H.toNat) (List.replicate W.toNat 0)).length else 0
theorem mostV_no {W H m : Int} (h : (okF W H && inB m 1 6) = false) : mostV W H m = 0 := by unfold mostV; rw [if_neg (by rw [h]; decide)]
theorem mostV_yes {W H k : Nat} (h : (okF W H && inB k 1 6) = true) : mostV W H k = wrap64 (fills k H (W * H) (List.replicate W 0)).length := by unfold mostV; rw [if_pos h]; rfl
theorem most_filter {W H k : Nat} (hW : 1 ≤ W ∧ W ≤ 6) (hH : 1 ≤ H ∧ H ≤ 6) (hk : 1 ≤ k ∧ k ≤ 6) : (allF W H).filter (allB k) = fills k H (W * H) (List.replicate W 0) := fills_most hW.1 hk.2 hk.1 (Fl.start W (H := H) (by omega))
set_option maxRecDepth 100000 in
set_option maxHeartbeats 2000000 in
theorem implMost_any (W H m : Int) (w : World) : Calls Try.prog 21 #[.int .i64 W, .int .i64 H, .int .i64 m] w fun e w' => e = .returned (.tuple #[.int .i64 (mostV W H m), .bool (okF W H && inB m 1 6)]) ∧ Below w.heap.size w w' := by
  obtain ⟨w1, hw1⟩ : ∃ w1, w1 = w.alloc (.cells #[.int .i64 m] 3) := ⟨_, rfl⟩
  have hb1 : Below w.heap.size w w1 := by rw [hw1]; exact (Below.refl _ _).alloc (Nat.le_refl _) _
  have m1 : w1.cell? ⟨w.heap.size, 0, none⟩ = some (.int .i64 m) := by rw [hw1]; simp [go_sem]
  cases hok : okF W H with
  | false =>
    rw [mostV_no (by rw [hok]; rfl), Bool.false_and]
    have C := counted_no W H hok w1
    go_enter Try.func21, Try.ntmps21
    go_wp2_with fail
    rw [← hw1]
    refine C.mono ?_
    rintro e w2 ⟨⟨v, rfl⟩, hb2⟩
    have hB2 := hb1.trans (hb2.mono hb1.size)
    have m2 := (hb2.cell (p := ⟨w.heap.size, 0, none⟩) (World.block_lt_of_cell? _ _ m1)).trans m1
    clear hw1 C m1
    go_wp2_with fail
    go_ret2
    exact ⟨rfl, hB2⟩
  | true =>
    rw [Bool.true_and]
    have h := okF_iff.1 hok
    obtain ⟨a, rfl⟩ := Int.eq_ofNat_of_zero_le (show 0 ≤ W by omega)
    obtain ⟨b, rfl⟩ := Int.eq_ofNat_of_zero_le (show 0 ≤ H by omega)
    have C := counted_yes a b hok w1
    obtain ⟨w2, hw2⟩ : ∃ w2, w2 = (w1.alloc (.cells #[.int .i64 a] 3)).alloc (.cells #[.int .i64 b] 3) := ⟨_, rfl⟩
    rw [← hw2] at C
    have hb2 : Below w1.heap.size w1 w2 := by rw [hw2]; exact ((Below.refl _ _).alloc (Nat.le_refl _) _).alloc (by simp) _
    have cw : w2.cell? ⟨w1.heap.size, 0, none⟩ = some (.int .i64 a) := by rw [hw2, World.cell?_alloc_lt _ _ _ (by simp)]; simp [go_sem]
    have ch : w2.cell? ⟨w1.heap.size + 1, 0, none⟩ = some (.int .i64 b) := by rw [hw2]; simp [go_sem]
    have m2 := (hb2.cell (p := ⟨w.heap.size, 0, none⟩) (World.block_lt_of_cell? _ _ m1)).trans m1
    have hB2 := hb1.trans (hb2.mono hb1.size)
    cases hs : inB m 1 6 with
    | false =>
      rw [mostV_no (by rw [hs, Bool.and_false])]
      have HS := Lib.hid hs
      clear hw2 cw ch hs hok h
      go_enter Try.func21, Try.ntmps21
      go_wp2_with fail
      rw [← hw1]
      refine C.mono ?_
      rintro e w3 ⟨rfl, hw3⟩
      rw [hw3]
      clear hw1 C m1 hw3 w3
      go_wp2_with fail
      refine (isSide_any m _).mono ?_
      rw [HS.out]
      rintro e w' ⟨rfl, rfl⟩
      go_wp2_with fail
      go_ret2
      exact ⟨rfl, hB2⟩
    | true =>
      have hsm : 1 ≤ m ∧ m ≤ 6 := by simpa [inB] using hs
      obtain ⟨k, rfl⟩ := Int.eq_ofNat_of_zero_le (show 0 ≤ m by omega)
      have CC := countMost_any a b (by omega) (by omega) w1.heap.size (w1.heap.size + 1) w.heap.size k w2 cw ch m2
      rw [most_filter (by omega) (by omega) (by omega), ← mostV_yes (by rw [hok, hs]; rfl)] at CC
      obtain ⟨v, hv⟩ : ∃ v, mostV a b k = v := ⟨_, rfl⟩
      rw [hv] at CC ⊢
      have HCC := Lib.hid CC
      have HS := Lib.hid hs
      clear hw2 cw ch hs hok h CC hv hsm
      go_enter Try.func21, Try.ntmps21
      go_wp2_with fail
      rw [← hw1]
      refine C.mono ?_
      rintro e w3 ⟨rfl, hw3⟩
      rw [hw3]
      clear hw1 C m1 hw3 w3
      go_wp2_with fail
      refine (isSide_any k _).mono ?_
      rw [HS.out]
      rintro e w' ⟨rfl, rfl⟩
      go_wp2_with fail
      refine HCC.out.mono ?_
      rintro e w4 ⟨rfl, hb4⟩
      go_wp2_with fail
      go_ret2
      exact ⟨rfl, hB2.trans (hb4.mono hB2.size)⟩
set_option maxRecDepth 100000 in
set_option maxHeartbeats 2000000 in
theorem specMost_any (W H m : Int) (w : World) : Calls Try.prog 20 #[.int .i64 W, .int .i64 H, .int .i64 m] w fun e w' => e = .returned (.tuple #[.int .i64 (mostV W H m), .bool (okF W H && inB m 1 6)]) ∧ Below w.heap.size w w' := by
  have ha := ctSize_any W H w
  cases hok : okF W H with
  | false =>
    rw [mostV_no (by rw [hok]; rfl), Bool.false_and]
    rw [hok] at ha
    go_enter Try.func20, Try.ntmps20
    go_wp2_with fail
    refine ha.mono ?_
    rintro e w' ⟨rfl, rfl⟩
    go_wp2_with fail
    go_ret2
    exact ⟨rfl, Below.refl _ _⟩
  | true =>
    rw [Bool.true_and]
    rw [hok] at ha
    cases hs : inB m 1 6 with
    | false =>
      rw [mostV_no (by rw [hs, Bool.and_false])]
      have HS := Lib.hid hs
      clear hs hok
      go_enter Try.func20, Try.ntmps20
      go_wp2_with fail
      refine ha.mono ?_
      rintro e w' ⟨rfl, rfl⟩
      go_wp2_with fail
      refine (l1In_any _ _ _ _).mono ?_
      rw [HS.out]
      rintro e w' ⟨rfl, rfl⟩
      go_wp2_with fail
      go_ret2
      exact ⟨rfl, Below.refl _ _⟩
    | true =>
      have h := okF_iff.1 hok
      obtain ⟨a, rfl⟩ := Int.eq_ofNat_of_zero_le (show 0 ≤ W by omega)
      obtain ⟨b, rfl⟩ := Int.eq_ofNat_of_zero_le (show 0 ≤ H by omega)
      have hsm : 1 ≤ m ∧ m ≤ 6 := by simpa [inB] using hs
      obtain ⟨k, rfl⟩ := Int.eq_ofNat_of_zero_le (show 0 ≤ m by omega)
      have C := ctBy_any a b k (by omega) (by omega) (by omega) w
      have h36 : a * b ≤ 36 := Nat.le_trans (Nat.mul_le_mul (show a ≤ 6 by omega) (show b ≤ 6 by omega)) (by decide)
      have hp : 0 < a * b := Nat.mul_pos (by omega) (by omega)
      have hl := byM_len a b k
      have e : wsumF (byM a b k) = mostV a b k := by
        rw [mostV_yes (by rw [hok, hs]; rfl)]
        exact tally_wsum 0 (a * b) _ (fun L hL => by
          have h1 := fills_len (show 1 ≤ a by omega) (Fl.start a (H := b) (by omega)) L hL
          rw [free_start] at h1
          have := h1.2.1 hp hp
          omega)
      rw [← e]
      obtain ⟨R, hR⟩ : ∃ R, byM a b k = R := ⟨_, rfl⟩
      rw [hR] at C hl ⊢
      have HS := Lib.hid hs
      have HL := Lib.hid (show R.length ≤ 36 by omega)
      clear hs hok e hR hl h36 hp h hsm
      go_enter Try.func20, Try.ntmps20
      go_wp2_with fail
      refine ha.mono ?_
      rintro e w' ⟨rfl, rfl⟩
      go_wp2_with fail
      refine (l1In_any _ _ _ _).mono ?_
      rw [HS.out]
      rintro e w' ⟨rfl, rfl⟩
      go_wp2_with fail
      refine C.mono ?_
      rintro e w2 ⟨A, c, rfl, ho, hb⟩
      go_wp2_with fail
      refine (ctSum_any A R.length c R w2 rfl (by have := HL.out; omega) (ints_of_own ho)).mono ?_
      rintro e w3 ⟨rfl, hb3⟩
      go_wp2_with fail
      go_ret2
      exact ⟨rfl, hb.trans (hb3.mono hb.size)⟩
end Go.Proofs.Ytchabjmdjpfkfaa
