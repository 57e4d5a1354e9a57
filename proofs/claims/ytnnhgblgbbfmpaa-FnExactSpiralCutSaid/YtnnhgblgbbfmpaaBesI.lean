/- BesideCuts of the program. -/
import Derived.Test.YtnnhgblgbbfmpaaBesG
set_option linter.all false
namespace Go.Proofs.Ytnnhgblgbbfmpaa
open Go.RowKit

set_option maxRecDepth 100000 in
set_option maxHeartbeats 8000000 in
theorem implBeside_any (W H : Int) (A : Option Addr) (n c : Nat) (L : List Sq) (V G : Int) (A' : Option Addr) (n' c' : Nat) (M : List Sq) (w : World) (hl : L.length = n) (hl' : M.length = n') (hc : n ≤ c) (hc' : n' ≤ c') (hL : SqsAt w w.heap.size A L) (hM : SqsAt w w.heap.size A' M) (hwf : ∀ s ∈ L, wfS s) (hwf' : ∀ s ∈ M, wfS s) :
    Calls Try.prog 48 #[.agg #[.int .i64 W, .int .i64 H, .slice A n c], .agg #[.int .i64 V, .int .i64 G, .slice A' n' c']] w (RetT w (beT W H L V G M)) := by
  subst hl
  subst hl'
  have K0 := BB.start w W H A L.length c V G A' M.length c'
  obtain ⟨W1, hW1⟩ : ∃ W1, W1 = (((w.alloc (.cells #[.int .i64 W, .int .i64 H, .slice A L.length c] 28)).alloc (.cells #[.int .i64 V, .int .i64 G, .slice A' M.length c'] 28)).alloc (.cells #[.int .i64 0, .int .i64 0, .slice none 0 0] 28)) := ⟨_, rfl⟩
  rw [← hW1] at K0
  by_cases hG : Good W H L
  · by_cases hK : Good V G M
    · rw [beT_yes hG hK]
      have ⟨_, a0, a1, a2⟩ := K0.a
      have ⟨_, b0, b1, b2⟩ := K0.b
      have ⟨_, r0, r1, r2⟩ := K0.r
      have t0 := K0.fz (w.heap.size + 2) 0 (by omega) (by omega)
      have t1 := K0.fz (w.heap.size + 2) 1 (by omega) (by omega)
      have t2 := K0.fz (w.heap.size + 2) 2 (by omega) (by omega)
      have s0 := K0.size
      go_enter Try.func48, Try.ntmps48
      go_wp2_with fail
      rw [← hW1]
      refine (callB_yes (isCut_good W H A _ c L _ rfl hc ((hL.below K0.below).mono K0.below.size) hwf) hG).mono ?_
      rintro e w1 ⟨rfl, hb1⟩
      have K1 := K0.next hb1
      clear a0 a1 a2 b0 b1 b2 r0 r1 r2 t0 t1 t2
      clear K0 hW1 hb1 s0
      have ⟨_, a0, a1, a2⟩ := K1.a
      have ⟨_, b0, b1, b2⟩ := K1.b
      have ⟨_, r0, r1, r2⟩ := K1.r
      have t0 := K1.fz (w.heap.size + 2) 0 (by omega) (by omega)
      have t1 := K1.fz (w.heap.size + 2) 1 (by omega) (by omega)
      have t2 := K1.fz (w.heap.size + 2) 2 (by omega) (by omega)
      have s0 := K1.size
      go_wp2_with fail
      refine (callB_yes (isCut_good V G A' _ c' M _ rfl hc' ((hM.below K1.below).mono K1.below.size) hwf') hK).mono ?_
      rintro e w2 ⟨rfl, hb2⟩
      have K2 := K1.next hb2
      clear a0 a1 a2 b0 b1 b2 r0 r1 r2 t0 t1 t2
      clear K1 hb2 s0
      have ⟨_, a0, a1, a2⟩ := K2.a
      have ⟨_, b0, b1, b2⟩ := K2.b
      have ⟨_, r0, r1, r2⟩ := K2.r
      have t0 := K2.fz (w.heap.size + 2) 0 (by omega) (by omega)
      have t1 := K2.fz (w.heap.size + 2) 1 (by omega) (by omega)
      have t2 := K2.fz (w.heap.size + 2) 2 (by omega) (by omega)
      have s0 := K2.size
      go_wp2_with fail
      refine (lowest_i H G w2 hG.2.1 hK.2.1).mono ?_
      rintro e w3 ⟨rfl, hb3⟩
      have K3 := K2.next hb3
      clear a0 a1 a2 b0 b1 b2 r0 r1 r2 t0 t1 t2
      clear K2 hb3 s0
      obtain ⟨⟨m1, m2⟩, ⟨m3, m4⟩, m5⟩ := gd_fit hG.2.1 hK.2.1
      obtain ⟨p, hp⟩ : ∃ p, H / gd H G = p := ⟨_, rfl⟩
      obtain ⟨m, hm⟩ : ∃ m, G / gd H G = m := ⟨_, rfl⟩
      rw [hp] at m1 m2 ⊢
      rw [hm] at m3 m4 ⊢
      have ⟨_, a0, a1, a2⟩ := K3.a
      have ⟨_, b0, b1, b2⟩ := K3.b
      have ⟨_, r0, r1, r2⟩ := K3.r
      have t0 := K3.fz (w.heap.size + 2) 0 (by omega) (by omega)
      have t1 := K3.fz (w.heap.size + 2) 1 (by omega) (by omega)
      have t2 := K3.fz (w.heap.size + 2) 2 (by omega) (by omega)
      have s0 := K3.size
      go_upto_region 5 with fail
      have HS : ∀ w' : World, Below w3.heap.size w3 w' → w'.cell? ⟨w.heap.size + 1, 0, none⟩ = some (.int .i64 V) ∧ w'.cell? ⟨w.heap.size + 1, 1, none⟩ = some (.int .i64 G) ∧ w'.cell? ⟨w.heap.size + 1, 2, none⟩ = some (.slice A' M.length c') := fun w' hb =>
        ⟨(hb.cell (p := ⟨w.heap.size + 1, 0, none⟩) (by show w.heap.size + 1 < _; omega)).trans b0, (hb.cell (p := ⟨w.heap.size + 1, 1, none⟩) (by show w.heap.size + 1 < _; omega)).trans b1, (hb.cell (p := ⟨w.heap.size + 1, 2, none⟩) (by show w.heap.size + 1 < _; omega)).trans b2⟩
      have B3 := Lib.hid K3.below
      obtain ⟨X1, hX1⟩ : ∃ x, m * W = x := ⟨_, rfl⟩
      obtain ⟨Y1, hY1⟩ : ∃ x, m * H = x := ⟨_, rfl⟩
      obtain ⟨X2, hX2⟩ : ∃ x, p * V = x := ⟨_, rfl⟩
      obtain ⟨Y2, hY2⟩ : ∃ x, p * G = x := ⟨_, rfl⟩
      have C1 : ∀ w' : World, Below w3.heap.size w3 w' → Calls Try.prog 66 #[.agg #[.int .i64 W, .int .i64 H, .slice A L.length c], .int .i64 m, .int .i64 1] w' fun e w'' => ∃ A' c', e = .returned (.agg #[.int .i64 X1, .int .i64 Y1, .slice A' L.length c']) ∧ w''.ownsRow w'.heap.size 71 3 (.slice A' L.length c') L.length (flat (growL m L)) ∧ Below w'.heap.size w' w'' := fun w' hb => by
        rw [← hX1, ← hY1]
        exact scaledK_any W H A L.length c L m w' rfl hc ((hL.below (B3.out.trans (hb.mono B3.out.size))).mono (Nat.le_trans B3.out.size hb.size)) hG m3 m4
      have C2 : ∀ w' : World, Below w3.heap.size w3 w' → Calls Try.prog 66 #[.agg #[.int .i64 V, .int .i64 G, .slice A' M.length c'], .int .i64 p, .int .i64 1] w' fun e w'' => ∃ A2 c2, e = .returned (.agg #[.int .i64 X2, .int .i64 Y2, .slice A2 M.length c2]) ∧ w''.ownsRow w'.heap.size 71 3 (.slice A2 M.length c2) M.length (flat (growL p M)) ∧ Below w'.heap.size w' w'' := fun w' hb => by
        rw [← hX2, ← hY2]
        exact scaledK_any V G A' M.length c' M p w' rfl hc' ((hM.below (B3.out.trans (hb.mono B3.out.size))).mono (Nat.le_trans B3.out.size hb.size)) hK m1 m2
      go_cut [] (fun wx => ∃ A1 c1 A2 c2, BB w X1 Y1 A1 L.length c1 X2 Y2 A2 M.length c2 wx ∧ wx.ownsRow (w.heap.size + 3) 71 3 (.slice A1 L.length c1) L.length (flat (growL m L)) ∧ wx.ownsRow (w.heap.size + 3) 71 3 (.slice A2 M.length c2) M.length (flat (growL p M)))
      case first =>
        refine wp_region_top 7 (fun w' => w'.cell? ⟨w.heap.size + 1, 0, none⟩ = some (.int .i64 V) ∧ w'.cell? ⟨w.heap.size + 1, 1, none⟩ = some (.int .i64 G) ∧ w'.cell? ⟨w.heap.size + 1, 2, none⟩ = some (.slice A' M.length c')) (by kernel_rfl) (HS _ ((Below.refl _ _).drew)) (fun hHeld => ?_)
        refine wpTop.take 3 (v := ?_) rfl (by kernel_rfl) (by kernel_rfl) (by kernel_rfl) (by kernel_rfl) (fun _ _ _ h => h) (Or.inl ⟨by rfl, ?_⟩) (by assumption) ?_
        rotate_left
        · intro w hSw; (try dsimp only at hSw); go_simp; try (with_reducible rfl)
        try simp only [Act.put, List.setIfInBounds_toArray, List.set_cons_zero, List.set_cons_succ]
        refine wpTop.take 4 (v := ?_) rfl (by kernel_rfl) (by kernel_rfl) (by kernel_rfl) (by kernel_rfl) (fun _ _ _ h => h) (Or.inl ⟨by rfl, ?_⟩) (by assumption) ?_
        rotate_left
        · intro w hSw; (try dsimp only at hSw); go_simp; try (with_reducible rfl)
        try simp only [Act.put, List.setIfInBounds_toArray, List.set_cons_zero, List.set_cons_succ]
        refine wpTop.take 1 (v := ?_) rfl (by kernel_rfl) (by kernel_rfl) (by kernel_rfl) (by kernel_rfl) (fun _ _ _ h => h) (Or.inl ⟨by rfl, ?_⟩) (by assumption) ?_
        rotate_left
        · intro w hSw; (try dsimp only at hSw); go_simp; try (with_reducible rfl)
        try simp only [Act.put, List.setIfInBounds_toArray, List.set_cons_zero, List.set_cons_succ]
        refine wpTop.one 0 rfl (by kernel_rfl) (fun K hK => ?_)
        go_simp

        refine hK.out _ _ (fun _ => hHeld) (fun hH => ?_)
        clear hK K
        have hHeld := hH (by decide)
        clear hH
        try simp only [Act.put, List.setIfInBounds_toArray, List.set_cons_zero, List.set_cons_succ]
        refine wpTop.one 2 rfl (by kernel_rfl) (fun K hK => ?_)
        go_simp
        (with_reducible refine (C1 _ ((Below.refl _ _).drew)).mono ?_)
        rintro e w4 ⟨A1, c1, rfl, o1, hb4'⟩
        have hb4 : Below w3.heap.size w3 w4 := ((Below.refl w3.heap.size w3).drew).trans hb4'
        clear hb4'
        refine hK.out _ _ (fun _ => HS _ hb4) (fun hH => ?_)
        clear hK K
        have hHeld := hH (by decide)
        clear hH
        try simp only [Act.put, List.setIfInBounds_toArray, List.set_cons_zero, List.set_cons_succ]
        refine wpTop.one 5 rfl (by kernel_rfl) (fun K hK => ?_)
        go_simp
        (with_reducible refine (C2 _ hb4).mono ?_)
        rintro e w5 ⟨A2, c2, rfl, o2, hb5'⟩
        have hb5 : Below w3.heap.size w3 w5 := hb4.trans (hb5'.mono hb4.size)
        have o1 := own_keep o1 hb5'
        refine hK.out _ _ (fun _ => HS _ hb5) (fun hH => ?_)
        clear hK K
        have hHeld := hH (by decide)
        clear hH
        try simp only [Act.put, List.setIfInBounds_toArray, List.set_cons_zero, List.set_cons_succ]
        have K5 := K3.next hb5
        clear a0 a1 a2 b0 b1 b2 r0 r1 r2 t0 t1 t2 s0 hHeld
        have ⟨_, a0, a1, a2⟩ := K5.a
        have ⟨_, b0, b1, b2⟩ := K5.b
        have ⟨_, r0, r1, r2⟩ := K5.r
        have f0 := K5.fz w.heap.size 0 (by omega) (by omega)
        have f1 := K5.fz w.heap.size 1 (by omega) (by omega)
        have f2 := K5.fz w.heap.size 2 (by omega) (by omega)
        have f3 := K5.fz (w.heap.size + 1) 0 (by omega) (by omega)
        have f4 := K5.fz (w.heap.size + 1) 1 (by omega) (by omega)
        have f5 := K5.fz (w.heap.size + 1) 2 (by omega) (by omega)
        have t0 := K5.fz (w.heap.size + 2) 0 (by omega) (by omega)
        have t1 := K5.fz (w.heap.size + 2) 1 (by omega) (by omega)
        have t2 := K5.fz (w.heap.size + 2) 2 (by omega) (by omega)
        have s0 := K5.size
        refine wpTop.one 6 rfl (by kernel_rfl) (fun K hK => ?_)
        go_simp

        refine hK.out _ _ (fun _ => ⟨by simp [go_sem, b0], by simp [go_sem, b1], by simp [go_sem, b2]⟩) (fun hH => ?_)
        clear hK K
        clear hH
        try simp only [Act.put, List.setIfInBounds_toArray, List.set_cons_zero, List.set_cons_succ]
        refine wpTop.one 7 rfl (by kernel_rfl) (fun K hK => ?_)
        go_simp

        refine hK.out _ _ (fun h => absurd h (by decide)) (fun hH => ?_)
        clear hK K
        clear hH
        try simp only [Act.put, List.setIfInBounds_toArray, List.set_cons_zero, List.set_cons_succ]
        refine wpTop.all (by kernel_rfl) ?_ _
        go_wp2_with fail
        go_meet
        exact ⟨A1, c1, A2, c2, K5.put _ _ _ _ _ _ _ _ _ _, own_put6 (own_base o1 (by simpa using K3.size)) (by omega) _ _ _ _ _ _, own_put6 (own_base o2 (by have := K3.size; have := hb4.size; omega)) (by omega) _ _ _ _ _ _⟩
      obtain ⟨A1, c1, A2, c2, KC, o1, o2⟩ := hcut
      obtain ⟨w6, hw6⟩ : ∃ w6, w6 = wc := ⟨_, rfl⟩
      rw [← hw6] at KC o1 o2 ⊢
      clear hw6 a0 a1 a2 b0 b1 b2 r0 r1 r2 t0 t1 t2 s0 C1 C2 HS K3
      have ⟨_, a0, a1, a2⟩ := KC.a
      have ⟨_, b0, b1, b2⟩ := KC.b
      have ⟨_, r0, r1, r2⟩ := KC.r
      have t0 := KC.fz (w.heap.size + 2) 0 (by omega) (by omega)
      have t1 := KC.fz (w.heap.size + 2) 1 (by omega) (by omega)
      have t2 := KC.fz (w.heap.size + 2) 2 (by omega) (by omega)
      have s0 := KC.size
      have HS : ∀ w' : World, Below w6.heap.size w6 w' → w'.cell? ⟨w.heap.size, 0, none⟩ = some (.int .i64 X1) ∧ w'.cell? ⟨w.heap.size, 1, none⟩ = some (.int .i64 Y1) ∧ w'.cell? ⟨w.heap.size, 2, none⟩ = some (.slice A1 L.length c1) ∧ w'.cell? ⟨w.heap.size + 1, 0, none⟩ = some (.int .i64 X2) ∧ w'.cell? ⟨w.heap.size + 1, 1, none⟩ = some (.int .i64 Y2) ∧ w'.cell? ⟨w.heap.size + 1, 2, none⟩ = some (.slice A2 M.length c2) := fun w' hb =>
        ⟨(hb.cell (p := ⟨w.heap.size, 0, none⟩) (by show w.heap.size < _; omega)).trans a0, (hb.cell (p := ⟨w.heap.size, 1, none⟩) (by show w.heap.size < _; omega)).trans a1, (hb.cell (p := ⟨w.heap.size, 2, none⟩) (by show w.heap.size < _; omega)).trans a2, (hb.cell (p := ⟨w.heap.size + 1, 0, none⟩) (by show w.heap.size + 1 < _; omega)).trans b0, (hb.cell (p := ⟨w.heap.size + 1, 1, none⟩) (by show w.heap.size + 1 < _; omega)).trans b1, (hb.cell (p := ⟨w.heap.size + 1, 2, none⟩) (by show w.heap.size + 1 < _; omega)).trans b2⟩
      have gm := grow_small hG m3 m4
      have gp := grow_small hK m1 m2
      have x1 : 0 ≤ X1 ∧ X1 ≤ 250000 := by rw [← hX1]; exact prod_bd m3 m4 (by have := hG.1; omega) hG.1.2
      have y1 : 0 ≤ Y1 ∧ Y1 ≤ 250000 := by rw [← hY1]; exact prod_bd m3 m4 (by have := hG.2.1; omega) hG.2.1.2
      have x2 : 0 ≤ X2 ∧ X2 ≤ 250000 := by rw [← hX2]; exact prod_bd m1 m2 (by have := hK.1; omega) hK.1.2
      have lg1 : (growL m L).length = L.length := growL_len m L
      have lg2 : (growL p M).length = M.length := growL_len p M
      have hn1 := hG.2.2.1.2
      have hn2 := hK.2.2.1.2
      have wz : IntKind.i64.wrap (X1 + X2) = X1 + X2 := IntWalk.i64_in _ (by omega)
      have q1 := sqs_of_own o1
      have q2 := sqs_of_own o2
      have z1 := own_nil0 o1
      have d1 := own_cap o1
      have C1 : ∀ w' : World, Below w6.heap.size w6 w' → Calls Try.prog 89 #[.slice A2 M.length c2, .int .i64 X1, .int .i64 0] w' (RetQ w' (J.mvL X1 0 (growL p M))) := fun w' hb =>
        moved_any A2 M.length c2 (growL p M) X1 0 w' lg2 (by omega) ((q2.below hb).mono hb.size) (fun s hs => by have := gp s hs; unfold SmallS; omega) (by omega) (by omega)
      have lg3 : (J.mvL X1 0 (growL p M)).length = M.length := by rw [J.mvL_len]; exact lg2
      have hwfR : ∀ s ∈ ([growL m L, J.mvL X1 0 (growL p M)] : List (List Sq)).flatten, wfS s := by
        intro s hs
        simp only [List.flatten_cons, List.flatten_nil, List.append_nil, List.mem_append] at hs
        rcases hs with hs | hs
        · have := gm s hs; exact wf_small (m := 250000) (by decide) (by omega)
        · obtain ⟨q, hq, rfl⟩ := List.mem_map.1 hs
          have := gp q hq
          exact wf_small (m := 500000) (by decide) (by simp only [J.mvS]; omega)
      have hflen : ([growL m L, J.mvL X1 0 (growL p M)] : List (List Sq)).flatten.length = L.length + M.length := by simp [lg1, lg3]
      have hfeq : ([growL m L, J.mvL X1 0 (growL p M)] : List (List Sq)).flatten = J.beL W m p L M := by
        simp only [List.flatten_cons, List.flatten_nil, List.append_nil]
        rw [J.mv_grow, J.grow_j, ← hX1, Int.mul_comm m W]; rfl
      have hMk : Mk (W * m + V * p) (H * m) (J.beL W m p L M) = Mk (X1 + X2) Y1 ([growL m L, J.mvL X1 0 (growL p M)] : List (List Sq)).flatten := by
        rw [hfeq, ← hX1, ← hX2, ← hY1, Int.mul_comm m W, Int.mul_comm m H, Int.mul_comm p V]
      obtain ⟨Q2, hQ2⟩ : ∃ Q, Q = J.mvL X1 0 (growL p M) := ⟨_, rfl⟩
      rw [← hQ2] at C1 lg3 hflen hwfR hMk
      obtain ⟨F, hF⟩ : ∃ F, ([growL m L, Q2] : List (List Sq)).flatten = F := ⟨_, rfl⟩
      have HFQ := Lib.hid hF
      rw [hF] at hflen hwfR hMk
      have HMk := Lib.hid hMk
      have HKC := Lib.hid KC
      clear hMk hfeq hF hQ2 gm gp q2 o2 hX1 hX2 hY1 hY2
      go_wp2_with fail
      refine wp_region_top 19 (fun w' => w'.cell? ⟨w.heap.size, 0, none⟩ = some (.int .i64 X1) ∧ w'.cell? ⟨w.heap.size, 1, none⟩ = some (.int .i64 Y1) ∧ w'.cell? ⟨w.heap.size, 2, none⟩ = some (.slice A1 L.length c1) ∧ w'.cell? ⟨w.heap.size + 1, 0, none⟩ = some (.int .i64 X2) ∧ w'.cell? ⟨w.heap.size + 1, 1, none⟩ = some (.int .i64 Y2) ∧ w'.cell? ⟨w.heap.size + 1, 2, none⟩ = some (.slice A2 M.length c2)) (by kernel_rfl) (HS _ ((Below.refl _ _).drew)) (fun hHeld => ?_)
      refine wpTop.take 0 (v := ?_) rfl (by kernel_rfl) (by kernel_rfl) (by kernel_rfl) (by kernel_rfl) (fun _ _ _ h => h) (Or.inl ⟨by rfl, ?_⟩) (by assumption) ?_
      rotate_left
      · intro w hSw; (try dsimp only at hSw); go_simp; try (with_reducible rfl)
      try simp only [Act.put, List.setIfInBounds_toArray, List.set_cons_zero, List.set_cons_succ]
      refine wpTop.take 1 (v := ?_) rfl (by kernel_rfl) (by kernel_rfl) (by kernel_rfl) (by kernel_rfl) (fun _ _ _ h => h) (Or.inl ⟨by rfl, ?_⟩) (by assumption) ?_
      rotate_left
      · intro w hSw; (try dsimp only at hSw); go_simp; try (with_reducible rfl)
      try simp only [Act.put, List.setIfInBounds_toArray, List.set_cons_zero, List.set_cons_succ]
      refine wpTop.take 2 (v := ?_) rfl (by kernel_rfl) (by kernel_rfl) (by kernel_rfl) (by kernel_rfl) (fun _ _ _ h => h) (Or.inl ⟨by rfl, ?_⟩) (by assumption) ?_
      rotate_left
      · intro w hSw; (try dsimp only at hSw); go_simp; try (with_reducible rfl)
      try simp only [Act.put, List.setIfInBounds_toArray, List.set_cons_zero, List.set_cons_succ]
      refine wpTop.take 3 (v := ?_) rfl (by kernel_rfl) (by kernel_rfl) (by kernel_rfl) (by kernel_rfl) (fun _ _ _ h => h) (Or.inl ⟨by rfl, ?_⟩) (by assumption) ?_
      rotate_left
      · intro w hSw; (try dsimp only at hSw); go_simp; try (with_reducible rfl)
      try simp only [Act.put, List.setIfInBounds_toArray, List.set_cons_zero, List.set_cons_succ]
      refine wpTop.take 4 (v := ?_) rfl (by kernel_rfl) (by kernel_rfl) (by kernel_rfl) (by kernel_rfl) (fun _ _ _ h => h) (Or.inl ⟨by rfl, ?_⟩) (by assumption) ?_
      rotate_left
      · intro w hSw; (try dsimp only at hSw); go_simp; try (with_reducible rfl)
      try simp only [Act.put, List.setIfInBounds_toArray, List.set_cons_zero, List.set_cons_succ]
      refine wpTop.take 5 (v := ?_) rfl (by kernel_rfl) (by kernel_rfl) (by kernel_rfl) (by kernel_rfl) (fun _ _ _ h => h) (Or.inl ⟨by rfl, ?_⟩) (by assumption) ?_
      rotate_left
      · intro w hSw; (try dsimp only at hSw); go_simp; try (with_reducible rfl)
      try simp only [Act.put, List.setIfInBounds_toArray, List.set_cons_zero, List.set_cons_succ]
      refine wpTop.take 6 (v := ?_) rfl (by kernel_rfl) (by kernel_rfl) (by kernel_rfl) (by kernel_rfl) (fun _ _ _ h => h) (Or.inl ⟨by rfl, ?_⟩) (by assumption) ?_
      rotate_left
      · intro w hSw; (try dsimp only at hSw); go_simp; try (with_reducible rfl)
      try simp only [Act.put, List.setIfInBounds_toArray, List.set_cons_zero, List.set_cons_succ]
      refine wpTop.take 7 (v := ?_) rfl (by kernel_rfl) (by kernel_rfl) (by kernel_rfl) (by kernel_rfl) (fun _ _ _ h => h) (Or.inl ⟨by rfl, ?_⟩) (by assumption) ?_
      rotate_left
      · intro w hSw; (try dsimp only at hSw); go_simp; try (with_reducible rfl)
      try simp only [Act.put, List.setIfInBounds_toArray, List.set_cons_zero, List.set_cons_succ]
      refine wpTop.take 8 (v := ?_) rfl (by kernel_rfl) (by kernel_rfl) (by kernel_rfl) (by kernel_rfl) (fun _ _ _ h => h) (Or.inl ⟨by rfl, ?_⟩) (by assumption) ?_
      rotate_left
      · intro w hSw; (try dsimp only at hSw); go_simp; try (with_reducible rfl)
      try simp only [Act.put, List.setIfInBounds_toArray, List.set_cons_zero, List.set_cons_succ]
      refine wpTop.take 9 (v := ?_) rfl (by kernel_rfl) (by kernel_rfl) (by kernel_rfl) (by kernel_rfl) (fun _ _ _ h => h) (Or.inl ⟨by rfl, ?_⟩) (by assumption) ?_
      rotate_left
      · intro w hSw; (try dsimp only at hSw); go_simp; try (with_reducible rfl)
      try simp only [Act.put, List.setIfInBounds_toArray, List.set_cons_zero, List.set_cons_succ]
      refine wpTop.take 10 (v := ?_) rfl (by kernel_rfl) (by kernel_rfl) (by kernel_rfl) (by kernel_rfl) (fun _ _ _ h => h) (Or.inl ⟨by rfl, ?_⟩) (by assumption) ?_
      rotate_left
      · intro w hSw; (try dsimp only at hSw); go_simp; try (with_reducible rfl)
      try simp only [Act.put, List.setIfInBounds_toArray, List.set_cons_zero, List.set_cons_succ]
      refine wpTop.take 11 (v := ?_) rfl (by kernel_rfl) (by kernel_rfl) (by kernel_rfl) (by kernel_rfl) (fun _ _ _ h => h) (Or.inl ⟨by rfl, ?_⟩) (by assumption) ?_
      rotate_left
      · intro w hSw; (try dsimp only at hSw); go_simp; try (with_reducible rfl)
      try simp only [Act.put, List.setIfInBounds_toArray, List.set_cons_zero, List.set_cons_succ]
      refine wpTop.take 12 (v := ?_) rfl (by kernel_rfl) (by kernel_rfl) (by kernel_rfl) (by kernel_rfl) (fun _ _ _ h => h) (Or.inl ⟨by rfl, ?_⟩) (by assumption) ?_
      rotate_left
      · intro w hSw; (try dsimp only at hSw); go_simp; try (with_reducible rfl)
      try simp only [Act.put, List.setIfInBounds_toArray, List.set_cons_zero, List.set_cons_succ]
      refine wpTop.one 13 rfl (by kernel_rfl) (fun K hK => ?_)
      go_simp
      (with_reducible refine (C1 _ ((Below.refl _ _).drew)).mono ?_)
      rintro e w7 ⟨Am, cm, rfl, om, hb7'⟩
      have hb7 : Below w6.heap.size w6 w7 := ((Below.refl w6.heap.size w6).drew).trans hb7'
      rw [lg3] at om ⊢
      have zm := own_nil0 om
      have dm := own_cap om
      have qm := sqs_of_own om
      refine hK.out _ _ (fun _ => HS _ hb7) (fun hH => ?_)
      clear hK K
      have hHeld := hH (by decide)
      clear hH
      try simp only [Act.put, List.setIfInBounds_toArray, List.set_cons_zero, List.set_cons_succ]
      refine wpTop.one 14 rfl (by kernel_rfl) (fun K hK => ?_)
      go_simp
      obtain ⟨W8, hW8⟩ : ∃ W8, W8 = w7.alloc (.cells #[.slice A1 L.length c1, .slice Am M.length cm] 26) := ⟨_, rfl⟩
      have hb78 : Below w7.heap.size w7 W8 := by rw [hW8]; exact (Below.refl _ _).alloc (Nat.le_refl _) _
      have hb8 : Below w6.heap.size w6 W8 := hb7.trans (hb78.mono hb7.size)
      have hRows : RowsQ W8 W8.heap.size (some ⟨w7.heap.size, 0, none⟩) [growL m L, Q2] := RowsQ.two (c := c1) (d := cm) (by rw [hW8]; simp) (by rw [hW8, lg1]; simp) (by rw [hW8, lg3]; simp) ((q1.below hb8).mono hb8.size) ((qm.below hb78).mono hb78.size) (by omega) (by omega) (by rw [lg1]; exact z1) (by rw [lg3]; exact zm)
      have CC := concatQ_any (some ⟨w7.heap.size, 0, none⟩) 2 2 [growL m L, Q2] W8 rfl (by omega) (by rw [HFQ.out]; omega) hRows
      rw [HFQ.out] at CC
      rw [← hW8]
      clear hW8
      refine hK.out _ _ (fun _ => HS _ hb8) (fun hH => ?_)
      clear hK K
      have hHeld := hH (by decide)
      clear hH
      try simp only [Act.put, List.setIfInBounds_toArray, List.set_cons_zero, List.set_cons_succ]
      refine wpTop.one 15 rfl (by kernel_rfl) (fun K hK => ?_)
      go_simp
      (with_reducible refine CC.mono ?_)
      rintro e w8 ⟨A8, c8, rfl, o8, hb8'⟩
      have hb9 : Below w6.heap.size w6 w8 := hb8.trans (hb8'.mono hb8.size)
      rw [hflen] at o8
      have CO := implCutOf_any (X1 + X2) Y1 A8 (L.length + M.length) c8 F w8 hflen (by omega) (own_nil0 o8) (sqs_of_own o8) hwfR
      refine hK.out _ _ (fun _ => HS _ hb9) (fun hH => ?_)
      clear hK K
      have hHeld := hH (by decide)
      clear hH
      try simp only [Act.put, List.setIfInBounds_toArray, List.set_cons_zero, List.set_cons_succ]
      refine wpTop.one 16 rfl (by kernel_rfl) (fun K hK => ?_)
      go_simp
      (with_reducible refine CO.mono ?_)
      rintro e w9 hret
      have hret : RetT w8 (Mk (X1 + X2) Y1 F) e w9 := hret
      obtain ⟨A3, c3, rfl, o9, hb9'⟩ := hret
      have hb10 : Below w6.heap.size w6 w9 := hb9.trans (hb9'.mono hb9.size)
      refine hK.out _ _ (fun _ => HS _ hb10) (fun hH => ?_)
      clear hK K
      have hHeld := hH (by decide)
      clear hH
      try simp only [Act.put, List.setIfInBounds_toArray, List.set_cons_zero, List.set_cons_succ]
      refine wpTop.take 17 (v := ?_) rfl (by kernel_rfl) (by kernel_rfl) (by kernel_rfl) (by kernel_rfl) (fun _ _ _ h => h) (Or.inl ⟨by rfl, ?_⟩) (by assumption) ?_
      rotate_left
      · intro w hSw; (try dsimp only at hSw); go_simp; try (with_reducible rfl)
      try simp only [Act.put, List.setIfInBounds_toArray, List.set_cons_zero, List.set_cons_succ]
      refine wpTop.take 18 (v := ?_) rfl (by kernel_rfl) (by kernel_rfl) (by kernel_rfl) (by kernel_rfl) (fun _ _ _ h => h) (Or.inl ⟨by rfl, ?_⟩) (by assumption) ?_
      rotate_left
      · intro w hSw; (try dsimp only at hSw); go_simp; try (with_reducible rfl)
      try simp only [Act.put, List.setIfInBounds_toArray, List.set_cons_zero, List.set_cons_succ]
      have K9 := HKC.out.next hb10
      have o9 := own_base (base' := w.heap.size + 3) o9 (by have := hb9.size; omega)
      clear r0 r1 r2 t0 t1 t2 hHeld
      have ⟨_, r0, r1, r2⟩ := K9.r
      have t0 := K9.fz (w.heap.size + 2) 0 (by omega) (by omega)
      have t1 := K9.fz (w.heap.size + 2) 1 (by omega) (by omega)
      have t2 := K9.fz (w.heap.size + 2) 2 (by omega) (by omega)
      refine wpTop.one 19 rfl (by kernel_rfl) (fun K hK => ?_)
      go_simp

      refine hK.out _ _ (fun h => absurd h (by decide)) (fun hH => ?_)
      clear hK K
      clear hH
      try simp only [Act.put, List.setIfInBounds_toArray, List.set_cons_zero, List.set_cons_succ]
      refine wpTop.one 20 rfl (by kernel_rfl) (fun K hK => ?_)
      go_simp

      refine hK.out _ _ (fun h => absurd h (by decide)) (fun hH => ?_)
      clear hK K
      clear hH
      try simp only [Act.put, List.setIfInBounds_toArray, List.set_cons_zero, List.set_cons_succ]
      refine wpTop.all (by kernel_rfl) ?_ _
      go_wp2_with fail
      obtain ⟨e1, e2⟩ := K9.done (X := (Mk (X1 + X2) Y1 F).1) (Y := (Mk (X1 + X2) Y1 F).2.1) o9 (Nat.le_refl _)
      rw [hp, hm, HMk.out]
      refine bodyPost_ret (v := .tuple #[.agg #[.int .i64 (Mk (X1 + X2) Y1 F).1, .int .i64 (Mk (X1 + X2) Y1 F).2.1, .slice A3 (Mk (X1 + X2) Y1 F).2.2.1.length c3], .bool (Mk (X1 + X2) Y1 F).2.2.2]) (by simp [results, Try.results48, go_sem, r0, r1, r2]) rfl ?_
      exact ⟨A3, c3, rfl, e2, e1⟩
    · rw [beT_no fun h => hK h.2]
      have ⟨_, a0, a1, a2⟩ := K0.a
      have ⟨_, b0, b1, b2⟩ := K0.b
      have ⟨_, r0, r1, r2⟩ := K0.r
      have t0 := K0.fz (w.heap.size + 2) 0 (by omega) (by omega)
      have t1 := K0.fz (w.heap.size + 2) 1 (by omega) (by omega)
      have t2 := K0.fz (w.heap.size + 2) 2 (by omega) (by omega)
      have s0 := K0.size
      go_enter Try.func48, Try.ntmps48
      go_wp2_with fail
      rw [← hW1]
      refine (callB_yes (isCut_good W H A _ c L _ rfl hc ((hL.below K0.below).mono K0.below.size) hwf) hG).mono ?_
      rintro e w1 ⟨rfl, hb1⟩
      have K1 := K0.next hb1
      clear a0 a1 a2 b0 b1 b2 r0 r1 r2 t0 t1 t2
      clear K0 hW1 hb1 s0
      have ⟨_, a0, a1, a2⟩ := K1.a
      have ⟨_, b0, b1, b2⟩ := K1.b
      have ⟨_, r0, r1, r2⟩ := K1.r
      have t0 := K1.fz (w.heap.size + 2) 0 (by omega) (by omega)
      have t1 := K1.fz (w.heap.size + 2) 1 (by omega) (by omega)
      have t2 := K1.fz (w.heap.size + 2) 2 (by omega) (by omega)
      have s0 := K1.size
      go_wp2_with fail
      refine (callB_no (isCut_good V G A' _ c' M _ rfl hc' ((hM.below K1.below).mono K1.below.size) hwf') hK).mono ?_
      rintro e w2 ⟨rfl, hb2⟩
      have K2 := K1.next hb2
      clear a0 a1 a2 b0 b1 b2 r0 r1 r2 t0 t1 t2
      clear K1 hb2 s0
      have ⟨_, a0, a1, a2⟩ := K2.a
      have ⟨_, b0, b1, b2⟩ := K2.b
      have ⟨_, r0, r1, r2⟩ := K2.r
      have t0 := K2.fz (w.heap.size + 2) 0 (by omega) (by omega)
      have t1 := K2.fz (w.heap.size + 2) 1 (by omega) (by omega)
      have t2 := K2.fz (w.heap.size + 2) 2 (by omega) (by omega)
      have s0 := K2.size
      go_wp2_with fail
      have hB := ((K2.below.setCell (p := ⟨w.heap.size + 2, 0, none⟩) (by simp) (.int .i64 0)).setCell (p := ⟨w.heap.size + 2, 1, none⟩) (by simp) (.int .i64 0)).setCell (p := ⟨w.heap.size + 2, 2, none⟩) (by simp) (.slice none 0 0)
      refine bodyPost_ret (v := .tuple #[.agg #[.int .i64 0, .int .i64 0, .slice none 0 0], .bool false]) (by simp [results, Try.results48, go_sem, r0, r1, r2]) rfl ?_
      exact RetT.no hB
  · rw [beT_no fun h => hG h.1]
    have ⟨_, a0, a1, a2⟩ := K0.a
    have ⟨_, b0, b1, b2⟩ := K0.b
    have ⟨_, r0, r1, r2⟩ := K0.r
    have t0 := K0.fz (w.heap.size + 2) 0 (by omega) (by omega)
    have t1 := K0.fz (w.heap.size + 2) 1 (by omega) (by omega)
    have t2 := K0.fz (w.heap.size + 2) 2 (by omega) (by omega)
    have s0 := K0.size
    go_enter Try.func48, Try.ntmps48
    go_wp2_with fail
    rw [← hW1]
    refine (callB_no (isCut_good W H A _ c L _ rfl hc ((hL.below K0.below).mono K0.below.size) hwf) hG).mono ?_
    rintro e w1 ⟨rfl, hb1⟩
    have K1 := K0.next hb1
    clear a0 a1 a2 b0 b1 b2 r0 r1 r2 t0 t1 t2
    clear K0 hW1 hb1 s0
    have ⟨_, a0, a1, a2⟩ := K1.a
    have ⟨_, b0, b1, b2⟩ := K1.b
    have ⟨_, r0, r1, r2⟩ := K1.r
    have t0 := K1.fz (w.heap.size + 2) 0 (by omega) (by omega)
    have t1 := K1.fz (w.heap.size + 2) 1 (by omega) (by omega)
    have t2 := K1.fz (w.heap.size + 2) 2 (by omega) (by omega)
    have s0 := K1.size
    go_wp2_with fail
    have hB := ((K1.below.setCell (p := ⟨w.heap.size + 2, 0, none⟩) (by simp) (.int .i64 0)).setCell (p := ⟨w.heap.size + 2, 1, none⟩) (by simp) (.int .i64 0)).setCell (p := ⟨w.heap.size + 2, 2, none⟩) (by simp) (.slice none 0 0)
    refine bodyPost_ret (v := .tuple #[.agg #[.int .i64 0, .int .i64 0, .slice none 0 0], .bool false]) (by simp [results, Try.results48, go_sem, r0, r1, r2]) rfl ?_
    exact RetT.no hB
end Go.Proofs.Ytnnhgblgbbfmpaa
