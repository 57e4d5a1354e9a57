/- The model's joBeside and joUnder. -/
import Derived.Test.YtnnhgblgbbfmpaaBesS
set_option linter.all false
namespace Go.Proofs.Ytnnhgblgbbfmpaa
open Go.RowKit

set_option maxRecDepth 100000 in
set_option maxHeartbeats 8000000 in
theorem joUnder_any (W H : Int) (A : Option Addr) (n c : Nat) (L : List Sq) (V G : Int) (A' : Option Addr) (n' c' : Nat) (M : List Sq) (w : World) (hl : L.length = n) (hl' : M.length = n') (hL : SqsAt w w.heap.size A L) (hM : SqsAt w w.heap.size A' M) (hG : Good W H L) (hK : Good V G M) :
    Calls Try.prog 90 #[.agg #[.int .i64 W, .int .i64 H, .slice A n c], .agg #[.int .i64 V, .int .i64 G, .slice A' n' c']] w (RetT w (unT W H L V G M)) := by
  subst hl
  subst hl'
  have K0 := BB.start w W H A L.length c V G A' M.length c'
  obtain ⟨W1, hW1⟩ : ∃ W1, W1 = (((w.alloc (.cells #[.int .i64 W, .int .i64 H, .slice A L.length c] 28)).alloc (.cells #[.int .i64 V, .int .i64 G, .slice A' M.length c'] 28)).alloc (.cells #[.int .i64 0, .int .i64 0, .slice none 0 0] 28)) := ⟨_, rfl⟩
  rw [← hW1] at K0
  obtain ⟨i0, hi, hz0, hz1, hz2⟩ := info_parts infoSq
  rw [unT_yes hG hK]
  have ⟨_, a0, a1, a2⟩ := K0.a
  have ⟨_, b0, b1, b2⟩ := K0.b
  have ⟨_, r0, r1, r2⟩ := K0.r
  have t0 := K0.fz (w.heap.size + 2) 0 (by omega) (by omega)
  have t1 := K0.fz (w.heap.size + 2) 1 (by omega) (by omega)
  have t2 := K0.fz (w.heap.size + 2) 2 (by omega) (by omega)
  have s0 := K0.size
  go_enter Try.func90, Try.ntmps90
  go_wp2_with fail
  rw [← hW1]
  refine (specGcd_i W V W1 hG.1 hK.1).mono ?_
  rintro e w2 ⟨rfl, hb2⟩
  have K3 := K0.next hb2
  clear a0 a1 a2 b0 b1 b2 r0 r1 r2 t0 t1 t2
  clear K0 hW1 hb2 s0
  obtain ⟨⟨m1, m2⟩, ⟨m3, m4⟩, m5⟩ := gd_fit hG.1 hK.1
  obtain ⟨g, hg⟩ : ∃ g : Nat, gd W V = (g : Int) := ⟨_, rfl⟩
  have E1 : wrap64 ((W).tdiv (g : Int)) = W / (g : Int) := (IntWalk.i64_left _).symm.trans (quoW (by have := hG.1; omega) (hG.1).2)
  have E2 : wrap64 ((V).tdiv (g : Int)) = V / (g : Int) := (IntWalk.i64_left _).symm.trans (quoW (by have := hK.1; omega) (hK.1).2)
  rw [hg] at m1 m2 m3 m4 m5 ⊢
  have g0 : (g : Int) ≠ 0 := by omega
  have pa : 0 ≤ W := by have := hG.1; omega
  have pb : 0 ≤ V := by have := hK.1; omega
  have ⟨_, a0, a1, a2⟩ := K3.a
  have ⟨_, b0, b1, b2⟩ := K3.b
  have ⟨_, r0, r1, r2⟩ := K3.r
  have t0 := K3.fz (w.heap.size + 2) 0 (by omega) (by omega)
  have t1 := K3.fz (w.heap.size + 2) 1 (by omega) (by omega)
  have t2 := K3.fz (w.heap.size + 2) 2 (by omega) (by omega)
  have s0 := K3.size
  go_wp2_with fail
  go_region
  go_wp2_with fail
  rw [E1, E2]
  have K3 := K3.next (Below.refl _ _).drew
  obtain ⟨w3, hw3⟩ : ∃ w3, w3 = w2.drew := ⟨_, rfl⟩
  rw [← hw3] at K3 ⊢
  clear a0 a1 a2 b0 b1 b2 r0 r1 r2 t0 t1 t2
  clear s0 hw3
  have ⟨_, a0, a1, a2⟩ := K3.a
  have ⟨_, b0, b1, b2⟩ := K3.b
  have ⟨_, r0, r1, r2⟩ := K3.r
  have t0 := K3.fz (w.heap.size + 2) 0 (by omega) (by omega)
  have t1 := K3.fz (w.heap.size + 2) 1 (by omega) (by omega)
  have t2 := K3.fz (w.heap.size + 2) 2 (by omega) (by omega)
  have s0 := K3.size
  obtain ⟨p, hp⟩ : ∃ p, W / (g : Int) = p := ⟨_, rfl⟩
  obtain ⟨m, hm⟩ : ∃ m, V / (g : Int) = m := ⟨_, rfl⟩
  rw [hp] at m1 m2 ⊢
  rw [hm] at m3 m4 ⊢
  have P1b : 0 ≤ H * m ∧ H * m ≤ 250000 := by have e := prod_bd m3 m4 (x := H) (by have := hG.2.1; omega) hG.2.1.2; rw [Int.mul_comm] at e; exact e
  have P1w : IntKind.i64.wrap (H * m) = H * m := IntWalk.i64_in _ (by omega)
  have P2b : 0 ≤ G * p ∧ G * p ≤ 250000 := by have e := prod_bd m1 m2 (x := G) (by have := hK.2.1; omega) hK.2.1.2; rw [Int.mul_comm] at e; exact e
  have P2w : IntKind.i64.wrap (G * p) = G * p := IntWalk.i64_in _ (by omega)
  have P3b : 0 ≤ W * m ∧ W * m ≤ 250000 := by have e := prod_bd m3 m4 (x := W) (by have := hG.1; omega) hG.1.2; rw [Int.mul_comm] at e; exact e
  have P3w : IntKind.i64.wrap (W * m) = W * m := IntWalk.i64_in _ (by omega)
  have wz : IntKind.i64.wrap (H * m + G * p) = H * m + G * p := IntWalk.i64_in _ (by omega)
  have sm1 : ∀ s ∈ L, (0 ≤ s.x ∧ s.x ≤ 500) ∧ (0 ≤ s.y ∧ s.y ≤ 500) ∧ (0 ≤ s.d ∧ s.d ≤ 500) := fun s hs => by have h1 := (good_fill hG).within s hs; have h2 := hG.1; have h3 := hG.2.1; unfold Within at h1; omega
  have sm2 : ∀ s ∈ M, (0 ≤ s.x ∧ s.x ≤ 500) ∧ (0 ≤ s.y ∧ s.y ≤ 500) ∧ (0 ≤ s.d ∧ s.d ≤ 500) := fun s hs => by have h1 := (good_fill hK).within s hs; have h2 := hK.1; have h3 := hK.2.1; unfold Within at h1; omega
  have hn1 := hG.2.2.1.2
  have hn2 := hK.2.2.1.2
  have B3 := Lib.hid K3.below
  have C1 : ∀ w' : World, Below w3.heap.size w3 w' → Calls Try.prog 126 #[.agg #[.int .i64 W, .int .i64 H, .slice A L.length c], .int .i64 m, .int .i64 0, .int .i64 0] w' (RetQ w' (J.jL m 0 0 L)) := fun w' hb =>
    joGrown_any W H A L.length c L m 0 0 w' rfl (by omega) ((hL.below (B3.out.trans (hb.mono B3.out.size))).mono (Nat.le_trans B3.out.size hb.size)) sm1 m3 m4 (by omega) (by omega)
  have C2 : ∀ w' : World, Below w3.heap.size w3 w' → Calls Try.prog 126 #[.agg #[.int .i64 V, .int .i64 G, .slice A' M.length c'], .int .i64 p, .int .i64 (0), .int .i64 (H * m)] w' (RetQ w' (J.jL p (0) (H * m) M)) := fun w' hb =>
    joGrown_any V G A' M.length c' M p (0) (H * m) w' rfl (by omega) ((hM.below (B3.out.trans (hb.mono B3.out.size))).mono (Nat.le_trans B3.out.size hb.size)) sm2 m1 m2 (by omega) (by omega)
  have HS : ∀ w' : World, Below w3.heap.size w3 w' → w'.cell? ⟨w.heap.size, 0, none⟩ = some (.int .i64 W) ∧ w'.cell? ⟨w.heap.size, 1, none⟩ = some (.int .i64 H) ∧ w'.cell? ⟨w.heap.size, 2, none⟩ = some (.slice A L.length c) ∧ w'.cell? ⟨w.heap.size + 1, 0, none⟩ = some (.int .i64 V) ∧ w'.cell? ⟨w.heap.size + 1, 1, none⟩ = some (.int .i64 G) ∧ w'.cell? ⟨w.heap.size + 1, 2, none⟩ = some (.slice A' M.length c') := fun w' hb =>
    ⟨(hb.cell (p := ⟨w.heap.size, 0, none⟩) (by show w.heap.size < _; omega)).trans a0, (hb.cell (p := ⟨w.heap.size, 1, none⟩) (by show w.heap.size < _; omega)).trans a1, (hb.cell (p := ⟨w.heap.size, 2, none⟩) (by show w.heap.size < _; omega)).trans a2, (hb.cell (p := ⟨w.heap.size + 1, 0, none⟩) (by show w.heap.size + 1 < _; omega)).trans b0, (hb.cell (p := ⟨w.heap.size + 1, 1, none⟩) (by show w.heap.size + 1 < _; omega)).trans b1, (hb.cell (p := ⟨w.heap.size + 1, 2, none⟩) (by show w.heap.size + 1 < _; omega)).trans b2⟩
  have hk1 : L.length + M.length ≤ maxLen := by unfold maxLen; omega
  have hk2 : (L.length + M.length) * 24 ≤ 140737488355328 := by omega
  refine wp_region_top 27 (fun w' => w'.cell? ⟨w.heap.size, 0, none⟩ = some (.int .i64 W) ∧ w'.cell? ⟨w.heap.size, 1, none⟩ = some (.int .i64 H) ∧ w'.cell? ⟨w.heap.size, 2, none⟩ = some (.slice A L.length c) ∧ w'.cell? ⟨w.heap.size + 1, 0, none⟩ = some (.int .i64 V) ∧ w'.cell? ⟨w.heap.size + 1, 1, none⟩ = some (.int .i64 G) ∧ w'.cell? ⟨w.heap.size + 1, 2, none⟩ = some (.slice A' M.length c')) (by kernel_rfl) (HS _ ((Below.refl _ _).drew)) (fun hHeld => ?_)
  refine wpTop.take 0 (v := ?_) rfl (by kernel_rfl) (by kernel_rfl) (by kernel_rfl) (by kernel_rfl) (fun _ _ _ h => h) (Or.inl ⟨by rfl, ?_⟩) (by assumption) ?_
  rotate_left
  · intro w hSw; (try dsimp only at hSw); go_simp; try (with_reducible rfl)
  try simp only [Act.put, List.setIfInBounds_toArray, List.set_cons_zero, List.set_cons_succ]
  refine wpTop.take 1 (v := ?_) rfl (by kernel_rfl) (by kernel_rfl) (by kernel_rfl) (by kernel_rfl) (fun _ _ _ h => h) (Or.inl ⟨by rfl, ?_⟩) (by assumption) ?_
  rotate_left
  · intro w hSw; (try dsimp only at hSw); go_simp; try (with_reducible rfl)
  try simp only [Act.put, List.setIfInBounds_toArray, List.set_cons_zero, List.set_cons_succ]
  refine wpTop.take 2 (v := ?_) rfl (by kernel_rfl) (by kernel_rfl) (by kernel_rfl) (by kernel_rfl) (fun _ _ _ h => h) (Or.inl ⟨by rfl, ?_⟩) (by assumption) ?_
  rotate_left
  · intro w hSw; (try dsimp only at hSw); go_simp; try (with_reducible rfl)
  try simp only [Act.put, List.setIfInBounds_toArray, List.set_cons_zero, List.set_cons_succ]
  refine wpTop.take 3 (v := ?_) rfl (by kernel_rfl) (by kernel_rfl) (by kernel_rfl) (by kernel_rfl) (fun _ _ _ h => h) (Or.inl ⟨by rfl, ?_⟩) (by assumption) ?_
  rotate_left
  · intro w hSw; (try dsimp only at hSw); go_simp; try (with_reducible rfl)
  try simp only [Act.put, List.setIfInBounds_toArray, List.set_cons_zero, List.set_cons_succ]
  refine wpTop.take 4 (v := ?_) rfl (by kernel_rfl) (by kernel_rfl) (by kernel_rfl) (by kernel_rfl) (fun _ _ _ h => h) (Or.inl ⟨by rfl, ?_⟩) (by assumption) ?_
  rotate_left
  · intro w hSw; (try dsimp only at hSw); go_simp; try (with_reducible rfl)
  try simp only [Act.put, List.setIfInBounds_toArray, List.set_cons_zero, List.set_cons_succ]
  refine wpTop.take 5 (v := ?_) rfl (by kernel_rfl) (by kernel_rfl) (by kernel_rfl) (by kernel_rfl) (fun _ _ _ h => h) (Or.inl ⟨by rfl, ?_⟩) (by assumption) ?_
  rotate_left
  · intro w hSw; (try dsimp only at hSw); go_simp; try (with_reducible rfl)
  try simp only [Act.put, List.setIfInBounds_toArray, List.set_cons_zero, List.set_cons_succ]
  refine wpTop.take 6 (v := ?_) rfl (by kernel_rfl) (by kernel_rfl) (by kernel_rfl) (by kernel_rfl) (fun _ _ _ h => h) (Or.inl ⟨by rfl, ?_⟩) (by assumption) ?_
  rotate_left
  · intro w hSw; (try dsimp only at hSw); go_simp; try (with_reducible rfl)
  try simp only [Act.put, List.setIfInBounds_toArray, List.set_cons_zero, List.set_cons_succ]
  refine wpTop.take 7 (v := ?_) rfl (by kernel_rfl) (by kernel_rfl) (by kernel_rfl) (by kernel_rfl) (fun _ _ _ h => h) (Or.inl ⟨by rfl, ?_⟩) (by assumption) ?_
  rotate_left
  · intro w hSw; (try dsimp only at hSw); go_simp; try (with_reducible rfl)
  try simp only [Act.put, List.setIfInBounds_toArray, List.set_cons_zero, List.set_cons_succ]
  refine wpTop.take 8 (v := ?_) rfl (by kernel_rfl) (by kernel_rfl) (by kernel_rfl) (by kernel_rfl) (fun _ _ _ h => h) (Or.inl ⟨by rfl, ?_⟩) (by assumption) ?_
  rotate_left
  · intro w hSw; (try dsimp only at hSw); go_simp; try (with_reducible rfl)
  try simp only [Act.put, List.setIfInBounds_toArray, List.set_cons_zero, List.set_cons_succ]
  refine wpTop.take 9 (v := ?_) rfl (by kernel_rfl) (by kernel_rfl) (by kernel_rfl) (by kernel_rfl) (fun _ _ _ h => h) (Or.inl ⟨by rfl, ?_⟩) (by assumption) ?_
  rotate_left
  · intro w hSw; (try dsimp only at hSw); go_simp; try (with_reducible rfl)
  try simp only [Act.put, List.setIfInBounds_toArray, List.set_cons_zero, List.set_cons_succ]
  refine wpTop.take 10 (v := ?_) rfl (by kernel_rfl) (by kernel_rfl) (by kernel_rfl) (by kernel_rfl) (fun _ _ _ h => h) (Or.inl ⟨by rfl, ?_⟩) (by assumption) ?_
  rotate_left
  · intro w hSw; (try dsimp only at hSw); go_simp; try (with_reducible rfl)
  try simp only [Act.put, List.setIfInBounds_toArray, List.set_cons_zero, List.set_cons_succ]
  refine wpTop.take 11 (v := ?_) rfl (by kernel_rfl) (by kernel_rfl) (by kernel_rfl) (by kernel_rfl) (fun _ _ _ h => h) (Or.inl ⟨by rfl, ?_⟩) (by assumption) ?_
  rotate_left
  · intro w hSw; (try dsimp only at hSw); go_simp; try (with_reducible rfl)
  try simp only [Act.put, List.setIfInBounds_toArray, List.set_cons_zero, List.set_cons_succ]
  refine wpTop.take 12 (v := ?_) rfl (by kernel_rfl) (by kernel_rfl) (by kernel_rfl) (by kernel_rfl) (fun _ _ _ h => h) (Or.inl ⟨by rfl, ?_⟩) (by assumption) ?_
  rotate_left
  · intro w hSw; (try dsimp only at hSw); go_simp; try (with_reducible rfl)
  try simp only [Act.put, List.setIfInBounds_toArray, List.set_cons_zero, List.set_cons_succ]
  refine wpTop.take 13 (v := ?_) rfl (by kernel_rfl) (by kernel_rfl) (by kernel_rfl) (by kernel_rfl) (fun _ _ _ h => h) (Or.inl ⟨by rfl, ?_⟩) (by assumption) ?_
  rotate_left
  · intro w hSw; (try dsimp only at hSw); go_simp; try (with_reducible rfl)
  try simp only [Act.put, List.setIfInBounds_toArray, List.set_cons_zero, List.set_cons_succ]
  refine wpTop.take 14 (v := ?_) rfl (by kernel_rfl) (by kernel_rfl) (by kernel_rfl) (by kernel_rfl) (fun _ _ _ h => h) (Or.inl ⟨by rfl, ?_⟩) (by assumption) ?_
  rotate_left
  · intro w hSw; (try dsimp only at hSw); go_simp; try (with_reducible rfl)
  try simp only [Act.put, List.setIfInBounds_toArray, List.set_cons_zero, List.set_cons_succ]
  refine wpTop.take 16 (v := ?_) rfl (by kernel_rfl) (by kernel_rfl) (by kernel_rfl) (by kernel_rfl) (fun _ _ _ h => h) (Or.inl ⟨by rfl, ?_⟩) (by assumption) ?_
  rotate_left
  · intro w hSw; (try dsimp only at hSw); go_simp; try (with_reducible rfl)
  try simp only [Act.put, List.setIfInBounds_toArray, List.set_cons_zero, List.set_cons_succ]
  refine wpTop.take 17 (v := ?_) rfl (by kernel_rfl) (by kernel_rfl) (by kernel_rfl) (by kernel_rfl) (fun _ _ _ h => h) (Or.inl ⟨by rfl, ?_⟩) (by assumption) ?_
  rotate_left
  · intro w hSw; (try dsimp only at hSw); go_simp; try (with_reducible rfl)
  try simp only [Act.put, List.setIfInBounds_toArray, List.set_cons_zero, List.set_cons_succ]
  refine wpTop.take 18 (v := ?_) rfl (by kernel_rfl) (by kernel_rfl) (by kernel_rfl) (by kernel_rfl) (fun _ _ _ h => h) (Or.inl ⟨by rfl, ?_⟩) (by assumption) ?_
  rotate_left
  · intro w hSw; (try dsimp only at hSw); go_simp; try (with_reducible rfl)
  try simp only [Act.put, List.setIfInBounds_toArray, List.set_cons_zero, List.set_cons_succ]
  refine wpTop.take 19 (v := ?_) rfl (by kernel_rfl) (by kernel_rfl) (by kernel_rfl) (by kernel_rfl) (fun _ _ _ h => h) (Or.inl ⟨by rfl, ?_⟩) (by assumption) ?_
  rotate_left
  · intro w hSw; (try dsimp only at hSw); go_simp; try (with_reducible rfl)
  try simp only [Act.put, List.setIfInBounds_toArray, List.set_cons_zero, List.set_cons_succ]
  refine wpTop.take 20 (v := ?_) rfl (by kernel_rfl) (by kernel_rfl) (by kernel_rfl) (by kernel_rfl) (fun _ _ _ h => h) (Or.inl ⟨by rfl, ?_⟩) (by assumption) ?_
  rotate_left
  · intro w hSw; (try dsimp only at hSw); go_simp; try (with_reducible rfl)
  try simp only [Act.put, List.setIfInBounds_toArray, List.set_cons_zero, List.set_cons_succ]
  refine wpTop.take 21 (v := ?_) rfl (by kernel_rfl) (by kernel_rfl) (by kernel_rfl) (by kernel_rfl) (fun _ _ _ h => h) (Or.inl ⟨by rfl, ?_⟩) (by assumption) ?_
  rotate_left
  · intro w hSw; (try dsimp only at hSw); go_simp; try (with_reducible rfl)
  try simp only [Act.put, List.setIfInBounds_toArray, List.set_cons_zero, List.set_cons_succ]
  refine wpTop.one 15 rfl (by kernel_rfl) (fun K hK => ?_)
  go_simp
  (with_reducible refine (C1 _ ((Below.refl _ _).drew)).mono ?_)
  rintro e w4 ⟨A4, c4, rfl, o4, hb4'⟩
  have hb4 : Below w3.heap.size w3 w4 := ((Below.refl w3.heap.size w3).drew).trans hb4'
  rw [J.jL_len] at o4 ⊢
  refine hK.out _ _ (fun _ => HS _ hb4) (fun hH => ?_)
  clear hK K
  have hHeld := hH (by decide)
  clear hH
  try simp only [Act.put, List.setIfInBounds_toArray, List.set_cons_zero, List.set_cons_succ]
  refine wpTop.one 22 rfl (by kernel_rfl) (fun K hK => ?_)
  go_simp
  (with_reducible refine (C2 _ hb4).mono ?_)
  rintro e w5 ⟨A5, c5, rfl, o5, hb5'⟩
  have hb5 : Below w3.heap.size w3 w5 := hb4.trans (hb5'.mono hb4.size)
  rw [J.jL_len] at o5 ⊢
  have o4 := own_keep o4 hb5'
  have z5 := own_nil0 o5
  have q5 := sqs_of_own o5
  refine hK.out _ _ (fun _ => HS _ hb5) (fun hH => ?_)
  clear hK K
  have hHeld := hH (by decide)
  clear hH
  try simp only [Act.put, List.setIfInBounds_toArray, List.set_cons_zero, List.set_cons_succ]
  refine wpTop.one 23 rfl (by kernel_rfl) (fun K hK => ?_)
  refine app_step rfl _ _ _ rfl w3.heap.size 71 i0 (.agg #[.int .i64 0, .int .i64 0, .int .i64 0]) 3 24 Try.underlying26 hi hz0 hz1 hz2 rfl (by decide) (.slice A4 L.length c4) L.length _ rfl (own_base o4 (by simp)) A5 M.length c5 (flat (J.jL p (0) (H * m) M)) rfl (by rw [flat_len, J.jL_len]) (src_sqs (J.jL_len p (0) (H * m) M) q5 z5) (flat_one _) hk1 hk2 hb5.size ?_
  intro v' w6 hown6 hgrow hv6
  obtain ⟨A6, c6, rfl⟩ := own_val hown6
  rw [← flat_app] at hown6
  have hb6 : Below w3.heap.size w3 w6 := hb5.grown hgrow hb5.size (fun kk e => by have := (o4.lt kk e).1; simp at this; omega)
  refine hK.out _ _ (fun _ => HS _ hb6) (fun hH => ?_)
  clear hK K
  have hHeld := hH (by decide)
  clear hH
  try simp only [Act.put, List.setIfInBounds_toArray, List.set_cons_zero, List.set_cons_succ]
  have CO := cuMake_any (W * m) (H * m + G * p) A6 (L.length + M.length) c6 (J.unL H m p L M) w6 (by simp [J.beL, J.unL, J.jL_len]) (by omega) (sqs_of_own (L := J.unL H m p L M) hown6)
  refine wpTop.one 24 rfl (by kernel_rfl) (fun K hK => ?_)
  go_simp
  (with_reducible refine CO.mono ?_)
  rintro e w9 hret
  have hret : RetT w6 (Mk (W * m) (H * m + G * p) (J.unL H m p L M)) e w9 := hret
  obtain ⟨Z, hZ⟩ : ∃ Z, Mk (W * m) (H * m + G * p) (J.unL H m p L M) = Z := ⟨_, rfl⟩
  rw [hZ] at hret
  have HZ := Lib.hid hZ
  clear hZ
  obtain ⟨A3, c3, rfl, o9, hb9'⟩ := hret
  have hb9 : Below w3.heap.size w3 w9 := hb6.trans (hb9'.mono hb6.size)
  refine hK.out _ _ (fun _ => HS _ hb9) (fun hH => ?_)
  clear hK K
  have hHeld := hH (by decide)
  clear hH
  try simp only [Act.put, List.setIfInBounds_toArray, List.set_cons_zero, List.set_cons_succ]
  refine wpTop.take 25 (v := ?_) rfl (by kernel_rfl) (by kernel_rfl) (by kernel_rfl) (by kernel_rfl) (fun _ _ _ h => h) (Or.inl ⟨by rfl, ?_⟩) (by assumption) ?_
  rotate_left
  · intro w hSw; (try dsimp only at hSw); go_simp; try (with_reducible rfl)
  try simp only [Act.put, List.setIfInBounds_toArray, List.set_cons_zero, List.set_cons_succ]
  refine wpTop.take 26 (v := ?_) rfl (by kernel_rfl) (by kernel_rfl) (by kernel_rfl) (by kernel_rfl) (fun _ _ _ h => h) (Or.inl ⟨by rfl, ?_⟩) (by assumption) ?_
  rotate_left
  · intro w hSw; (try dsimp only at hSw); go_simp; try (with_reducible rfl)
  try simp only [Act.put, List.setIfInBounds_toArray, List.set_cons_zero, List.set_cons_succ]
  have K9 := K3.next hb9
  have o9 := own_base (base' := w.heap.size + 3) o9 (by have := hb6.size; omega)
  clear r0 r1 r2 t0 t1 t2 hHeld
  have ⟨_, r0, r1, r2⟩ := K9.r
  have t0 := K9.fz (w.heap.size + 2) 0 (by omega) (by omega)
  have t1 := K9.fz (w.heap.size + 2) 1 (by omega) (by omega)
  have t2 := K9.fz (w.heap.size + 2) 2 (by omega) (by omega)
  refine wpTop.one 27 rfl (by kernel_rfl) (fun K hK => ?_)
  go_simp

  refine hK.out _ _ (fun h => absurd h (by decide)) (fun hH => ?_)
  clear hK K
  clear hH
  try simp only [Act.put, List.setIfInBounds_toArray, List.set_cons_zero, List.set_cons_succ]
  refine wpTop.one 28 rfl (by kernel_rfl) (fun K hK => ?_)
  go_simp

  refine hK.out _ _ (fun h => absurd h (by decide)) (fun hH => ?_)
  clear hK K
  clear hH
  try simp only [Act.put, List.setIfInBounds_toArray, List.set_cons_zero, List.set_cons_succ]
  refine wpTop.all (by kernel_rfl) ?_ _
  go_wp2_with fail
  obtain ⟨e1, e2⟩ := K9.done (X := Z.1) (Y := Z.2.1) o9 (Nat.le_refl _)
  rw [hg, hp, hm, HZ.out]
  refine bodyPost_ret (v := .tuple #[.agg #[.int .i64 Z.1, .int .i64 Z.2.1, .slice A3 Z.2.2.1.length c3], .bool Z.2.2.2]) (by simp [results, Try.results90, go_sem, r0, r1, r2]) rfl ?_
  exact ⟨A3, c3, rfl, e2, e1⟩
end Go.Proofs.Ytnnhgblgbbfmpaa
