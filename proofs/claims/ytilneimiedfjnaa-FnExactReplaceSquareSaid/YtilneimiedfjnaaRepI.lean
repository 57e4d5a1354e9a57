/- ReplaceSquare of the program. -/
import Derived.Test.YtilneimiedfjnaaBesI
import Derived.Test.YtilneimiedfjnaaRepG
set_option linter.all false
namespace Go.Proofs.Ytilneimiedfjnaa
open Go.RowKit

set_option maxRecDepth 100000 in
set_option maxHeartbeats 16000000 in
theorem implReplace_any (W H : Int) (A : Option Addr) (n c : Nat) (L : List Sq) (k0 : Int) (V G : Int) (A' : Option Addr) (n' c' : Nat) (M : List Sq) (w : World) (hl : L.length = n) (hl' : M.length = n') (hc : n ≤ c) (hc' : n' ≤ c') (hL : SqsAt w w.heap.size A L) (hM : SqsAt w w.heap.size A' M) (hwf : ∀ s ∈ L, wfS s) (hwf' : ∀ s ∈ M, wfS s) :
    Calls Try.prog 26 #[.agg #[.int .i64 W, .int .i64 H, .slice A n c], .int .i64 k0, .agg #[.int .i64 V, .int .i64 G, .slice A' n' c']] w (RetT w (repT W H L k0 V G M)) := by
  subst hl
  subst hl'
  have K0 := BB.start w W H A L.length c V G A' M.length c'
  obtain ⟨W1, hW1⟩ : ∃ W1, W1 = (((w.alloc (.cells #[.int .i64 W, .int .i64 H, .slice A L.length c] 29)).alloc (.cells #[.int .i64 V, .int .i64 G, .slice A' M.length c'] 29)).alloc (.cells #[.int .i64 0, .int .i64 0, .slice none 0 0] 29)) := ⟨_, rfl⟩
  rw [← hW1] at K0
  by_cases hG : Good W H L
  · have hn0 := hG.2.2.1.2
    by_cases hk0 : k0 < 0
    · have d1 : decide (k0 < 0) = true := decide_eq_true hk0
      rw [repT_no fun h => by have := h.2.2.1; omega]
      have ⟨_, a0, a1, a2⟩ := K0.a
      have ⟨_, b0, b1, b2⟩ := K0.b
      have ⟨_, r0, r1, r2⟩ := K0.r
      have t0 := K0.fz (w.heap.size + 2) 0 (by omega) (by omega)
      have t1 := K0.fz (w.heap.size + 2) 1 (by omega) (by omega)
      have t2 := K0.fz (w.heap.size + 2) 2 (by omega) (by omega)
      have s0 := K0.size
      go_enter Try.func26, Try.ntmps26
      go_wp2_with fail
      rw [← hW1]
      refine (callB_yes (isCut_good W H _ _ c L _ rfl hc ((hL.below K0.below).mono K0.below.size) hwf) hG).mono ?_
      rintro e w1 ⟨rfl, hb1⟩
      have K1 := K0.next hb1
      clear a0 a1 a2 b0 b1 b2 r0 r1 r2 t0 t1 t2
      clear K0 hW1 hb1 s0
      have ⟨_, a0, a1, a2⟩ := K1.a
      have ⟨_, b0, b1, b2⟩ := K1.b
      have ⟨_, r0, r1, r2⟩ := K1.r
      have t0 := K1.fz (w.heap.size + 2) 0 (by omega) (by omega)
      have t1 := K1.fz (w.heap.size + 2) 1 (by omega) (by omega)
      have t2 := K1.fz (w.heap.size + 2) 2 (by omega) (by omega)
      have s0 := K1.size
      go_wp2_with fail
      have hB := ((K1.below.setCell (p := ⟨w.heap.size + 2, 0, none⟩) (by simp) (.int .i64 0)).setCell (p := ⟨w.heap.size + 2, 1, none⟩) (by simp) (.int .i64 0)).setCell (p := ⟨w.heap.size + 2, 2, none⟩) (by simp) (.slice none 0 0)
      refine bodyPost_ret (v := .tuple #[.agg #[.int .i64 0, .int .i64 0, .slice none 0 0], .bool false]) (by simp [results, Try.results26, go_sem, r0, r1, r2]) rfl ?_
      exact RetT.no hB
    · have d1 : decide (k0 < 0) = false := decide_eq_false hk0
      obtain ⟨k, rfl⟩ : ∃ k : Nat, k0 = k := ⟨k0.toNat, by omega⟩
      clear hk0
      by_cases hk1 : k < L.length
      · have d2 : decide ((L.length : Int) ≤ (k : Int)) = false := decide_eq_false (by omega)
        by_cases hK : Good V G M
        · by_cases hv : V = G
          · obtain ⟨s, hs⟩ : ∃ s, L[k]? = some s := ⟨_, List.getElem?_eq_getElem hk1⟩
            rw [repT_yes hG hK hs hv]
            have d3 : (V == G) = true := by simpa using hv
            have d4 : (V != G) = false := by simpa using hv
            have HV := Lib.hid hv
            clear hv
            obtain ⟨b, off, rfl, hb, q0, q1, q2⟩ := hL k s hs
            have hsd : 1 ≤ s.d ∧ s.d ≤ 500 := by have h := hG.2.2.2.1 k s hs; exact ⟨h.1.1, h.2.1⟩
            have HSS := Lib.hid hs
            clear hs
            have ⟨_, a0, a1, a2⟩ := K0.a
            have ⟨_, b0, b1, b2⟩ := K0.b
            have ⟨_, r0, r1, r2⟩ := K0.r
            have t0 := K0.fz (w.heap.size + 2) 0 (by omega) (by omega)
            have t1 := K0.fz (w.heap.size + 2) 1 (by omega) (by omega)
            have t2 := K0.fz (w.heap.size + 2) 2 (by omega) (by omega)
            have s0 := K0.size
            go_enter Try.func26, Try.ntmps26
            go_wp2_with fail
            rw [← hW1]
            refine (callB_yes (isCut_good W H _ _ c L _ rfl hc ((hL.below K0.below).mono K0.below.size) hwf) hG).mono ?_
            rintro e w1 ⟨rfl, hb1⟩
            have K1 := K0.next hb1
            clear a0 a1 a2 b0 b1 b2 r0 r1 r2 t0 t1 t2
            clear K0 hW1 hb1 s0
            have ⟨_, a0, a1, a2⟩ := K1.a
            have ⟨_, b0, b1, b2⟩ := K1.b
            have ⟨_, r0, r1, r2⟩ := K1.r
            have t0 := K1.fz (w.heap.size + 2) 0 (by omega) (by omega)
            have t1 := K1.fz (w.heap.size + 2) 1 (by omega) (by omega)
            have t2 := K1.fz (w.heap.size + 2) 2 (by omega) (by omega)
            have s0 := K1.size
            go_wp2_with fail
            refine (callB_yes (isCut_good V G A' _ c' M _ rfl hc' ((hM.below K1.below).mono K1.below.size) hwf') hK).mono ?_
            rintro e w2 ⟨rfl, hb2⟩
            have K2 := K1.next hb2
            clear a0 a1 a2 b0 b1 b2 r0 r1 r2 t0 t1 t2
            clear K1 hb2 s0
            have ⟨_, a0, a1, a2⟩ := K2.a
            have ⟨_, b0, b1, b2⟩ := K2.b
            have ⟨_, r0, r1, r2⟩ := K2.r
            have t0 := K2.fz (w.heap.size + 2) 0 (by omega) (by omega)
            have t1 := K2.fz (w.heap.size + 2) 1 (by omega) (by omega)
            have t2 := K2.fz (w.heap.size + 2) 2 (by omega) (by omega)
            have s0 := K2.size
            have B2 := Lib.hid K2.below
            have q2' : w2.cell? ⟨b, off + k * 3 + 2, none⟩ = some (.int .i64 s.d) := (K2.below.cell (p := ⟨b, _, none⟩) hb).trans q2
            have HS3 : ∀ w' : World, Below w2.heap.size w2 w' → w'.cell? ⟨w.heap.size, 2, none⟩ = some (.slice (some ⟨b, off, none⟩) L.length c) ∧ w'.cell? ⟨b, off + k * 3 + 2, none⟩ = some (.int .i64 s.d) ∧ w'.cell? ⟨w.heap.size + 1, 0, none⟩ = some (.int .i64 V) := fun w' hb' =>
              ⟨(hb'.cell (p := ⟨w.heap.size, 2, none⟩) (by show w.heap.size < _; omega)).trans a2, (hb'.cell (p := ⟨b, off + k * 3 + 2, none⟩) (by show b < _; omega)).trans q2', (hb'.cell (p := ⟨w.heap.size + 1, 0, none⟩) (by show w.heap.size + 1 < _; omega)).trans b0⟩
            have CL := lowest_i s.d V w2.drew hsd hK.1
            have kz : (0 : Int) ≤ (k : Int) := by omega
            have kl : (k : Int) < (L.length : Int) := by omega
            go_wp2_with fail
            refine wp_region_top 13 (fun w' => w'.cell? ⟨w.heap.size, 2, none⟩ = some (.slice (some ⟨b, off, none⟩) L.length c) ∧ w'.cell? ⟨b, off + k * 3 + 2, none⟩ = some (.int .i64 s.d) ∧ w'.cell? ⟨w.heap.size + 1, 0, none⟩ = some (.int .i64 V)) (by kernel_rfl) (HS3 _ ((Below.refl _ _).drew)) (fun hHeld => ?_)
            refine wpTop.take 0 (v := ?_) rfl (by kernel_rfl) (by kernel_rfl) (by kernel_rfl) (by kernel_rfl) (fun _ _ _ h => h) (Or.inl ⟨by rfl, ?_⟩) (by assumption) ?_
            rotate_left
            · intro w hSw; (try dsimp only at hSw); go_simp; try (with_reducible rfl)
            try simp only [Act.put, List.setIfInBounds_toArray, List.set_cons_zero, List.set_cons_succ]
            refine wpTop.take 1 (v := ?_) rfl (by kernel_rfl) (by kernel_rfl) (by kernel_rfl) (by kernel_rfl) (fun _ _ _ h => h) (Or.inl ⟨by rfl, ?_⟩) (by assumption) ?_
            rotate_left
            · intro w hSw; (try dsimp only at hSw); go_simp; try (with_reducible rfl)
            try simp only [Act.put, List.setIfInBounds_toArray, List.set_cons_zero, List.set_cons_succ]
            refine wpTop.take 2 (v := ?_) rfl (by kernel_rfl) (by kernel_rfl) (by kernel_rfl) (by kernel_rfl) (fun _ _ _ h => h) (Or.inl ⟨by rfl, ?_⟩) (by assumption) ?_
            rotate_left
            · intro w hSw; (try dsimp only at hSw); go_simp; try (with_reducible rfl)
            try simp only [Act.put, List.setIfInBounds_toArray, List.set_cons_zero, List.set_cons_succ]
            refine wpTop.take 3 (v := ?_) rfl (by kernel_rfl) (by kernel_rfl) (by kernel_rfl) (by kernel_rfl) (fun _ _ _ h => h) (Or.inl ⟨by rfl, ?_⟩) (by assumption) ?_
            rotate_left
            · intro w hSw; (try dsimp only at hSw); go_simp; try (with_reducible rfl)
            try simp only [Act.put, List.setIfInBounds_toArray, List.set_cons_zero, List.set_cons_succ]
            refine wpTop.take 4 (v := ?_) rfl (by kernel_rfl) (by kernel_rfl) (by kernel_rfl) (by kernel_rfl) (fun _ _ _ h => h) (Or.inl ⟨by rfl, ?_⟩) (by assumption) ?_
            rotate_left
            · intro w hSw; (try dsimp only at hSw); go_simp; try (with_reducible rfl)
            try simp only [Act.put, List.setIfInBounds_toArray, List.set_cons_zero, List.set_cons_succ]
            refine wpTop.take 5 (v := ?_) rfl (by kernel_rfl) (by kernel_rfl) (by kernel_rfl) (by kernel_rfl) (fun _ _ _ h => h) (Or.inl ⟨by rfl, ?_⟩) (by assumption) ?_
            rotate_left
            · intro w hSw; (try dsimp only at hSw); go_simp; try (with_reducible rfl)
            try simp only [Act.put, List.setIfInBounds_toArray, List.set_cons_zero, List.set_cons_succ]
            refine wpTop.take 6 (v := ?_) rfl (by kernel_rfl) (by kernel_rfl) (by kernel_rfl) (by kernel_rfl) (fun _ _ _ h => h) (Or.inl ⟨by rfl, ?_⟩) (by assumption) ?_
            rotate_left
            · intro w hSw; (try dsimp only at hSw); go_simp; try (with_reducible rfl)
            try simp only [Act.put, List.setIfInBounds_toArray, List.set_cons_zero, List.set_cons_succ]
            refine wpTop.take 7 (v := ?_) rfl (by kernel_rfl) (by kernel_rfl) (by kernel_rfl) (by kernel_rfl) (fun _ _ _ h => h) (Or.inl ⟨by rfl, ?_⟩) (by assumption) ?_
            rotate_left
            · intro w hSw; (try dsimp only at hSw); go_simp; try (with_reducible rfl)
            try simp only [Act.put, List.setIfInBounds_toArray, List.set_cons_zero, List.set_cons_succ]
            refine wpTop.one 8 rfl (by kernel_rfl) (fun K hK => ?_)
            go_simp
            (with_reducible refine CL.mono ?_)
            rintro e w3 ⟨rfl, hb3'⟩
            have hb3 : Below w2.heap.size w2 w3 := ((Below.refl w2.heap.size w2).drew).trans hb3'
            refine hK.out _ _ (fun _ => HS3 _ hb3) (fun hH => ?_)
            clear hK K
            have hHeld := hH (by decide)
            clear hH
            try simp only [Act.put, List.setIfInBounds_toArray, List.set_cons_zero, List.set_cons_succ]
            refine wpTop.take 9 (v := ?_) rfl (by kernel_rfl) (by kernel_rfl) (by kernel_rfl) (by kernel_rfl) (fun _ _ _ h => h) (Or.inl ⟨by rfl, ?_⟩) (by assumption) ?_
            rotate_left
            · intro w hSw; (try dsimp only at hSw); go_simp; try (with_reducible rfl)
            try simp only [Act.put, List.setIfInBounds_toArray, List.set_cons_zero, List.set_cons_succ]
            refine wpTop.take 10 (v := ?_) rfl (by kernel_rfl) (by kernel_rfl) (by kernel_rfl) (by kernel_rfl) (fun _ _ _ h => h) (Or.inl ⟨by rfl, ?_⟩) (by assumption) ?_
            rotate_left
            · intro w hSw; (try dsimp only at hSw); go_simp; try (with_reducible rfl)
            try simp only [Act.put, List.setIfInBounds_toArray, List.set_cons_zero, List.set_cons_succ]
            refine wpTop.take 11 (v := ?_) rfl (by kernel_rfl) (by kernel_rfl) (by kernel_rfl) (by kernel_rfl) (fun _ _ _ h => h) (Or.inl ⟨by rfl, ?_⟩) (by assumption) ?_
            rotate_left
            · intro w hSw; (try dsimp only at hSw); go_simp; try (with_reducible rfl)
            try simp only [Act.put, List.setIfInBounds_toArray, List.set_cons_zero, List.set_cons_succ]
            refine wpTop.one 12 rfl (by kernel_rfl) (fun K hK => ?_)
            go_simp

            refine hK.out _ _ (fun _ => hHeld) (fun hH => ?_)
            clear hK K
            clear hH
            try simp only [Act.put, List.setIfInBounds_toArray, List.set_cons_zero, List.set_cons_succ]
            refine wpTop.one 13 rfl (by kernel_rfl) (fun K hK => ?_)
            go_simp

            refine hK.out _ _ (fun h => absurd h (by decide)) (fun hH => ?_)
            clear hK K
            clear hH
            try simp only [Act.put, List.setIfInBounds_toArray, List.set_cons_zero, List.set_cons_succ]
            refine wpTop.all (by kernel_rfl) ?_ _
            have K3 := K2.next hb3
            clear a0 a1 a2 b0 b1 b2 r0 r1 r2 t0 t1 t2
            clear K2 s0 CL HS3 hb3' hHeld
            have ⟨_, a0, a1, a2⟩ := K3.a
            have ⟨_, b0, b1, b2⟩ := K3.b
            have ⟨_, r0, r1, r2⟩ := K3.r
            have t0 := K3.fz (w.heap.size + 2) 0 (by omega) (by omega)
            have t1 := K3.fz (w.heap.size + 2) 1 (by omega) (by omega)
            have t2 := K3.fz (w.heap.size + 2) 2 (by omega) (by omega)
            have s0 := K3.size
            obtain ⟨⟨m1, m2⟩, ⟨m3, m4⟩, m5⟩ := gd_fit hsd hK.1
            obtain ⟨p, hp⟩ : ∃ p, s.d / gd s.d V = p := ⟨_, rfl⟩
            obtain ⟨m, hm⟩ : ∃ m, V / gd s.d V = m := ⟨_, rfl⟩
            rw [hp] at m1 m2 ⊢
            rw [hm] at m3 m4 ⊢
            go_wp2_with fail
            go_upto_region 5 with fail
            have HS : ∀ w' : World, Below w3.heap.size w3 w' → w'.cell? ⟨w.heap.size + 1, 0, none⟩ = some (.int .i64 V) ∧ w'.cell? ⟨w.heap.size + 1, 1, none⟩ = some (.int .i64 G) ∧ w'.cell? ⟨w.heap.size + 1, 2, none⟩ = some (.slice A' M.length c') := fun w' hb =>
              ⟨(hb.cell (p := ⟨w.heap.size + 1, 0, none⟩) (by show w.heap.size + 1 < _; omega)).trans b0, (hb.cell (p := ⟨w.heap.size + 1, 1, none⟩) (by show w.heap.size + 1 < _; omega)).trans b1, (hb.cell (p := ⟨w.heap.size + 1, 2, none⟩) (by show w.heap.size + 1 < _; omega)).trans b2⟩
            have B3 := Lib.hid K3.below
            obtain ⟨X1, hX1⟩ : ∃ x, m * W = x := ⟨_, rfl⟩
            obtain ⟨Y1, hY1⟩ : ∃ x, m * H = x := ⟨_, rfl⟩
            obtain ⟨X2, hX2⟩ : ∃ x, p * V = x := ⟨_, rfl⟩
            obtain ⟨Y2, hY2⟩ : ∃ x, p * G = x := ⟨_, rfl⟩
            have C1 : ∀ w' : World, Below w3.heap.size w3 w' → Calls Try.prog 69 #[.agg #[.int .i64 W, .int .i64 H, .slice (some ⟨b, off, none⟩) L.length c], .int .i64 m, .int .i64 1] w' fun e w'' => ∃ A' c', e = .returned (.agg #[.int .i64 X1, .int .i64 Y1, .slice A' L.length c']) ∧ w''.ownsRow w'.heap.size 65 3 (.slice A' L.length c') L.length (flat (growL m L)) ∧ Below w'.heap.size w' w'' := fun w' hb => by
              rw [← hX1, ← hY1]
              exact scaledK_any W H _ L.length c L m w' rfl hc ((hL.below (B3.out.trans (hb.mono B3.out.size))).mono (Nat.le_trans B3.out.size hb.size)) hG m3 m4
            have C2 : ∀ w' : World, Below w3.heap.size w3 w' → Calls Try.prog 69 #[.agg #[.int .i64 V, .int .i64 G, .slice A' M.length c'], .int .i64 p, .int .i64 1] w' fun e w'' => ∃ A2 c2, e = .returned (.agg #[.int .i64 X2, .int .i64 Y2, .slice A2 M.length c2]) ∧ w''.ownsRow w'.heap.size 65 3 (.slice A2 M.length c2) M.length (flat (growL p M)) ∧ Below w'.heap.size w' w'' := fun w' hb => by
              rw [← hX2, ← hY2]
              exact scaledK_any V G A' M.length c' M p w' rfl hc' ((hM.below (B3.out.trans (hb.mono B3.out.size))).mono (Nat.le_trans B3.out.size hb.size)) hK m1 m2
            go_cut [] (fun wx => ∃ A1 c1 A2 c2, BB w X1 Y1 A1 L.length c1 X2 Y2 A2 M.length c2 wx ∧ wx.ownsRow (w.heap.size + 3) 65 3 (.slice A1 L.length c1) L.length (flat (growL m L)) ∧ wx.ownsRow (w.heap.size + 3) 65 3 (.slice A2 M.length c2) M.length (flat (growL p M)))
            case first =>
              refine wp_region_top 7 (fun w' => w'.cell? ⟨w.heap.size + 1, 0, none⟩ = some (.int .i64 V) ∧ w'.cell? ⟨w.heap.size + 1, 1, none⟩ = some (.int .i64 G) ∧ w'.cell? ⟨w.heap.size + 1, 2, none⟩ = some (.slice A' M.length c')) (by kernel_rfl) (HS _ ((Below.refl _ _).drew)) (fun hHeld => ?_)
              refine wpTop.take 3 (v := ?_) rfl (by kernel_rfl) (by kernel_rfl) (by kernel_rfl) (by kernel_rfl) (fun _ _ _ h => h) (Or.inl ⟨by rfl, ?_⟩) (by assumption) ?_
              rotate_left
              · intro w hSw; (try dsimp only at hSw); go_simp; try (with_reducible rfl)
              try simp only [Act.put, List.setIfInBounds_toArray, List.set_cons_zero, List.set_cons_succ]
              refine wpTop.take 4 (v := ?_) rfl (by kernel_rfl) (by kernel_rfl) (by kernel_rfl) (by kernel_rfl) (fun _ _ _ h => h) (Or.inl ⟨by rfl, ?_⟩) (by assumption) ?_
              rotate_left
              · intro w hSw; (try dsimp only at hSw); go_simp; try (with_reducible rfl)
              try simp only [Act.put, List.setIfInBounds_toArray, List.set_cons_zero, List.set_cons_succ]
              refine wpTop.take 1 (v := ?_) rfl (by kernel_rfl) (by kernel_rfl) (by kernel_rfl) (by kernel_rfl) (fun _ _ _ h => h) (Or.inl ⟨by rfl, ?_⟩) (by assumption) ?_
              rotate_left
              · intro w hSw; (try dsimp only at hSw); go_simp; try (with_reducible rfl)
              try simp only [Act.put, List.setIfInBounds_toArray, List.set_cons_zero, List.set_cons_succ]
              refine wpTop.one 0 rfl (by kernel_rfl) (fun K hK => ?_)
              go_simp

              refine hK.out _ _ (fun _ => hHeld) (fun hH => ?_)
              clear hK K
              have hHeld := hH (by decide)
              clear hH
              try simp only [Act.put, List.setIfInBounds_toArray, List.set_cons_zero, List.set_cons_succ]
              refine wpTop.one 2 rfl (by kernel_rfl) (fun K hK => ?_)
              go_simp
              (with_reducible refine (C1 _ ((Below.refl _ _).drew)).mono ?_)
              rintro e w4 ⟨A1, c1, rfl, o1, hb4'⟩
              have hb4 : Below w3.heap.size w3 w4 := ((Below.refl w3.heap.size w3).drew).trans hb4'
              clear hb4'
              refine hK.out _ _ (fun _ => HS _ hb4) (fun hH => ?_)
              clear hK K
              have hHeld := hH (by decide)
              clear hH
              try simp only [Act.put, List.setIfInBounds_toArray, List.set_cons_zero, List.set_cons_succ]
              refine wpTop.one 5 rfl (by kernel_rfl) (fun K hK => ?_)
              go_simp
              (with_reducible refine (C2 _ hb4).mono ?_)
              rintro e w5 ⟨A2, c2, rfl, o2, hb5'⟩
              have hb5 : Below w3.heap.size w3 w5 := hb4.trans (hb5'.mono hb4.size)
              have o1 := own_keep o1 hb5'
              refine hK.out _ _ (fun _ => HS _ hb5) (fun hH => ?_)
              clear hK K
              have hHeld := hH (by decide)
              clear hH
              try simp only [Act.put, List.setIfInBounds_toArray, List.set_cons_zero, List.set_cons_succ]
              have K5 := K3.next hb5
              clear a0 a1 a2 b0 b1 b2 r0 r1 r2 t0 t1 t2 s0 hHeld
              have ⟨_, a0, a1, a2⟩ := K5.a
              have ⟨_, b0, b1, b2⟩ := K5.b
              have ⟨_, r0, r1, r2⟩ := K5.r
              have f0 := K5.fz w.heap.size 0 (by omega) (by omega)
              have f1 := K5.fz w.heap.size 1 (by omega) (by omega)
              have f2 := K5.fz w.heap.size 2 (by omega) (by omega)
              have f3 := K5.fz (w.heap.size + 1) 0 (by omega) (by omega)
              have f4 := K5.fz (w.heap.size + 1) 1 (by omega) (by omega)
              have f5 := K5.fz (w.heap.size + 1) 2 (by omega) (by omega)
              have t0 := K5.fz (w.heap.size + 2) 0 (by omega) (by omega)
              have t1 := K5.fz (w.heap.size + 2) 1 (by omega) (by omega)
              have t2 := K5.fz (w.heap.size + 2) 2 (by omega) (by omega)
              have s0 := K5.size
              refine wpTop.one 6 rfl (by kernel_rfl) (fun K hK => ?_)
              go_simp

              refine hK.out _ _ (fun _ => ⟨by simp [go_sem, b0], by simp [go_sem, b1], by simp [go_sem, b2]⟩) (fun hH => ?_)
              clear hK K
              clear hH
              try simp only [Act.put, List.setIfInBounds_toArray, List.set_cons_zero, List.set_cons_succ]
              refine wpTop.one 7 rfl (by kernel_rfl) (fun K hK => ?_)
              go_simp

              refine hK.out _ _ (fun h => absurd h (by decide)) (fun hH => ?_)
              clear hK K
              clear hH
              try simp only [Act.put, List.setIfInBounds_toArray, List.set_cons_zero, List.set_cons_succ]
              refine wpTop.all (by kernel_rfl) ?_ _
              go_wp2_with fail
              go_meet
              exact ⟨A1, c1, A2, c2, K5.put _ _ _ _ _ _ _ _ _ _, own_put6 (own_base o1 (by simpa using K3.size)) (by omega) _ _ _ _ _ _, own_put6 (own_base o2 (by have := K3.size; have := hb4.size; omega)) (by omega) _ _ _ _ _ _⟩
            obtain ⟨A1, c1, A2, c2, KC, o1, o2⟩ := hcut
            obtain ⟨w6, hw6⟩ : ∃ w6, w6 = wc := ⟨_, rfl⟩
            rw [← hw6] at KC o1 o2 ⊢
            clear hw6 a0 a1 a2 b0 b1 b2 r0 r1 r2 t0 t1 t2 s0 C1 C2 HS K3
            obtain ⟨g1, rfl⟩ := own_form o1 (by omega)
            have q1 := sqs_of_own o1
            have hgk : (growL m L)[k]? = some (growS m s) := by simp [growL, HSS.out]
            obtain ⟨gb, go, ge, gl, g0c, g1c, g2c⟩ := q1 k (growS m s) hgk
            simp only [Option.some.injEq, Addr.mk.injEq] at ge
            obtain ⟨rfl, rfl, _⟩ := ge
            simp only [Nat.zero_add] at g0c g1c g2c
            obtain ⟨gx, hgx⟩ : ∃ x, m * s.x = x := ⟨_, rfl⟩
            obtain ⟨gy, hgy⟩ : ∃ x, m * s.y = x := ⟨_, rfl⟩
            obtain ⟨gz, hgz⟩ : ∃ x, m * s.d = x := ⟨_, rfl⟩
            have e0 : w6.cell? ⟨g1, k * 3, none⟩ = some (.int .i64 gx) := by rw [g0c, ← hgx]; rfl
            have e1 : w6.cell? ⟨g1, k * 3 + 1, none⟩ = some (.int .i64 gy) := by rw [g1c, ← hgy]; rfl
            have e2 : w6.cell? ⟨g1, k * 3 + 2, none⟩ = some (.int .i64 gz) := by rw [g2c, ← hgz]; rfl
            clear g0c g1c g2c
            have ⟨_, a0, a1, a2⟩ := KC.a
            have ⟨_, b0, b1, b2⟩ := KC.b
            have ⟨_, r0, r1, r2⟩ := KC.r
            have t0 := KC.fz (w.heap.size + 2) 0 (by omega) (by omega)
            have t1 := KC.fz (w.heap.size + 2) 1 (by omega) (by omega)
            have t2 := KC.fz (w.heap.size + 2) 2 (by omega) (by omega)
            have s0 := KC.size
            have gm := grow_small hG m3 m4
            have gp := grow_small hK m1 m2
            have gk := gm (growS m s) (List.mem_of_getElem? hgk)
            have gkx : 0 ≤ gx ∧ gx ≤ 250000 := by rw [← hgx]; exact gk.1
            have gky : 0 ≤ gy ∧ gy ≤ 250000 := by rw [← hgy]; exact gk.2.1
            clear hgk gk
            go_wp2_with fail
            obtain ⟨w7, hw7⟩ : ∃ w7, w7 = w6.alloc (.cells #[.int .i64 gx, .int .i64 gy, .int .i64 gz] 65) := ⟨_, rfl⟩
            have hb67 : Below w6.heap.size w6 w7 := by rw [hw7]; exact (Below.refl _ _).alloc (Nat.le_refl _) _
            have x10 : w7.cell? ⟨w6.heap.size, 0, none⟩ = some (.int .i64 gx) := by rw [hw7]; simp
            have x11 : w7.cell? ⟨w6.heap.size, 1, none⟩ = some (.int .i64 gy) := by rw [hw7]; simp
            have hs67 : w6.heap.size < w7.heap.size := by rw [hw7]; simp
            have K7 := KC.next hb67
            have o1 := own_keep o1 hb67
            have o2 := own_keep o2 hb67
            rw [← hw7]
            clear a0 a1 a2 b0 b1 b2 r0 r1 r2 t0 t1 t2
            clear hw7 hb67 s0 KC e0 e1 e2 q1
            have ⟨_, a0, a1, a2⟩ := K7.a
            have ⟨_, b0, b1, b2⟩ := K7.b
            have ⟨_, r0, r1, r2⟩ := K7.r
            have t0 := K7.fz (w.heap.size + 2) 0 (by omega) (by omega)
            have t1 := K7.fz (w.heap.size + 2) 1 (by omega) (by omega)
            have t2 := K7.fz (w.heap.size + 2) 2 (by omega) (by omega)
            have s0 := K7.size
            have HS : ∀ w' : World, Below w7.heap.size w7 w' → w'.cell? ⟨w.heap.size, 0, none⟩ = some (.int .i64 X1) ∧ w'.cell? ⟨w.heap.size, 1, none⟩ = some (.int .i64 Y1) ∧ w'.cell? ⟨w.heap.size, 2, none⟩ = some (.slice (some ⟨g1, 0, none⟩) L.length c1) ∧ w'.cell? ⟨w.heap.size + 1, 2, none⟩ = some (.slice A2 M.length c2) ∧ w'.cell? ⟨w6.heap.size, 0, none⟩ = some (.int .i64 gx) ∧ w'.cell? ⟨w6.heap.size, 1, none⟩ = some (.int .i64 gy) := fun w' hb =>
              ⟨(hb.cell (p := ⟨w.heap.size, 0, none⟩) (by show w.heap.size < _; omega)).trans a0, (hb.cell (p := ⟨w.heap.size, 1, none⟩) (by show w.heap.size < _; omega)).trans a1, (hb.cell (p := ⟨w.heap.size, 2, none⟩) (by show w.heap.size < _; omega)).trans a2, (hb.cell (p := ⟨w.heap.size + 1, 2, none⟩) (by show w.heap.size + 1 < _; omega)).trans b2, (hb.cell (p := ⟨w6.heap.size, 0, none⟩) hs67).trans x10, (hb.cell (p := ⟨w6.heap.size, 1, none⟩) hs67).trans x11⟩
            have lg1 : (growL m L).length = L.length := growL_len m L
            have lg2 : (growL p M).length = M.length := growL_len p M
            have hn2 := hK.2.2.1.2
            have wz : IntKind.i64.wrap ((k : Int) + 1) = (k : Int) + 1 := IntWalk.i64_in _ (by omega)
            have q1 := sqs_of_own o1
            have q2 := sqs_of_own o2
            have d1' := own_cap o1
            have C1 : ∀ w' : World, Below w7.heap.size w7 w' → Calls Try.prog 59 #[.slice A2 M.length c2, .int .i64 gx, .int .i64 gy] w' (RetQ w' (J.mvL gx gy (growL p M))) := fun w' hb =>
              moved_any A2 M.length c2 (growL p M) gx gy w' lg2 (by omega) ((q2.below hb).mono hb.size) (fun s hs => by have := gp s hs; unfold SmallS; omega) (by omega) (by omega)
            have kc1 : (k : Int) ≤ (c1 : Int) := by omega
            have kz1 : (0 : Int) ≤ (k : Int) + 1 := by omega
            have kl1 : (k : Int) + 1 ≤ (L.length : Int) := by omega
            have kl2 : (L.length : Int) ≤ (c1 : Int) := by omega
            have HK7 := Lib.hid K7
            have z1 := own_nil0 o1
            have lt1 : ((growL m L).take k).length = k := by rw [List.length_take, lg1]; omega
            have lt2 : ((growL m L).drop (k + 1)).length = L.length - (k + 1) := by rw [List.length_drop, lg1]
            obtain ⟨AB, hAB⟩ : ∃ x, (if c1 = k + 1 then some (⟨g1, 0, none⟩ : Addr) else some ⟨g1, (k + 1) * 3, none⟩) = x := ⟨_, rfl⟩
            have qA : SqsAt w7 w7.heap.size (some ⟨g1, 0, none⟩) ((growL m L).take k) := q1.take k
            have qB : SqsAt w7 w7.heap.size AB ((growL m L).drop (k + 1)) := by
              by_cases he : c1 = k + 1
              · intro i q hq
                have := (List.getElem?_eq_some_iff.1 hq).1
                omega
              · rw [← hAB, if_neg he]
                exact q1.drop (k + 1)
            have nB : AB = none → False := by rw [← hAB]; split <;> simp
            have HAB := Lib.hid hAB
            clear hAB
            have hperm := rp_perm m p L k s M
            have hMk : Mk (W * m) (H * m) (rpL m p L k s M) = Mk X1 Y1 ([(growL m L).take k, (growL m L).drop (k + 1), J.mvL gx gy (growL p M)] : List (List Sq)).flatten := by
              rw [← hgx, ← hgy, Mk_perm hperm, ← hX1, ← hY1, Int.mul_comm m W, Int.mul_comm m H]
            have lg3 : (J.mvL gx gy (growL p M)).length = M.length := by rw [J.mvL_len]; exact lg2
            have hwfR : ∀ q ∈ ([(growL m L).take k, (growL m L).drop (k + 1), J.mvL gx gy (growL p M)] : List (List Sq)).flatten, wfS q := by
              intro q hq
              simp only [List.flatten_cons, List.flatten_nil, List.append_nil, List.mem_append] at hq
              rcases hq with hq | hq | hq
              · have := gm q (List.mem_of_mem_take hq); exact wf_small (m := 250000) (by decide) (by omega)
              · have := gm q (List.mem_of_mem_drop hq); exact wf_small (m := 250000) (by decide) (by omega)
              · obtain ⟨r, hr, rfl⟩ := List.mem_map.1 hq
                have := gp r hr
                exact wf_small (m := 500000) (by decide) (by simp only [J.mvS]; omega)
            have hflen : ([(growL m L).take k, (growL m L).drop (k + 1), J.mvL gx gy (growL p M)] : List (List Sq)).flatten.length ≤ 60 := by
              simp only [List.flatten_cons, List.flatten_nil, List.append_nil, List.length_append, lt1, lt2, lg3]; omega
            obtain ⟨Q2, hQ2⟩ : ∃ Q, Q = J.mvL gx gy (growL p M) := ⟨_, rfl⟩
            obtain ⟨P1, hP1⟩ : ∃ Q, Q = (growL m L).take k := ⟨_, rfl⟩
            obtain ⟨P2, hP2⟩ : ∃ Q, Q = (growL m L).drop (k + 1) := ⟨_, rfl⟩
            rw [← hQ2] at C1 lg3 hflen hwfR hMk
            rw [← hP1] at lt1 qA hflen hwfR hMk
            rw [← hP2] at lt2 qB hflen hwfR hMk
            obtain ⟨F, hF⟩ : ∃ F, ([P1, P2, Q2] : List (List Sq)).flatten = F := ⟨_, rfl⟩
            have HFQ := Lib.hid hF
            rw [hF] at hflen hwfR hMk
            have HMk := Lib.hid hMk
            have HLT := Lib.hid (And.intro lt1 lt2)
            obtain ⟨fl, hfl⟩ : ∃ n, F.length = n := ⟨_, rfl⟩
            rw [hfl] at hflen
            have HFL := Lib.hid hfl
            clear q1 q2 o2 K7 hperm hMk hF hQ2 hP1 hP2 gm gp hX1 hX2 hY1 hY2 hgx hgy hgz lt1 lt2 hfl
            refine wp_region_top 25 (fun w' => w'.cell? ⟨w.heap.size, 0, none⟩ = some (.int .i64 X1) ∧ w'.cell? ⟨w.heap.size, 1, none⟩ = some (.int .i64 Y1) ∧ w'.cell? ⟨w.heap.size, 2, none⟩ = some (.slice (some ⟨g1, 0, none⟩) L.length c1) ∧ w'.cell? ⟨w.heap.size + 1, 2, none⟩ = some (.slice A2 M.length c2) ∧ w'.cell? ⟨w6.heap.size, 0, none⟩ = some (.int .i64 gx) ∧ w'.cell? ⟨w6.heap.size, 1, none⟩ = some (.int .i64 gy)) (by kernel_rfl) (HS _ ((Below.refl _ _).drew)) (fun hHeld => ?_)
            refine wpTop.take 0 (v := ?_) rfl (by kernel_rfl) (by kernel_rfl) (by kernel_rfl) (by kernel_rfl) (fun _ _ _ h => h) (Or.inl ⟨by rfl, ?_⟩) (by assumption) ?_
            rotate_left
            · intro w hSw; (try dsimp only at hSw); go_simp; try (with_reducible rfl)
            try simp only [Act.put, List.setIfInBounds_toArray, List.set_cons_zero, List.set_cons_succ, List.getElem_toArray, List.getElem_cons_zero, List.getElem_cons_succ]
            refine wpTop.take 1 (v := ?_) rfl (by kernel_rfl) (by kernel_rfl) (by kernel_rfl) (by kernel_rfl) (fun _ _ _ h => h) (Or.inl ⟨by rfl, ?_⟩) (by assumption) ?_
            rotate_left
            · intro w hSw; (try dsimp only at hSw); go_simp; try (with_reducible rfl)
            try simp only [Act.put, List.setIfInBounds_toArray, List.set_cons_zero, List.set_cons_succ, List.getElem_toArray, List.getElem_cons_zero, List.getElem_cons_succ]
            refine wpTop.take 2 (v := ?_) rfl (by kernel_rfl) (by kernel_rfl) (by kernel_rfl) (by kernel_rfl) (fun _ _ _ h => h) (Or.inl ⟨by rfl, ?_⟩) (by assumption) ?_
            rotate_left
            · intro w hSw; (try dsimp only at hSw); go_simp; try (with_reducible rfl)
            try simp only [Act.put, List.setIfInBounds_toArray, List.set_cons_zero, List.set_cons_succ, List.getElem_toArray, List.getElem_cons_zero, List.getElem_cons_succ]
            refine wpTop.take 3 (v := ?_) rfl (by kernel_rfl) (by kernel_rfl) (by kernel_rfl) (by kernel_rfl) (fun _ _ _ h => h) (Or.inl ⟨by rfl, ?_⟩) (by assumption) ?_
            rotate_left
            · intro w hSw; (try dsimp only at hSw); go_simp; try (with_reducible rfl)
            try simp only [Act.put, List.setIfInBounds_toArray, List.set_cons_zero, List.set_cons_succ, List.getElem_toArray, List.getElem_cons_zero, List.getElem_cons_succ]
            refine wpTop.take 4 (v := ?_) rfl (by kernel_rfl) (by kernel_rfl) (by kernel_rfl) (by kernel_rfl) (fun _ _ _ h => h) (Or.inl ⟨by rfl, ?_⟩) (by assumption) ?_
            rotate_left
            · intro w hSw; (try dsimp only at hSw); go_simp; try (with_reducible rfl)
            try simp only [Act.put, List.setIfInBounds_toArray, List.set_cons_zero, List.set_cons_succ, List.getElem_toArray, List.getElem_cons_zero, List.getElem_cons_succ]
            refine wpTop.take 5 (v := ?_) rfl (by kernel_rfl) (by kernel_rfl) (by kernel_rfl) (by kernel_rfl) (fun _ _ _ h => h) (Or.inl ⟨by rfl, ?_⟩) (by assumption) ?_
            rotate_left
            · intro w hSw; (try dsimp only at hSw); go_simp; try (with_reducible rfl)
            try simp only [Act.put, List.setIfInBounds_toArray, List.set_cons_zero, List.set_cons_succ, List.getElem_toArray, List.getElem_cons_zero, List.getElem_cons_succ]
            refine wpTop.take 6 (v := ?_) rfl (by kernel_rfl) (by kernel_rfl) (by kernel_rfl) (by kernel_rfl) (fun _ _ _ h => h) (Or.inl ⟨by rfl, ?_⟩) (by assumption) ?_
            rotate_left
            · intro w hSw; (try dsimp only at hSw); go_simp; try (with_reducible rfl)
            try simp only [Act.put, List.setIfInBounds_toArray, List.set_cons_zero, List.set_cons_succ, List.getElem_toArray, List.getElem_cons_zero, List.getElem_cons_succ]
            refine wpTop.take 7 (v := ?_) rfl (by kernel_rfl) (by kernel_rfl) (by kernel_rfl) (by kernel_rfl) (fun _ _ _ h => h) (Or.inl ⟨by rfl, ?_⟩) (by assumption) ?_
            rotate_left
            · intro w hSw; (try dsimp only at hSw); go_simp; try (with_reducible rfl)
            try simp only [Act.put, List.setIfInBounds_toArray, List.set_cons_zero, List.set_cons_succ, List.getElem_toArray, List.getElem_cons_zero, List.getElem_cons_succ]
            refine wpTop.take 8 (v := ?_) rfl (by kernel_rfl) (by kernel_rfl) (by kernel_rfl) (by kernel_rfl) (fun _ _ _ h => h) (Or.inl ⟨by rfl, ?_⟩) (by assumption) ?_
            rotate_left
            · intro w hSw; (try dsimp only at hSw); go_simp; try (with_reducible rfl)
            try simp only [Act.put, List.setIfInBounds_toArray, List.set_cons_zero, List.set_cons_succ, List.getElem_toArray, List.getElem_cons_zero, List.getElem_cons_succ]
            refine wpTop.take 9 (v := ?_) rfl (by kernel_rfl) (by kernel_rfl) (by kernel_rfl) (by kernel_rfl) (fun _ _ _ h => h) (Or.inl ⟨by rfl, ?_⟩) (by assumption) ?_
            rotate_left
            · intro w hSw; (try dsimp only at hSw); go_simp; try (with_reducible rfl)
            try simp only [Act.put, List.setIfInBounds_toArray, List.set_cons_zero, List.set_cons_succ, List.getElem_toArray, List.getElem_cons_zero, List.getElem_cons_succ]
            refine wpTop.take 10 (v := ?_) rfl (by kernel_rfl) (by kernel_rfl) (by kernel_rfl) (by kernel_rfl) (fun _ _ _ h => h) (Or.inl ⟨by rfl, ?_⟩) (by assumption) ?_
            rotate_left
            · intro w hSw; (try dsimp only at hSw); go_simp; try (with_reducible rfl)
            try simp only [Act.put, List.setIfInBounds_toArray, List.set_cons_zero, List.set_cons_succ, List.getElem_toArray, List.getElem_cons_zero, List.getElem_cons_succ]
            refine wpTop.take 11 (v := ?_) rfl (by kernel_rfl) (by kernel_rfl) (by kernel_rfl) (by kernel_rfl) (fun _ _ _ h => h) (Or.inl ⟨by rfl, ?_⟩) (by assumption) ?_
            rotate_left
            · intro w hSw; (try dsimp only at hSw); go_simp; try (with_reducible rfl)
            try simp only [Act.put, List.setIfInBounds_toArray, List.set_cons_zero, List.set_cons_succ, List.getElem_toArray, List.getElem_cons_zero, List.getElem_cons_succ]
            refine wpTop.take 12 (v := ?_) rfl (by kernel_rfl) (by kernel_rfl) (by kernel_rfl) (by kernel_rfl) (fun _ _ _ h => h) (Or.inl ⟨by rfl, ?_⟩) (by assumption) ?_
            rotate_left
            · intro w hSw; (try dsimp only at hSw); go_simp; try (with_reducible rfl)
            try simp only [Act.put, List.setIfInBounds_toArray, List.set_cons_zero, List.set_cons_succ, List.getElem_toArray, List.getElem_cons_zero, List.getElem_cons_succ]
            refine wpTop.take 13 (v := ?_) rfl (by kernel_rfl) (by kernel_rfl) (by kernel_rfl) (by kernel_rfl) (fun _ _ _ h => h) (Or.inl ⟨by rfl, ?_⟩) (by assumption) ?_
            rotate_left
            · intro w hSw; (try dsimp only at hSw); go_simp; try (with_reducible rfl)
            try simp only [Act.put, List.setIfInBounds_toArray, List.set_cons_zero, List.set_cons_succ, List.getElem_toArray, List.getElem_cons_zero, List.getElem_cons_succ]
            refine wpTop.take 14 (v := ?_) rfl (by kernel_rfl) (by kernel_rfl) (by kernel_rfl) (by kernel_rfl) (fun _ _ _ h => h) (Or.inl ⟨by rfl, ?_⟩) (by assumption) ?_
            rotate_left
            · intro w hSw; (try dsimp only at hSw); go_simp; try (with_reducible rfl)
            try simp only [Act.put, List.setIfInBounds_toArray, List.set_cons_zero, List.set_cons_succ, List.getElem_toArray, List.getElem_cons_zero, List.getElem_cons_succ]
            refine wpTop.take 15 (v := ?_) rfl (by kernel_rfl) (by kernel_rfl) (by kernel_rfl) (by kernel_rfl) (fun _ _ _ h => h) (Or.inl ⟨by rfl, ?_⟩) (by assumption) ?_
            rotate_left
            · intro w hSw; (try dsimp only at hSw); go_simp; try (with_reducible rfl)
            try simp only [Act.put, List.setIfInBounds_toArray, List.set_cons_zero, List.set_cons_succ, List.getElem_toArray, List.getElem_cons_zero, List.getElem_cons_succ]
            refine wpTop.take 16 (v := ?_) rfl (by kernel_rfl) (by kernel_rfl) (by kernel_rfl) (by kernel_rfl) (fun _ _ _ h => h) (Or.inl ⟨by rfl, ?_⟩) (by assumption) ?_
            rotate_left
            · intro w hSw; (try dsimp only at hSw); go_simp; try (with_reducible rfl)
            try simp only [Act.put, List.setIfInBounds_toArray, List.set_cons_zero, List.set_cons_succ, List.getElem_toArray, List.getElem_cons_zero, List.getElem_cons_succ]
            refine wpTop.take 17 (v := ?_) rfl (by kernel_rfl) (by kernel_rfl) (by kernel_rfl) (by kernel_rfl) (fun _ _ _ h => h) (Or.inl ⟨by rfl, ?_⟩) (by assumption) ?_
            rotate_left
            · intro w hSw; (try dsimp only at hSw); go_simp; try (with_reducible rfl)
            try simp only [Act.put, List.setIfInBounds_toArray, List.set_cons_zero, List.set_cons_succ, List.getElem_toArray, List.getElem_cons_zero, List.getElem_cons_succ]
            refine wpTop.take 18 (v := ?_) rfl (by kernel_rfl) (by kernel_rfl) (by kernel_rfl) (by kernel_rfl) (fun _ _ _ h => h) (Or.inl ⟨by rfl, ?_⟩) (by assumption) ?_
            rotate_left
            · intro w hSw; (try dsimp only at hSw); go_simp; try (with_reducible rfl)
            try simp only [Act.put, List.setIfInBounds_toArray, List.set_cons_zero, List.set_cons_succ, List.getElem_toArray, List.getElem_cons_zero, List.getElem_cons_succ]
            rw [HAB.out]
            refine wpTop.one 19 rfl (by kernel_rfl) (fun K hK => ?_)
            go_simp
            (with_reducible refine (C1 _ ((Below.refl _ _).drew)).mono ?_)
            rintro e w8 ⟨Am, cm, rfl, om, hb8'⟩
            have hb8 : Below w7.heap.size w7 w8 := ((Below.refl w7.heap.size w7).drew).trans hb8'
            rw [lg3] at om ⊢
            have zm := own_nil0 om
            have dm := own_cap om
            have qm := sqs_of_own om
            refine hK.out _ _ (fun _ => HS _ hb8) (fun hH => ?_)
            clear hK K
            have hHeld := hH (by decide)
            clear hH
            try simp only [Act.put, List.setIfInBounds_toArray, List.set_cons_zero, List.set_cons_succ, List.getElem_toArray, List.getElem_cons_zero, List.getElem_cons_succ]
            refine wpTop.one 20 rfl (by kernel_rfl) (fun K hK => ?_)
            go_simp
            obtain ⟨W9, hW9⟩ : ∃ W9, W9 = w8.alloc (.cells #[.slice (some ⟨g1, 0, none⟩) k c1, .slice AB (L.length - (k + 1)) (c1 - (k + 1)), .slice Am M.length cm] 27) := ⟨_, rfl⟩
            have hb89 : Below w8.heap.size w8 W9 := by rw [hW9]; exact (Below.refl _ _).alloc (Nat.le_refl _) _
            have hb9 : Below w7.heap.size w7 W9 := hb8.trans (hb89.mono hb8.size)
            have hRows : RowsQ W9 W9.heap.size (some ⟨w8.heap.size, 0, none⟩) [P1, P2, Q2] := RowsQ.three (c := c1) (d := c1 - (k + 1)) (e := cm) (by rw [hW9]; simp) (by rw [hW9, HLT.out.1]; simp) (by rw [hW9, HLT.out.2]; simp) (by rw [hW9, lg3]; simp) ((qA.below hb9).mono hb9.size) ((qB.below hb9).mono hb9.size) ((qm.below hb89).mono hb89.size) (by rw [HLT.out.1]; omega) (by rw [HLT.out.2]; omega) (by omega) (fun h => by cases h) (fun h => absurd h nB) (by rw [lg3]; exact zm)
            have CC := concatQ_any (some ⟨w8.heap.size, 0, none⟩) 3 3 [P1, P2, Q2] W9 rfl (by omega) (by rw [HFQ.out, HFL.out]; omega) hRows
            rw [HFQ.out] at CC
            rw [← hW9]
            clear hW9
            refine hK.out _ _ (fun _ => HS _ hb9) (fun hH => ?_)
            clear hK K
            have hHeld := hH (by decide)
            clear hH
            try simp only [Act.put, List.setIfInBounds_toArray, List.set_cons_zero, List.set_cons_succ, List.getElem_toArray, List.getElem_cons_zero, List.getElem_cons_succ]
            refine wpTop.one 21 rfl (by kernel_rfl) (fun K hK => ?_)
            go_simp
            (with_reducible refine CC.mono ?_)
            rintro e w10 ⟨A8, c8, rfl, o8, hb10'⟩
            have hb10 : Below w7.heap.size w7 w10 := hb9.trans (hb10'.mono hb9.size)
            rw [HFL.out] at o8 ⊢
            have CO := implCutOf_any X1 Y1 A8 fl c8 F w10 HFL.out (by omega) (own_nil0 o8) (sqs_of_own o8) hwfR
            refine hK.out _ _ (fun _ => HS _ hb10) (fun hH => ?_)
            clear hK K
            have hHeld := hH (by decide)
            clear hH
            try simp only [Act.put, List.setIfInBounds_toArray, List.set_cons_zero, List.set_cons_succ, List.getElem_toArray, List.getElem_cons_zero, List.getElem_cons_succ]
            refine wpTop.one 22 rfl (by kernel_rfl) (fun K hK => ?_)
            go_simp
            (with_reducible refine CO.mono ?_)
            rintro e w11 hret
            have hret : RetT w10 (Mk X1 Y1 F) e w11 := hret
            obtain ⟨A3, c3, rfl, o9, hb11'⟩ := hret
            have hb11 : Below w7.heap.size w7 w11 := hb10.trans (hb11'.mono hb10.size)
            refine hK.out _ _ (fun _ => HS _ hb11) (fun hH => ?_)
            clear hK K
            have hHeld := hH (by decide)
            clear hH
            try simp only [Act.put, List.setIfInBounds_toArray, List.set_cons_zero, List.set_cons_succ, List.getElem_toArray, List.getElem_cons_zero, List.getElem_cons_succ]
            refine wpTop.take 23 (v := ?_) rfl (by kernel_rfl) (by kernel_rfl) (by kernel_rfl) (by kernel_rfl) (fun _ _ _ h => h) (Or.inl ⟨by rfl, ?_⟩) (by assumption) ?_
            rotate_left
            · intro w hSw; (try dsimp only at hSw); go_simp; try (with_reducible rfl)
            try simp only [Act.put, List.setIfInBounds_toArray, List.set_cons_zero, List.set_cons_succ, List.getElem_toArray, List.getElem_cons_zero, List.getElem_cons_succ]
            refine wpTop.take 24 (v := ?_) rfl (by kernel_rfl) (by kernel_rfl) (by kernel_rfl) (by kernel_rfl) (fun _ _ _ h => h) (Or.inl ⟨by rfl, ?_⟩) (by assumption) ?_
            rotate_left
            · intro w hSw; (try dsimp only at hSw); go_simp; try (with_reducible rfl)
            try simp only [Act.put, List.setIfInBounds_toArray, List.set_cons_zero, List.set_cons_succ, List.getElem_toArray, List.getElem_cons_zero, List.getElem_cons_succ]
            have K9 := HK7.out.next hb11
            have o9 := own_base (base' := w.heap.size + 3) o9 (by have := hb10.size; omega)
            clear r0 r1 r2 t0 t1 t2 hHeld
            have ⟨_, r0, r1, r2⟩ := K9.r
            have t0 := K9.fz (w.heap.size + 2) 0 (by omega) (by omega)
            have t1 := K9.fz (w.heap.size + 2) 1 (by omega) (by omega)
            have t2 := K9.fz (w.heap.size + 2) 2 (by omega) (by omega)
            refine wpTop.one 25 rfl (by kernel_rfl) (fun K hK => ?_)
            go_simp

            refine hK.out _ _ (fun h => absurd h (by decide)) (fun hH => ?_)
            clear hK K
            clear hH
            try simp only [Act.put, List.setIfInBounds_toArray, List.set_cons_zero, List.set_cons_succ, List.getElem_toArray, List.getElem_cons_zero, List.getElem_cons_succ]
            refine wpTop.one 26 rfl (by kernel_rfl) (fun K hK => ?_)
            go_simp

            refine hK.out _ _ (fun h => absurd h (by decide)) (fun hH => ?_)
            clear hK K
            clear hH
            try simp only [Act.put, List.setIfInBounds_toArray, List.set_cons_zero, List.set_cons_succ, List.getElem_toArray, List.getElem_cons_zero, List.getElem_cons_succ]
            refine wpTop.all (by kernel_rfl) ?_ _
            go_wp2_with fail
            obtain ⟨e1, e2⟩ := K9.done (X := (Mk X1 Y1 F).1) (Y := (Mk X1 Y1 F).2.1) o9 (Nat.le_refl _)
            rw [hp, hm, HMk.out]
            refine bodyPost_ret (v := .tuple #[.agg #[.int .i64 (Mk X1 Y1 F).1, .int .i64 (Mk X1 Y1 F).2.1, .slice A3 (Mk X1 Y1 F).2.2.1.length c3], .bool (Mk X1 Y1 F).2.2.2]) (by simp [results, Try.results26, go_sem, r0, r1, r2]) rfl ?_
            exact ⟨A3, c3, rfl, e2, e1⟩
          · rw [repT_no fun h => hv h.2.2.2]
            have d3 : (V == G) = false := by simpa using hv
            have d4 : (V != G) = true := by simpa using hv
            have ⟨_, a0, a1, a2⟩ := K0.a
            have ⟨_, b0, b1, b2⟩ := K0.b
            have ⟨_, r0, r1, r2⟩ := K0.r
            have t0 := K0.fz (w.heap.size + 2) 0 (by omega) (by omega)
            have t1 := K0.fz (w.heap.size + 2) 1 (by omega) (by omega)
            have t2 := K0.fz (w.heap.size + 2) 2 (by omega) (by omega)
            have s0 := K0.size
            go_enter Try.func26, Try.ntmps26
            go_wp2_with fail
            rw [← hW1]
            refine (callB_yes (isCut_good W H A _ c L _ rfl hc ((hL.below K0.below).mono K0.below.size) hwf) hG).mono ?_
            rintro e w1 ⟨rfl, hb1⟩
            have K1 := K0.next hb1
            clear a0 a1 a2 b0 b1 b2 r0 r1 r2 t0 t1 t2
            clear K0 hW1 hb1 s0
            have ⟨_, a0, a1, a2⟩ := K1.a
            have ⟨_, b0, b1, b2⟩ := K1.b
            have ⟨_, r0, r1, r2⟩ := K1.r
            have t0 := K1.fz (w.heap.size + 2) 0 (by omega) (by omega)
            have t1 := K1.fz (w.heap.size + 2) 1 (by omega) (by omega)
            have t2 := K1.fz (w.heap.size + 2) 2 (by omega) (by omega)
            have s0 := K1.size
            go_wp2_with fail
            refine (callB_yes (isCut_good V G A' _ c' M _ rfl hc' ((hM.below K1.below).mono K1.below.size) hwf') hK).mono ?_
            rintro e w2 ⟨rfl, hb2⟩
            have K2 := K1.next hb2
            clear a0 a1 a2 b0 b1 b2 r0 r1 r2 t0 t1 t2
            clear K1 hb2 s0
            have ⟨_, a0, a1, a2⟩ := K2.a
            have ⟨_, b0, b1, b2⟩ := K2.b
            have ⟨_, r0, r1, r2⟩ := K2.r
            have t0 := K2.fz (w.heap.size + 2) 0 (by omega) (by omega)
            have t1 := K2.fz (w.heap.size + 2) 1 (by omega) (by omega)
            have t2 := K2.fz (w.heap.size + 2) 2 (by omega) (by omega)
            have s0 := K2.size
            go_wp2_with fail
            have hB := ((K2.below.setCell (p := ⟨w.heap.size + 2, 0, none⟩) (by simp) (.int .i64 0)).setCell (p := ⟨w.heap.size + 2, 1, none⟩) (by simp) (.int .i64 0)).setCell (p := ⟨w.heap.size + 2, 2, none⟩) (by simp) (.slice none 0 0)
            refine bodyPost_ret (v := .tuple #[.agg #[.int .i64 0, .int .i64 0, .slice none 0 0], .bool false]) (by simp [results, Try.results26, go_sem, r0, r1, r2]) rfl ?_
            exact RetT.no hB
        · rw [repT_no fun h => hK h.2.1]
          have ⟨_, a0, a1, a2⟩ := K0.a
          have ⟨_, b0, b1, b2⟩ := K0.b
          have ⟨_, r0, r1, r2⟩ := K0.r
          have t0 := K0.fz (w.heap.size + 2) 0 (by omega) (by omega)
          have t1 := K0.fz (w.heap.size + 2) 1 (by omega) (by omega)
          have t2 := K0.fz (w.heap.size + 2) 2 (by omega) (by omega)
          have s0 := K0.size
          go_enter Try.func26, Try.ntmps26
          go_wp2_with fail
          rw [← hW1]
          refine (callB_yes (isCut_good W H A _ c L _ rfl hc ((hL.below K0.below).mono K0.below.size) hwf) hG).mono ?_
          rintro e w1 ⟨rfl, hb1⟩
          have K1 := K0.next hb1
          clear a0 a1 a2 b0 b1 b2 r0 r1 r2 t0 t1 t2
          clear K0 hW1 hb1 s0
          have ⟨_, a0, a1, a2⟩ := K1.a
          have ⟨_, b0, b1, b2⟩ := K1.b
          have ⟨_, r0, r1, r2⟩ := K1.r
          have t0 := K1.fz (w.heap.size + 2) 0 (by omega) (by omega)
          have t1 := K1.fz (w.heap.size + 2) 1 (by omega) (by omega)
          have t2 := K1.fz (w.heap.size + 2) 2 (by omega) (by omega)
          have s0 := K1.size
          go_wp2_with fail
          refine (callB_no (isCut_good V G A' _ c' M _ rfl hc' ((hM.below K1.below).mono K1.below.size) hwf') hK).mono ?_
          rintro e w2 ⟨rfl, hb2⟩
          have K2 := K1.next hb2
          clear a0 a1 a2 b0 b1 b2 r0 r1 r2 t0 t1 t2
          clear K1 hb2 s0
          have ⟨_, a0, a1, a2⟩ := K2.a
          have ⟨_, b0, b1, b2⟩ := K2.b
          have ⟨_, r0, r1, r2⟩ := K2.r
          have t0 := K2.fz (w.heap.size + 2) 0 (by omega) (by omega)
          have t1 := K2.fz (w.heap.size + 2) 1 (by omega) (by omega)
          have t2 := K2.fz (w.heap.size + 2) 2 (by omega) (by omega)
          have s0 := K2.size
          go_wp2_with fail
          have hB := ((K2.below.setCell (p := ⟨w.heap.size + 2, 0, none⟩) (by simp) (.int .i64 0)).setCell (p := ⟨w.heap.size + 2, 1, none⟩) (by simp) (.int .i64 0)).setCell (p := ⟨w.heap.size + 2, 2, none⟩) (by simp) (.slice none 0 0)
          refine bodyPost_ret (v := .tuple #[.agg #[.int .i64 0, .int .i64 0, .slice none 0 0], .bool false]) (by simp [results, Try.results26, go_sem, r0, r1, r2]) rfl ?_
          exact RetT.no hB
      · have d2 : decide ((L.length : Int) ≤ (k : Int)) = true := decide_eq_true (by omega)
        have d2' : (L.length : Int) ≤ (k : Int) := by omega
        rw [repT_no fun h => by have := h.2.2.1; omega]
        have ⟨_, a0, a1, a2⟩ := K0.a
        have ⟨_, b0, b1, b2⟩ := K0.b
        have ⟨_, r0, r1, r2⟩ := K0.r
        have t0 := K0.fz (w.heap.size + 2) 0 (by omega) (by omega)
        have t1 := K0.fz (w.heap.size + 2) 1 (by omega) (by omega)
        have t2 := K0.fz (w.heap.size + 2) 2 (by omega) (by omega)
        have s0 := K0.size
        go_enter Try.func26, Try.ntmps26
        go_wp2_with fail
        rw [← hW1]
        refine (callB_yes (isCut_good W H A _ c L _ rfl hc ((hL.below K0.below).mono K0.below.size) hwf) hG).mono ?_
        rintro e w1 ⟨rfl, hb1⟩
        have K1 := K0.next hb1
        clear a0 a1 a2 b0 b1 b2 r0 r1 r2 t0 t1 t2
        clear K0 hW1 hb1 s0
        have ⟨_, a0, a1, a2⟩ := K1.a
        have ⟨_, b0, b1, b2⟩ := K1.b
        have ⟨_, r0, r1, r2⟩ := K1.r
        have t0 := K1.fz (w.heap.size + 2) 0 (by omega) (by omega)
        have t1 := K1.fz (w.heap.size + 2) 1 (by omega) (by omega)
        have t2 := K1.fz (w.heap.size + 2) 2 (by omega) (by omega)
        have s0 := K1.size
        go_wp2_with fail
        have hB := ((K1.below.setCell (p := ⟨w.heap.size + 2, 0, none⟩) (by simp) (.int .i64 0)).setCell (p := ⟨w.heap.size + 2, 1, none⟩) (by simp) (.int .i64 0)).setCell (p := ⟨w.heap.size + 2, 2, none⟩) (by simp) (.slice none 0 0)
        refine bodyPost_ret (v := .tuple #[.agg #[.int .i64 0, .int .i64 0, .slice none 0 0], .bool false]) (by simp [results, Try.results26, go_sem, r0, r1, r2]) rfl ?_
        exact RetT.no hB
  · rw [repT_no fun h => hG h.1]
    have ⟨_, a0, a1, a2⟩ := K0.a
    have ⟨_, b0, b1, b2⟩ := K0.b
    have ⟨_, r0, r1, r2⟩ := K0.r
    have t0 := K0.fz (w.heap.size + 2) 0 (by omega) (by omega)
    have t1 := K0.fz (w.heap.size + 2) 1 (by omega) (by omega)
    have t2 := K0.fz (w.heap.size + 2) 2 (by omega) (by omega)
    have s0 := K0.size
    go_enter Try.func26, Try.ntmps26
    go_wp2_with fail
    rw [← hW1]
    refine (callB_no (isCut_good W H A _ c L _ rfl hc ((hL.below K0.below).mono K0.below.size) hwf) hG).mono ?_
    rintro e w1 ⟨rfl, hb1⟩
    have K1 := K0.next hb1
    clear a0 a1 a2 b0 b1 b2 r0 r1 r2 t0 t1 t2
    clear K0 hW1 hb1 s0
    have ⟨_, a0, a1, a2⟩ := K1.a
    have ⟨_, b0, b1, b2⟩ := K1.b
    have ⟨_, r0, r1, r2⟩ := K1.r
    have t0 := K1.fz (w.heap.size + 2) 0 (by omega) (by omega)
    have t1 := K1.fz (w.heap.size + 2) 1 (by omega) (by omega)
    have t2 := K1.fz (w.heap.size + 2) 2 (by omega) (by omega)
    have s0 := K1.size
    go_wp2_with fail
    have hB := ((K1.below.setCell (p := ⟨w.heap.size + 2, 0, none⟩) (by simp) (.int .i64 0)).setCell (p := ⟨w.heap.size + 2, 1, none⟩) (by simp) (.int .i64 0)).setCell (p := ⟨w.heap.size + 2, 2, none⟩) (by simp) (.slice none 0 0)
    refine bodyPost_ret (v := .tuple #[.agg #[.int .i64 0, .int .i64 0, .slice none 0 0], .bool false]) (by simp [results, Try.results26, go_sem, r0, r1, r2]) rfl ?_
    exact RetT.no hB
end Go.Proofs.Ytilneimiedfjnaa
