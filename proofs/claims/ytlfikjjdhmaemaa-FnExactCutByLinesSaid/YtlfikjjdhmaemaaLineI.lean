/- Cuts by lines: the program's bestLine. -/
import Derived.Test.YtlfikjjdhmaemaaLineG
import Derived.Test.YtlfikjjdhmaemaaLeaf
set_option linter.all false
namespace Go.Proofs.Ytlfikjjdhmaemaa
open Go.RowKit

set_option maxRecDepth 100000 in
set_option maxHeartbeats 16000000 in
theorem bestLine_any (b W H : Nat) (T : Nat → Nat → Int) (w : World) (hT : LinAt w b T) (hW0 : 1 ≤ W) (hW : W ≤ 60) (hH0 : 1 ≤ H) (hH : H ≤ 60)
    (hd : ∀ x, 1 ≤ x → x < W → T x H = best x H) (ha : ∀ y, 1 ≤ y → y < H → T W y = best W y) :
    Calls Try.prog 116 #[.pointer (some ⟨b, 0, none⟩), .int .i64 W, .int .i64 H] w fun e w' => e = .returned (.tuple #[.int .i64 (best W H), .int .i64 (lnDown W H), .int .i64 (lnAcross W H)]) ∧ Below w.heap.size w w' := by
  by_cases he : W = H
  · subst he
    have hi : ((W : Int) == (W : Int)) = true := by simp
    rw [best_same W hW0, show lnDown W W = 0 from if_pos rfl, show lnAcross W W = 0 from if_pos rfl]
    go_enter Try.func116, Try.ntmps116
    go_wp2_with fail
    refine bodyPost_ret (v := .tuple #[.int .i64 1, .int .i64 0, .int .i64 0]) (by simp [results, Try.results116, go_sem]) rfl ?_
    exact ⟨rfl, Below.refl _ _⟩
  · have hi : ((W : Int) == (H : Int)) = false := by simp; omega
    have hm1 : (1 : Int) ≤ (W : Int) * H := by
      have h1 := Nat.mul_le_mul hW0 hH0
      have e : ((W * H : Nat) : Int) = (W : Int) * H := by simp
      omega
    have hm2 : (W : Int) * H ≤ 3600 := by
      have h1 := Nat.mul_le_mul hW hH
      have e : ((W * H : Nat) : Int) = (W : Int) * H := by simp
      omega
    obtain ⟨M, hM⟩ : ∃ M, (W : Int) * H = M := ⟨_, rfl⟩
    have hbD : bDown W H = lo (M + 1) (dn W H) (W / 2) := by rw [← hM]; rfl
    have HBD := Lib.hid hbD
    have hbt := best_two hW0 hH0 he
    have HBT := Lib.hid hbt
    have hlD : lnDown W H = if arg (bDown W H) (ac W H) (H / 2) = 0 then arg (M + 1) (dn W H) (W / 2) else 0 := by rw [← hM]; exact if_neg he
    have HLD := Lib.hid hlD
    have hlA : lnAcross W H = arg (bDown W H) (ac W H) (H / 2) := if_neg he
    have HLA := Lib.hid hlA
    have HM := Lib.hid hM
    rw [hM] at hm1 hm2
    have hdiv : ((W : Int)).tdiv 2 = ((W / 2 : Nat) : Int) := by rw [Int.tdiv_eq_ediv_of_nonneg (by omega)]; omega
    have hdivH : ((H : Int)).tdiv 2 = ((H / 2 : Nat) : Int) := by rw [Int.tdiv_eq_ediv_of_nonneg (by omega)]; omega
    have HD := Lib.hid hd
    have HA := Lib.hid ha
    have HE := Lib.hid he
    clear hd ha he hbD hbt hlD hlA
    go_enter Try.func116, Try.ntmps116
    go_wp2_with fail
    go_loopw [6, 7, 9] (fun c d i wr => ∃ k : Nat, k ≤ W / 2 ∧ c = .int .i64 (lo (M + 1) (dn W H) k) ∧ d = .int .i64 (arg (M + 1) (dn W H) k) ∧ i = .int .i64 ((k : Int) + 1) ∧ Below w.heap.size w wr) (fun _ _ i _ => W / 2 + 1 - (intOf i).toNat)
    case atStart => exact ⟨0, Nat.zero_le _, rfl, rfl, rfl, Below.refl _ _⟩
    case round =>
      obtain ⟨k, hk, rfl, rfl, rfl, hb⟩ := hrel
      by_cases hlt : k < W / 2
      · obtain ⟨hb1, hc, hf⟩ := hT.below hb
        have i1 : (k : Int) + 1 ≤ ((W / 2 : Nat) : Int) := by omega
        obtain ⟨u, hu⟩ : ∃ u : Nat, (W : Int) - ((k : Int) + 1) = (u : Int) := ⟨W - (k + 1), by omega⟩
        have hwr : IntKind.i64.wrap ((W : Int) - ((k : Int) + 1)) = (u : Int) := by rw [hu]; exact IntWalk.i64_in _ (by omega)
        have hu' : W - (k + 1) = u := by omega
        have k0 : (0 : Int) ≤ (k : Int) + 1 := by omega
        have k1 : (k : Int) + 1 < 61 := by omega
        have k2 : (0 : Int) ≤ (u : Int) := by omega
        have k3 : (u : Int) < 61 := by omega
        have k4 : (0 : Int) ≤ (H : Int) := by omega
        have k5 : (H : Int) < 61 := by omega
        have c1 := hc (k + 1) H (by omega) hH
        have c2 := hc u H (by omega) hH
        obtain ⟨D, hDD⟩ : ∃ D, dn W H (k + 1) = D := ⟨_, rfl⟩
        obtain ⟨Lk, hLK⟩ : ∃ Lk, lo (M + 1) (dn W H) k = Lk := ⟨_, rfl⟩
        have eS : (T (k + 1) H) + (T u H) = D := by
          rw [HD.out (k + 1) (by omega) (by omega), HD.out u (by omega) (by omega), ← hDD]
          show best (k + 1) H + best u H = best (k + 1) H + best (W - (k + 1)) H
          rw [hu']
        have eB : 1 ≤ (T (k + 1) H) ∧ 1 ≤ (T u H) := by
          rw [HD.out (k + 1) (by omega) (by omega), HD.out u (by omega) (by omega)]
          exact ⟨best_pos (by omega) hH0, best_pos (by omega) hH0⟩
        have eA := dn_area hH0 (show 1 ≤ k + 1 by omega) (show k + 1 < W by omega)
        rw [hDD, HM.out] at eA
        have hsum : IntKind.i64.wrap ((T (k + 1) H) + (T u H)) = D := by rw [eS]; exact IntWalk.i64_in _ (by omega)
        have HDD := Lib.hid hDD
        have HLK := Lib.hid hLK
        rw [hLK]
        have HU := Lib.hid hu
        clear hc hT hf hu hu' hDD hLK eS eB eA
        by_cases hcmp : D < Lk
        · skip
          have h12 := lo_lt (m := (M + 1)) (f := (dn W H)) (k := k) (by rw [HDD.out, HLK.out]; exact hcmp)
          obtain ⟨h1, h2⟩ := h12
          try rw [HDD.out] at h1
          have H1 := Lib.hid h1
          have H2 := Lib.hid h2
          clear h1 h2
          go_wp2_with fail
          go_region_held3 (fun w' => Below w.heap.size w w' ∧ w'.cell? ⟨b, (k + 1) * 61 + H, none⟩ = some (.int .i64 (T (k + 1) H)) ∧ w'.cell? ⟨b, u * 61 + H, none⟩ = some (.int .i64 (T u H)))
            (first | assumption | exact ⟨hb.drew, c1, c2⟩ | exact ⟨hb, c1, c2⟩)
            (fail)
          have hbE := And.left (by assumption)
          clear c1 c2
          go_wp2_with fail
          go_roundw
          case rel =>
            have h1 := H1.out
            have h2 := H2.out
            try rw [HLK.out] at h1
            refine ⟨k + 1, by omega, (by rw [h1]), (by rw [h2]; rfl), (by simp), hbE⟩
          case measure => simp [intOf]; omega
        · skip
          have h12 := lo_ge' (m := (M + 1)) (f := (dn W H)) (k := k) (by rw [HDD.out, HLK.out]; exact hcmp)
          obtain ⟨h1, h2⟩ := h12
          try rw [HDD.out] at h1
          have H1 := Lib.hid h1
          have H2 := Lib.hid h2
          clear h1 h2
          go_wp2_with fail
          go_region_held3 (fun w' => Below w.heap.size w w' ∧ w'.cell? ⟨b, (k + 1) * 61 + H, none⟩ = some (.int .i64 (T (k + 1) H)) ∧ w'.cell? ⟨b, u * 61 + H, none⟩ = some (.int .i64 (T u H)))
            (first | assumption | exact ⟨hb.drew, c1, c2⟩ | exact ⟨hb, c1, c2⟩)
            (fail)
          have hbE := And.left (by assumption)
          clear c1 c2
          go_wp2_with fail
          go_roundw
          case rel =>
            have h1 := H1.out
            have h2 := H2.out
            try rw [HLK.out] at h1
            refine ⟨k + 1, by omega, (by rw [h1]), (by rw [h2]), (by simp), hbE⟩
          case measure => simp [intOf]; omega
      · obtain rfl : k = W / 2 := by omega
        have i1 : ¬ ((W / 2 : Nat) : Int) + 1 ≤ ((W / 2 : Nat) : Int) := by omega
        rw [← HBD.out]
        obtain ⟨p, hp⟩ : ∃ p, arg (M + 1) (dn W H) (W / 2) = p := ⟨_, rfl⟩
        have HP := Lib.hid hp
        rw [hp]
        have hbx := hb
        clear hp hb
        go_wp2_with fail
        go_loopw [6, 7, 8, 11] (fun c d a i wr => ∃ k : Nat, k ≤ H / 2 ∧ c = .int .i64 (lo (bDown W H) (ac W H) k) ∧ d = .int .i64 ((if arg (bDown W H) (ac W H) k = 0 then p else 0 : Nat) : Int) ∧ a = .int .i64 (arg (bDown W H) (ac W H) k) ∧ i = .int .i64 ((k : Int) + 1) ∧ Below w.heap.size w wr) (fun _ _ _ i _ => H / 2 + 1 - (intOf i).toNat)
        case atStart => exact ⟨0, Nat.zero_le _, rfl, rfl, rfl, rfl, hbx⟩
        case round =>
          obtain ⟨k, hk, rfl, rfl, rfl, rfl, hb⟩ := hrel
          obtain ⟨q, hq⟩ : ∃ q, (if arg (bDown W H) (ac W H) k = 0 then p else 0) = q := ⟨_, rfl⟩
          have HQ := Lib.hid hq
          obtain ⟨z, hz⟩ : ∃ z, arg (bDown W H) (ac W H) k = z := ⟨_, rfl⟩
          have HZ := Lib.hid hz
          rw [hq, hz]
          clear hq hz
          by_cases hlt : k < H / 2
          · obtain ⟨hb1, hc, hf⟩ := hT.below hb
            have i1 : (k : Int) + 1 ≤ ((H / 2 : Nat) : Int) := by omega
            obtain ⟨u, hu⟩ : ∃ u : Nat, (H : Int) - ((k : Int) + 1) = (u : Int) := ⟨H - (k + 1), by omega⟩
            have hwr : IntKind.i64.wrap ((H : Int) - ((k : Int) + 1)) = (u : Int) := by rw [hu]; exact IntWalk.i64_in _ (by omega)
            have hu' : H - (k + 1) = u := by omega
            have k0 : (0 : Int) ≤ (k : Int) + 1 := by omega
            have k1 : (k : Int) + 1 < 61 := by omega
            have k2 : (0 : Int) ≤ (u : Int) := by omega
            have k3 : (u : Int) < 61 := by omega
            have k4 : (0 : Int) ≤ (W : Int) := by omega
            have k5 : (W : Int) < 61 := by omega
            have c1 := hc W (k + 1) hW (by omega)
            have c2 := hc W u hW (by omega)
            obtain ⟨D, hDD⟩ : ∃ D, ac W H (k + 1) = D := ⟨_, rfl⟩
            obtain ⟨Lk, hLK⟩ : ∃ Lk, lo (bDown W H) (ac W H) k = Lk := ⟨_, rfl⟩
            have eS : (T W (k + 1)) + (T W u) = D := by
              rw [HA.out (k + 1) (by omega) (by omega), HA.out u (by omega) (by omega), ← hDD]
              show best W (k + 1) + best W u = best W (k + 1) + best W (H - (k + 1))
              rw [hu']
            have eB : 1 ≤ (T W (k + 1)) ∧ 1 ≤ (T W u) := by
              rw [HA.out (k + 1) (by omega) (by omega), HA.out u (by omega) (by omega)]
              exact ⟨best_pos hW0 (by omega), best_pos hW0 (by omega)⟩
            have eA := ac_area hW0 (show 1 ≤ k + 1 by omega) (show k + 1 < H by omega)
            rw [hDD, HM.out] at eA
            have hsum : IntKind.i64.wrap ((T W (k + 1)) + (T W u)) = D := by rw [eS]; exact IntWalk.i64_in _ (by omega)
            have HDD := Lib.hid hDD
            have HLK := Lib.hid hLK
            rw [hLK]
            have HU := Lib.hid hu
            clear hc hT hf hu hu' hDD hLK eS eB eA
            by_cases hcmp : D < Lk
            · skip
              have h12 := lo_lt (m := (bDown W H)) (f := (ac W H)) (k := k) (by rw [HDD.out, HLK.out]; exact hcmp)
              obtain ⟨h1, h2⟩ := h12
              try rw [HDD.out] at h1
              have H1 := Lib.hid h1
              have H2 := Lib.hid h2
              clear h1 h2
              go_wp2_with fail
              go_region_held3 (fun w' => Below w.heap.size w w' ∧ w'.cell? ⟨b, W * 61 + (k + 1), none⟩ = some (.int .i64 (T W (k + 1))) ∧ w'.cell? ⟨b, W * 61 + u, none⟩ = some (.int .i64 (T W u)))
                (first | assumption | exact ⟨hb.drew, c1, c2⟩ | exact ⟨hb, c1, c2⟩)
                (fail)
              have hbE := And.left (by assumption)
              clear c1 c2
              go_wp2_with fail
              go_roundw
              case rel =>
                have h1 := H1.out
                have h2 := H2.out
                try rw [HLK.out] at h1
                refine ⟨k + 1, by omega, (by rw [h1]), (by rw [h2]; rfl), (by rw [h2]; rfl), (by simp), hbE⟩
              case measure => simp [intOf]; omega
            · skip
              have h12 := lo_ge' (m := (bDown W H)) (f := (ac W H)) (k := k) (by rw [HDD.out, HLK.out]; exact hcmp)
              obtain ⟨h1, h2⟩ := h12
              try rw [HDD.out] at h1
              have H1 := Lib.hid h1
              have H2 := Lib.hid h2
              clear h1 h2
              go_wp2_with fail
              go_region_held3 (fun w' => Below w.heap.size w w' ∧ w'.cell? ⟨b, W * 61 + (k + 1), none⟩ = some (.int .i64 (T W (k + 1))) ∧ w'.cell? ⟨b, W * 61 + u, none⟩ = some (.int .i64 (T W u)))
                (first | assumption | exact ⟨hb.drew, c1, c2⟩ | exact ⟨hb, c1, c2⟩)
                (fail)
              have hbE := And.left (by assumption)
              clear c1 c2
              go_wp2_with fail
              go_roundw
              case rel =>
                have h1 := H1.out
                have h2 := H2.out
                try rw [HLK.out] at h1
                refine ⟨k + 1, by omega, (by rw [h1]), (by rw [h2, HQ.out]), (by rw [h2, HZ.out]), (by simp), hbE⟩
              case measure => simp [intOf]; omega
          · obtain rfl : k = H / 2 := by omega
            have i1 : ¬ ((H / 2 : Nat) : Int) + 1 ≤ ((H / 2 : Nat) : Int) := by omega
            have HB2 := Lib.hid hb
            clear hb hT
            go_wp2_with fail
            refine bodyPost_ret (v := .tuple #[.int .i64 (lo (bDown W H) (ac W H) (H / 2)), .int .i64 (q : Int), .int .i64 (z : Int)]) (by simp [results, Try.results116, go_sem]) rfl ?_
            exact ⟨by rw [HBT.out, HLD.out, HLA.out, HP.out, HQ.out, HZ.out], HB2.out⟩
end Go.Proofs.Ytlfikjjdhmaemaa
