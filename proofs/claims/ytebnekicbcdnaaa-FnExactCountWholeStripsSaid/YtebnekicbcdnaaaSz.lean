/- CountWholeStrips of the model. -/
import Derived.Test.YtebnekicbcdnaaaSx
set_option linter.all false
namespace Go.Proofs.Ytebnekicbcdnaaa
open Go.RowKit

noncomputable def alL (a n : Nat) : List Int := (List.range n).map fun i => ((cntN a (i + 1) : Nat) : Int)
theorem alL_succ (a n : Nat) : alL a (n + 1) = alL a n ++ [((cntN a (n + 1) : Nat) : Int)] := by simp [alL, List.range_succ]
theorem alL_len (a n : Nat) : (alL a n).length = n := by simp [alL]
theorem alL_at {a n i : Nat} (h : i < n) : (alL a n)[i]? = some ((cntN a (i + 1) : Nat) : Int) := by simp [alL, h]
theorem whL_at {a n i : Nat} (h : i < n) : (whL a n)[i]? = some ((whL a n).getD i 0) := by
  rw [List.getD, List.getElem?_eq_getElem (by rw [whL_len]; exact h)]; rfl
theorem ints_app1 (l m : List Int) : ints (l ++ m) = ints l ++ ints m := by simp [ints]
set_option maxRecDepth 100000 in
set_option maxHeartbeats 4000000 in
theorem specWh_any (h H : Int) (w : World) : Calls Try.prog 46 #[.int .i64 h, .int .i64 H] w fun e w' => e = .returned (.tuple #[.int .i64 (whV h H), .bool (inB h 1 4 && inB H 1 30)]) ∧ Below w.heap.size w w' := by
  have C := stSize_any h H w
  cases hok : (inB h 1 4 && inB H 1 30) with
  | false =>
    rw [hok] at C
    have e : whV h H = 0 := by unfold whV; rw [hok]; rfl
    rw [e]
    clear hok e
    go_enter Try.func46, Try.ntmps46
    go_wp2_with fail
    refine C.mono ?_
    rintro e w' ⟨rfl, rfl⟩
    go_wp2_with fail
    go_ret2
    exact ⟨rfl, Below.refl _ _⟩
  | true =>
    rw [hok] at C
    obtain ⟨a, b, rfl, rfl, ha1, ha4, hb1, hb30⟩ := inB_ex hok
    obtain ⟨N, hN⟩ : ∃ N, w.heap.size = N := ⟨_, rfl⟩
    have e : whV (a : Int) (b : Int) = (whL a b).getD (b - 1) 0 := by unfold whV; rw [hok, if_pos rfl]; simp only [Int.toNat_natCast]
    rw [e, hN]
    obtain ⟨z, hz⟩ : ∃ z, (whL a b).getD (b - 1) 0 = z := ⟨_, rfl⟩
    rw [hz]
    have HZ := Lib.hid hz
    obtain ⟨i0, hi, hz0, hz1, hz2⟩ := info_parts infoIntA
    have HC := Lib.hid C
    have HN := Lib.hid hN
    have HA : Hid (∀ (c : Nat), 1 ≤ c → c ≤ 30 → ∀ V, _) := Lib.hid fun c hc1 hc V => stWays_any a c 0 ha1 ha4 hc1 hc V
    have HK : Hid (∀ (c : Nat), 1 ≤ c → c ≤ 30 → ∀ (M c0 : Nat) (g : Nat → Nat) (V : World), TW M 0 a c M g V → Calls Try.prog 51 #[.slice (some ⟨M, 0, none⟩) (c + 1) c0, .int .i64 a, .int .i64 c, .int .i64 0, .int .i64 0] V fun e w' => e = .returned (.int .i64 ((cntN a c : Nat) : Int)) ∧ Below M V w') := Lib.hid fun c hc1 hc M c0 g V T => by
      have := count_any M 0 a c M c0 g ha1 ha4 hc _ c 0 V (Nat.lt_succ_self _) (Nat.le_refl _) (StS.nil a c (Nat.one_le_pow _ _ (by decide))) T
      rw [vS_start] at this
      exact this.mono fun e w' h => ⟨h.1, h.2.2⟩
    clear hok e C hz hN
    go_enter Try.func46, Try.ntmps46
    go_wp2_with fail
    refine HC.out.mono ?_
    rintro e w' ⟨rfl, rfl⟩
    go_wp2_with fail
    go_loopw [6, 7, 8] (fun wv av iv wr => ∃ (n1 n : Nat) (Aw : Option Addr) (cw : Nat) (Aa : Option Addr) (ca : Nat), n1 = n + 1 ∧ n ≤ b ∧ wv = .slice Aw n cw ∧ av = .slice Aa n ca ∧ iv = .int .i64 (n1 : Int) ∧ wr.ownsRow N 3 1 (.slice Aw n cw) n (ints (whL a n)) ∧ wr.ownsRow N 3 1 (.slice Aa n ca) n (ints (alL a n)) ∧ (∀ k, (Value.slice Aw n cw).ownBlock = some k → (Value.slice Aa n ca).ownBlock ≠ some k) ∧ Below N w wr) (fun _ _ iv _ => b + 1 - (intOf iv).toNat)
    case atStart => exact ⟨1, 0, none, 0, none, 0, rfl, Nat.zero_le _, rfl, rfl, rfl, World.ownsRow_nil _ _ _ _, World.ownsRow_nil _ _ _ _, fun k hk => by simp [Value.ownBlock] at hk, by rw [← HN.out]; exact Below.refl _ _⟩
    case round =>
      obtain ⟨n1, n, Aw, cw, Aa, ca, hn1, hn, rfl, rfl, rfl, hw, ha, hd, hbr⟩ := hrel
      have hle1 : n < n1 := by omega
      have hle2 : n1 ≤ n + 1 := by omega
      have HN1 := Lib.hid hn1
      clear hn1
      have HBR := Lib.hid hbr
      have HW := Lib.hid hw
      have HAA := Lib.hid ha
      have HD := Lib.hid hd
      clear hw ha hd hbr
      by_cases hlt : n < b
      · have i1 : (n1 : Int) ≤ (b : Int) := by omega
        have i2 : (1 : Int) ≤ (n1 : Int) := by omega
        have i3 : (n : Int) < (n1 : Int) := by omega
        have hbl : n + 1 ≤ maxLen := by unfold maxLen; omega
        have hby : (n + 1) * 8 ≤ 140737488355328 := by omega
        go_wp2_with fail
        refine (HA.out n1 (by omega) (by omega) wr).mono ?_
        rintro e w2 ⟨c0, g, rfl, T2, hb2⟩
        have HK2 := Lib.hid (HK.out n1 (by omega) (by omega) _ c0 g w2 T2)
        have HB2 := Lib.hid hb2
        clear T2 hb2
        go_wp2_with fail
        refine HK2.out.mono ?_
        rintro e w3 ⟨rfl, hb3⟩
        have hb13 := HB2.out.trans hb3
        have ho3 := own_keep HAA.out hb13
        have HW3 := Lib.hid (own_keep HW.out hb13)
        have HB3 := Lib.hid hb13
        have hsN : N ≤ w3.heap.size := by have h1 := hb13.size; have h2 := HBR.out.size; have h3 := HN.out; omega
        obtain ⟨v, hv⟩ : ∃ v : Nat, cntN a n1 = v := ⟨_, rfl⟩
        rw [hv]
        have HV := Lib.hid hv
        clear hv hb13 hb3 HK2
        have HAF : Hid (∀ (w9 : World) (v' : Value), w9.ownsRow N 3 1 v' (n + 1) (ints (alL a n) ++ [.int .i64 (v : Int)]) → ∃ g9 c9, v' = .slice (some ⟨g9, 0, none⟩) (n + 1) c9 ∧ w9.cell? ⟨g9, n1 - 1, none⟩ = some (.int .i64 (v : Int))) := Lib.hid fun w9 v' ho => by
          obtain ⟨A9, c9, rfl⟩ := own_val ho
          obtain ⟨g9, rfl⟩ := own_form ho (by omega)
          refine ⟨g9, c9, rfl, ?_⟩
          rw [show n1 - 1 = n by omega]
          refine (ho.cellAt n (by omega)).trans ?_
          rw [List.getElem?_append_right (by rw [ints_len, alL_len]; exact Nat.le_refl _), ints_len, alL_len, Nat.sub_self]; rfl
        go_wp2_with (at_builtin; refine app_list rfl _ _ _ rfl N 3 i0 (.int .i64 0) 1 8 Try.underlying25 hi hz0 hz1 hz2 rfl (by decide) (.slice Aa n ca) n _ rfl (ho3.alloc _) (some ⟨w3.heap.size, 0, none⟩) 1 1 [.int .i64 (v : Int)] rfl rfl (.inr ⟨_, rfl, new1 _ _ _⟩) (fun u hu => by simp at hu; subst hu; rfl) hbl hby (by simp; omega) ?_; intro v' w9 ho9 hg9 hv9; obtain ⟨g9, c9, rfl, e9⟩ := HAF.out w9 v' ho9)
        have hall : ints (alL a n) ++ [.int .i64 (v : Int)] = ints (alL a (n + 1)) := by rw [alL_succ, ints_app1, ← HN1.out, HV.out]; rfl
        rw [hall] at ho9
        have hoa3 := HW3.out.alloc (.cells #[.int .i64 (v : Int)] 3)
        have HW9 := Lib.hid (own_blk hoa3 fun k hk => hg9.block k (hoa3.lt k hk).2 (fun e => HD.out k hk e.symm))
        have HD9 : Hid (∀ k, (Value.slice Aw n cw).ownBlock = some k → (Value.slice (some ⟨g9, 0, none⟩) (n + 1) c9).ownBlock ≠ some k) := Lib.hid fun k hk e => by
          rcases hv9 with h | h
          · exact HD.out k hk (h.symm.trans e)
          · have h1 := (HW3.out.lt k hk).2
            rw [h] at e
            have := Option.some.inj e
            simp at this; omega
        have HA9 := Lib.hid ho9
        have HB9 : Hid (Below N w w9) := Lib.hid ((((HBR.out.trans (HB3.out.mono (by have h2 := HBR.out.size; have h3 := HN.out; omega))).alloc hsN _).grown hg9 (by simp; omega) (fun j hj => (HAA.out.lt j hj).1)))
        have HS9 : Hid (N ≤ w9.heap.size) := Lib.hid (by have h2 := HB9.out.size; have h3 := HN.out; omega)
        clear hall hoa3 hg9 hv9 ho9 e9 ho3 hsN
        go_loopw [9, 10] (fun sv kv wr => ∃ (j1 j : Nat), j1 = j + 1 ∧ j ≤ n ∧ sv = .int .i64 (whA a (whL a n) n j) ∧ kv = .int .i64 (j1 : Int) ∧ Below w9.heap.size w9 wr) (fun _ kv _ => n + 1 - (intOf kv).toNat)
        case atStart => exact ⟨1, 0, rfl, Nat.zero_le _, by rw [whA, ← HN1.out, HV.out], rfl, Below.refl _ _⟩
        case round =>
          obtain ⟨j1, j, hj1, hj, rfl, rfl, hbi⟩ := hrel
          have hle3 : j < j1 := by omega
          have hle4 : j1 ≤ j + 1 := by omega
          have HJ1 := Lib.hid hj1
          clear hj1
          have HBI := Lib.hid hbi
          have hwi := own_keep HW9.out hbi
          have hai := own_keep HA9.out hbi
          clear hbi
          obtain ⟨x, hx⟩ : ∃ x, whA a (whL a n) n j = x := ⟨_, rfl⟩
          rw [hx]
          have HX := Lib.hid hx
          clear hx
          by_cases hltj : j < n
          · obtain ⟨gw, rfl⟩ := own_form hwi (by omega)
            obtain ⟨y, hy⟩ : ∃ y, (whL a n).getD j 0 = y := ⟨_, rfl⟩
            obtain ⟨u, hu⟩ : ∃ u, cntN a (n - j) = u := ⟨_, rfl⟩
            have c0 : wr.cell? ⟨gw, j1 - 1, none⟩ = some (.int .i64 y) := by
              rw [show j1 - 1 = j by omega, ← hy]
              exact (hwi.cellAt j (by omega)).trans (ints_get1 (whL_at hltj))
            have c1 : wr.cell? ⟨g9, n1 - j1 - 1, none⟩ = some (.int .i64 (u : Int)) := by
              rw [show n1 - j1 - 1 = n - j - 1 by omega, ← hu]
              refine (hai.cellAt (n - j - 1) (by omega)).trans (ints_get1 ?_)
              rw [alL_at (by omega), show n - j - 1 + 1 = n - j by omega]
            have HNX : Hid (whA a (whL a n) n (j + 1) = wrap64 (x - wrap64 (y * (u : Int)))) := Lib.hid (by rw [whA, HX.out, hy, hu])
            have k1 : (j1 : Int) < (n1 : Int) := by omega
            have k2 : (1 : Int) ≤ (j1 : Int) := by omega
            have k3 : (j1 : Int) ≤ (n : Int) := by omega
            have k4 : (n1 : Int) ≤ (n : Int) + 1 := by omega
            have wa : IntKind.i64.wrap ((j1 : Int) - 1) = (j1 : Int) - 1 := IntWalk.i64_in _ (by omega)
            have wb : IntKind.i64.wrap ((n1 : Int) - (j1 : Int)) = (n1 : Int) - (j1 : Int) := IntWalk.i64_in _ (by omega)
            have wc : IntKind.i64.wrap ((n1 : Int) - (j1 : Int) - 1) = (n1 : Int) - (j1 : Int) - 1 := IntWalk.i64_in _ (by omega)
            have wf : (1 : Int) ≤ (n1 : Int) - (j1 : Int) := by omega
            have wd : (j1 : Int) - 1 < (n : Int) := by omega
            have we : (n1 : Int) - (j1 : Int) - 1 < (n : Int) + 1 := by omega
            clear hy hu hwi hai
            go_wp2_with fail
            refine wp_region_top 16 (fun w' => w'.cell? ⟨gw, j1 - 1, none⟩ = some (.int .i64 y) ∧ w'.cell? ⟨g9, n1 - j1 - 1, none⟩ = some (.int .i64 (u : Int))) (by kernel_rfl) (⟨c0, c1⟩) (fun hHeld => ?_)
            refine wpTop.take 0 (v := ?_) rfl (by kernel_rfl) (by kernel_rfl) (by kernel_rfl) (by kernel_rfl) (fun _ _ _ h => h) (Or.inl ⟨by rfl, ?_⟩) (by assumption) ?_
            rotate_left
            · intro w hSw; (try dsimp only at hSw); go_simp; try (with_reducible rfl)
            try simp only [Act.put, List.getElem_toArray, List.getElem_cons_zero, List.getElem_cons_succ, List.setIfInBounds_toArray, List.set_cons_zero, List.set_cons_succ]
            refine wpTop.take 1 (v := ?_) rfl (by kernel_rfl) (by kernel_rfl) (by kernel_rfl) (by kernel_rfl) (fun _ _ _ h => h) (Or.inl ⟨by rfl, ?_⟩) (by assumption) ?_
            rotate_left
            · intro w hSw; (try dsimp only at hSw); go_simp; try (with_reducible rfl)
            try simp only [Act.put, List.getElem_toArray, List.getElem_cons_zero, List.getElem_cons_succ, List.setIfInBounds_toArray, List.set_cons_zero, List.set_cons_succ]
            refine wpTop.take 2 (v := ?_) rfl (by kernel_rfl) (by kernel_rfl) (by kernel_rfl) (by kernel_rfl) (fun _ _ _ h => h) (Or.inl ⟨by rfl, ?_⟩) (by assumption) ?_
            rotate_left
            · intro w hSw; (try dsimp only at hSw); go_simp; try (with_reducible rfl)
            try simp only [Act.put, List.getElem_toArray, List.getElem_cons_zero, List.getElem_cons_succ, List.setIfInBounds_toArray, List.set_cons_zero, List.set_cons_succ]
            refine wpTop.take 3 (v := ?_) rfl (by kernel_rfl) (by kernel_rfl) (by kernel_rfl) (by kernel_rfl) (fun _ _ _ h => h) (Or.inl ⟨by rfl, ?_⟩) (by assumption) ?_
            rotate_left
            · intro w hSw; (try dsimp only at hSw); go_simp; try (with_reducible rfl)
            try simp only [Act.put, List.getElem_toArray, List.getElem_cons_zero, List.getElem_cons_succ, List.setIfInBounds_toArray, List.set_cons_zero, List.set_cons_succ]
            refine wpTop.take 4 (v := ?_) rfl (by kernel_rfl) (by kernel_rfl) (by kernel_rfl) (by kernel_rfl) (fun _ _ _ h => h) (Or.inl ⟨by rfl, ?_⟩) (by assumption) ?_
            rotate_left
            · intro w hSw; (try dsimp only at hSw); go_simp; try (with_reducible rfl)
            try simp only [Act.put, List.getElem_toArray, List.getElem_cons_zero, List.getElem_cons_succ, List.setIfInBounds_toArray, List.set_cons_zero, List.set_cons_succ]
            refine wpTop.take 5 (v := ?_) rfl (by kernel_rfl) (by kernel_rfl) (by kernel_rfl) (by kernel_rfl) (fun _ _ _ h => h) (Or.inl ⟨by rfl, ?_⟩) (by assumption) ?_
            rotate_left
            · intro w hSw; (try dsimp only at hSw); go_simp; try (with_reducible rfl)
            try simp only [Act.put, List.getElem_toArray, List.getElem_cons_zero, List.getElem_cons_succ, List.setIfInBounds_toArray, List.set_cons_zero, List.set_cons_succ]
            refine wpTop.take 6 (v := ?_) rfl (by kernel_rfl) (by kernel_rfl) (by kernel_rfl) (by kernel_rfl) (fun _ _ _ h => h) (Or.inl ⟨by rfl, ?_⟩) (by assumption) ?_
            rotate_left
            · intro w hSw; (try dsimp only at hSw); go_simp; try (with_reducible rfl)
            try simp only [Act.put, List.getElem_toArray, List.getElem_cons_zero, List.getElem_cons_succ, List.setIfInBounds_toArray, List.set_cons_zero, List.set_cons_succ]
            refine wpTop.take 7 (v := ?_) rfl (by kernel_rfl) (by kernel_rfl) (by kernel_rfl) (by kernel_rfl) (fun _ _ _ h => h) (Or.inl ⟨by rfl, ?_⟩) (by assumption) ?_
            rotate_left
            · intro w hSw; (try dsimp only at hSw); go_simp; try (with_reducible rfl)
            try simp only [Act.put, List.getElem_toArray, List.getElem_cons_zero, List.getElem_cons_succ, List.setIfInBounds_toArray, List.set_cons_zero, List.set_cons_succ]
            refine wpTop.take 8 (v := ?_) rfl (by kernel_rfl) (by kernel_rfl) (by kernel_rfl) (by kernel_rfl) (fun _ _ _ h => h) (Or.inl ⟨by rfl, ?_⟩) (by assumption) ?_
            rotate_left
            · intro w hSw; (try dsimp only at hSw); go_simp; try (with_reducible rfl)
            try simp only [Act.put, List.getElem_toArray, List.getElem_cons_zero, List.getElem_cons_succ, List.setIfInBounds_toArray, List.set_cons_zero, List.set_cons_succ]
            refine wpTop.take 9 (v := ?_) rfl (by kernel_rfl) (by kernel_rfl) (by kernel_rfl) (by kernel_rfl) (fun _ _ _ h => h) (Or.inl ⟨by rfl, ?_⟩) (by assumption) ?_
            rotate_left
            · intro w hSw; (try dsimp only at hSw); go_simp; try (with_reducible rfl)
            try simp only [Act.put, List.getElem_toArray, List.getElem_cons_zero, List.getElem_cons_succ, List.setIfInBounds_toArray, List.set_cons_zero, List.set_cons_succ]
            refine wpTop.take 10 (v := ?_) rfl (by kernel_rfl) (by kernel_rfl) (by kernel_rfl) (by kernel_rfl) (fun _ _ _ h => h) (Or.inl ⟨by rfl, ?_⟩) (by assumption) ?_
            rotate_left
            · intro w hSw; (try dsimp only at hSw); go_simp; try (with_reducible rfl)
            try simp only [Act.put, List.getElem_toArray, List.getElem_cons_zero, List.getElem_cons_succ, List.setIfInBounds_toArray, List.set_cons_zero, List.set_cons_succ]
            refine wpTop.take 11 (v := ?_) rfl (by kernel_rfl) (by kernel_rfl) (by kernel_rfl) (by kernel_rfl) (fun _ _ _ h => h) (Or.inl ⟨by rfl, ?_⟩) (by assumption) ?_
            rotate_left
            · intro w hSw; (try dsimp only at hSw); go_simp; try (with_reducible rfl)
            try simp only [Act.put, List.getElem_toArray, List.getElem_cons_zero, List.getElem_cons_succ, List.setIfInBounds_toArray, List.set_cons_zero, List.set_cons_succ]
            refine wpTop.take 12 (v := ?_) rfl (by kernel_rfl) (by kernel_rfl) (by kernel_rfl) (by kernel_rfl) (fun _ _ _ h => h) (Or.inl ⟨by rfl, ?_⟩) (by assumption) ?_
            rotate_left
            · intro w hSw; (try dsimp only at hSw); go_simp; try (with_reducible rfl)
            try simp only [Act.put, List.getElem_toArray, List.getElem_cons_zero, List.getElem_cons_succ, List.setIfInBounds_toArray, List.set_cons_zero, List.set_cons_succ]
            refine wpTop.take 13 (v := ?_) rfl (by kernel_rfl) (by kernel_rfl) (by kernel_rfl) (by kernel_rfl) (fun _ _ _ h => h) (Or.inl ⟨by rfl, ?_⟩) (by assumption) ?_
            rotate_left
            · intro w hSw; (try dsimp only at hSw); go_simp; try (with_reducible rfl)
            try simp only [Act.put, List.getElem_toArray, List.getElem_cons_zero, List.getElem_cons_succ, List.setIfInBounds_toArray, List.set_cons_zero, List.set_cons_succ]
            refine wpTop.take 14 (v := ?_) rfl (by kernel_rfl) (by kernel_rfl) (by kernel_rfl) (by kernel_rfl) (fun _ _ _ h => h) (Or.inl ⟨by rfl, ?_⟩) (by assumption) ?_
            rotate_left
            · intro w hSw; (try dsimp only at hSw); go_simp; try (with_reducible rfl)
            try simp only [Act.put, List.getElem_toArray, List.getElem_cons_zero, List.getElem_cons_succ, List.setIfInBounds_toArray, List.set_cons_zero, List.set_cons_succ]
            refine wpTop.take 15 (v := ?_) rfl (by kernel_rfl) (by kernel_rfl) (by kernel_rfl) (by kernel_rfl) (fun _ _ _ h => h) (Or.inl ⟨by rfl, ?_⟩) (by assumption) ?_
            rotate_left
            · intro w hSw; (try dsimp only at hSw); go_simp; try (with_reducible rfl)
            try simp only [Act.put, List.getElem_toArray, List.getElem_cons_zero, List.getElem_cons_succ, List.setIfInBounds_toArray, List.set_cons_zero, List.set_cons_succ]
            refine wpTop.all (by kernel_rfl) ?_ _
            go_wp2_with fail
            go_roundw
            case rel => exact ⟨j1 + 1, j + 1, by rw [HJ1.out], by omega, by rw [HNX.out]; simp only [IntWalk.i64_left], by go_num, HBI.out.drew⟩
            case measure => simp [intOf]; omega
          · have hjn : j = n := by omega
            have i5 : ¬ (j1 : Int) < (n1 : Int) := by omega
            have how := hwi
            have hwN : N ≤ wr.heap.size := by have h1 := HBI.out.size; have h2 := HS9.out; omega
            have HWL : Hid (whL a (n + 1) = whL a n ++ [x]) := Lib.hid (by rw [whL, ← HX.out, hjn])
            have HAI := Lib.hid hai
            clear hjn hwi hai
            go_wp2_with (at_builtin; refine app_list rfl _ _ _ rfl N 3 i0 (.int .i64 0) 1 8 Try.underlying25 hi hz0 hz1 hz2 rfl (by decide) (.slice Aw n cw) n _ rfl (how.alloc _) (some ⟨wr.heap.size, 0, none⟩) 1 1 [.int .i64 x] rfl rfl (.inr ⟨_, rfl, new1 _ _ _⟩) (fun u hu => by simp at hu; subst hu; rfl) hbl hby (by simp; omega) ?_; intro v' w8 ho8 hg8 hv8)
            obtain ⟨A8, c8, rfl⟩ := own_val ho8
            rw [show ints (whL a n) ++ [.int .i64 x] = ints (whL a (n + 1)) by rw [HWL.out, ints_app1]; rfl] at ho8
            have hla := HAI.out.alloc (.cells #[.int .i64 x] 3)
            have hHA := own_blk hla fun k hk => hg8.block k (hla.lt k hk).2 (fun e => HD9.out k e.symm hk)
            have hHD : ∀ k, (Value.slice A8 (n + 1) c8).ownBlock = some k → (Value.slice (some ⟨g9, 0, none⟩) (n + 1) c9).ownBlock ≠ some k := fun k hk e => by
              rcases hv8 with h | h
              · exact HD9.out k (h.symm.trans hk) e
              · have h1 := (HAI.out.lt k e).2
                rw [h] at hk
                have := Option.some.inj hk
                simp at this; omega
            have hHB : Below N w _ := (((HB9.out.trans (HBI.out.mono HS9.out)).alloc hwN (.cells #[.int .i64 x] 3)).grown hg8 (by simp; omega) (fun j hj => (how.lt j hj).1))
            go_roundw
            case rel => exact ⟨n1 + 1, n + 1, A8, c8, some ⟨g9, 0, none⟩, c9, by rw [HN1.out], by omega, rfl, rfl, by go_num, ho8, hHA, hHD, hHB⟩
            case measure => simp [intOf]; omega
      · have hnb : n = b := by omega
        have i1 : ¬ (n1 : Int) ≤ (b : Int) := by omega
        have hr := HW.out
        obtain ⟨gw, rfl⟩ := own_form hr (by omega)
        have e0 : wr.cell? ⟨gw, b - 1, none⟩ = some (.int .i64 z) := by
          refine (hr.cellAt (b - 1) (by omega)).trans (ints_get1 ?_)
          rw [whL_at (by omega), hnb, HZ.out]
        have i4 : (b : Int) ≤ (n : Int) := by omega
        have i5 : (1 : Int) ≤ (b : Int) := by omega
        clear hr hnb
        go_wp2_with fail
        go_ret2
        exact ⟨rfl, HBR.out⟩
end Go.Proofs.Ytebnekicbcdnaaa
