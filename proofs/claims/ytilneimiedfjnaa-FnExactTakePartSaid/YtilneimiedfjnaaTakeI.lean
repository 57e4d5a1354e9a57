/- TakePart of the program. -/
import Derived.Test.YtilneimiedfjnaaTakeG
set_option linter.all false
namespace Go.Proofs.Ytilneimiedfjnaa
open Go.RowKit

set_option maxRecDepth 100000 in
set_option maxHeartbeats 16000000 in
theorem implTake_any (W H : Int) (A : Option Addr) (n c : Nat) (L : List Sq) (A' : Option Addr) (n' c' : Nat) (K : List Int) (w : World) (hl : L.length = n) (hl' : K.length = n') (hc : n ≤ c) (hn' : n' ≤ 1048576) (hL : SqsAt w w.heap.size A L) (hK : IntsAt w w.heap.size A' K) (hwf : ∀ s ∈ L, wfS s) :
    Calls Try.prog 19 #[.agg #[.int .i64 W, .int .i64 H, .slice A n c], .slice A' n' c'] w (RetT w (tpT W H L K)) := by
  subst hl
  subst hl'
  by_cases hG : Good W H L
  · by_cases hz : K.length = 0
    · have ba := (Bx.start w W H A L.length c 29).next ((Below.refl _ _).alloc (Nat.le_refl _) (.cells #[.int .i64 0, .int .i64 0, .slice none 0 0] 29))
      have br : Bx (w.heap.size + 1) ((w.alloc (.cells #[.int .i64 W, .int .i64 H, .slice A L.length c] 29)).alloc (.cells #[.int .i64 0, .int .i64 0, .slice none 0 0] 29)) 0 0 none 0 0 := by simpa using Bx.start (w.alloc (.cells #[.int .i64 W, .int .i64 H, .slice A L.length c] 29)) 0 0 none 0 0 29
      have hf : ∀ o, (((w.alloc (.cells #[.int .i64 W, .int .i64 H, .slice A L.length c] 29)).alloc (.cells #[.int .i64 0, .int .i64 0, .slice none 0 0] 29))).frozen? ⟨w.heap.size + 1, o, none⟩ = false := fun o => World.frozen?_alloc_at _ _ _ _ (by simp)
      have HB : Below w.heap.size w ((w.alloc (.cells #[.int .i64 W, .int .i64 H, .slice A L.length c] 29)).alloc (.cells #[.int .i64 0, .int .i64 0, .slice none 0 0] 29)) := ((Below.refl _ _).alloc (Nat.le_refl _) _).alloc (by simp) _
      obtain ⟨W1, hW1⟩ : ∃ W1, W1 = ((w.alloc (.cells #[.int .i64 W, .int .i64 H, .slice A L.length c] 29)).alloc (.cells #[.int .i64 0, .int .i64 0, .slice none 0 0] 29)) := ⟨_, rfl⟩
      have hs_0 : w.heap.size + 2 = W1.heap.size := by rw [hW1]; simp
      rw [← hW1] at ba br hf HB
      obtain ⟨al, a0, a1, a2⟩ := id ba
      go_enter Try.func19, Try.ntmps19
      go_wp2_with fail
      rw [← hW1]
      clear hW1
      refine (callB_yes (isCut_good W H A _ c L W1 rfl hc ((hL.below HB).mono HB.size) hwf) hG).mono ?_
      rintro e w2 ⟨rfl, hb⟩
      clear al a0 a1 a2
      replace hf := fun o => (hb.frozen (p := ⟨w.heap.size + 1, o, none⟩) (by show w.heap.size + 1 < _; omega)).trans (hf o)
      have hs_1 := hb.size
      replace HB := HB.trans (hb.mono HB.size)
      replace ba := ba.next hb
      replace br := br.next hb
      clear hb
      obtain ⟨rl, r0, r1, r2⟩ := id br
      have t0 := hf 0
      have t1 := hf 1
      have t2 := hf 2
      have d1 : (K.length == 0) = true := by simpa using hz
      have HN := Lib.hid (tpT_no (W := W) (H := H) (L := L) (K := K) (fun k => by have := k.2.1; omega))
      go_wp2_with fail
      rw [HN.out]
      have e1 := ((HB.setCell (p := ⟨w.heap.size + 1, 0, none⟩) (by simp) (.int .i64 0)).setCell (p := ⟨w.heap.size + 1, 1, none⟩) (by simp) (.int .i64 0)).setCell (p := ⟨w.heap.size + 1, 2, none⟩) (by simp) (.slice none 0 0)
      refine bodyPost_ret (v := .tuple #[.agg #[.int .i64 0, .int .i64 0, .slice none 0 0], .bool false]) (by simp [results, Try.results19, go_sem, r0, r1, r2]) rfl ?_
      exact RetT.no e1
    · replace hz : 0 < K.length := by omega
      have ba := (Bx.start w W H A L.length c 29).next ((Below.refl _ _).alloc (Nat.le_refl _) (.cells #[.int .i64 0, .int .i64 0, .slice none 0 0] 29))
      have br : Bx (w.heap.size + 1) ((w.alloc (.cells #[.int .i64 W, .int .i64 H, .slice A L.length c] 29)).alloc (.cells #[.int .i64 0, .int .i64 0, .slice none 0 0] 29)) 0 0 none 0 0 := by simpa using Bx.start (w.alloc (.cells #[.int .i64 W, .int .i64 H, .slice A L.length c] 29)) 0 0 none 0 0 29
      have hf : ∀ o, (((w.alloc (.cells #[.int .i64 W, .int .i64 H, .slice A L.length c] 29)).alloc (.cells #[.int .i64 0, .int .i64 0, .slice none 0 0] 29))).frozen? ⟨w.heap.size + 1, o, none⟩ = false := fun o => World.frozen?_alloc_at _ _ _ _ (by simp)
      have HB : Below w.heap.size w ((w.alloc (.cells #[.int .i64 W, .int .i64 H, .slice A L.length c] 29)).alloc (.cells #[.int .i64 0, .int .i64 0, .slice none 0 0] 29)) := ((Below.refl _ _).alloc (Nat.le_refl _) _).alloc (by simp) _
      obtain ⟨W1, hW1⟩ : ∃ W1, W1 = ((w.alloc (.cells #[.int .i64 W, .int .i64 H, .slice A L.length c] 29)).alloc (.cells #[.int .i64 0, .int .i64 0, .slice none 0 0] 29)) := ⟨_, rfl⟩
      have hs_0 : w.heap.size + 2 = W1.heap.size := by rw [hW1]; simp
      rw [← hW1] at ba br hf HB
      obtain ⟨al, a0, a1, a2⟩ := id ba
      go_enter Try.func19, Try.ntmps19
      go_wp2_with fail
      rw [← hW1]
      clear hW1
      refine (callB_yes (isCut_good W H A _ c L W1 rfl hc ((hL.below HB).mono HB.size) hwf) hG).mono ?_
      rintro e w2 ⟨rfl, hb⟩
      clear al a0 a1 a2
      replace hf := fun o => (hb.frozen (p := ⟨w.heap.size + 1, o, none⟩) (by show w.heap.size + 1 < _; omega)).trans (hf o)
      have hs_1 := hb.size
      replace HB := HB.trans (hb.mono HB.size)
      replace ba := ba.next hb
      replace br := br.next hb
      clear hb
      obtain ⟨rl, r0, r1, r2⟩ := id br
      have t0 := hf 0
      have t1 := hf 1
      have t2 := hf 2
      obtain ⟨al, a0, a1, a2⟩ := id ba
      have hd0 : (K.length == 0) = false := by rw [beq_eq_false_iff_ne]; omega
      have hdI : ((K.length : Int) == 0) = false := by rw [beq_eq_false_iff_ne]; omega
      obtain ⟨i0, hi, hz0, hz1, hz2⟩ := info_parts infoSq
      have hn := hG.2.2.1.2
      have hs2 : w.heap.size + 2 ≤ w2.heap.size := by omega
      go_wp2_with fail
      go_loopw [6, 7, 25] (fun pv lv iv wr => ∃ j : Nat, j ≤ K.length ∧ iv = .int .i64 j ∧ lv = .int .i64 (J.lastK K j) ∧ J.RisTo K L.length j ∧ Below (w.heap.size + 2) w2 wr ∧ w.heap.size + 2 ≤ wr.heap.size ∧ wr.ownsRow (w.heap.size + 2) 65 3 pv j (flat (J.selL L (K.take j)))) (fun _ _ i _ => K.length - (intOf i).toNat)
      case atStart => exact ⟨0, Nat.zero_le _, rfl, rfl, J.RisTo.zero _ _, Below.refl _ _, hs2, World.ownsRow_nil _ _ _ _⟩
      case round =>
        obtain ⟨j, hj, rfl, rfl, hR, hbr, hzr, hown⟩ := hrel
        have HBr := HB.trans (hbr.mono (by omega))
        have a2' := (hbr.cell (p := ⟨w.heap.size, 2, none⟩) (by show w.heap.size < _; omega)).trans a2
        have r0' := (hbr.cell (p := ⟨w.heap.size + 1, 0, none⟩) (by show w.heap.size + 1 < _; omega)).trans r0
        have r1' := (hbr.cell (p := ⟨w.heap.size + 1, 1, none⟩) (by show w.heap.size + 1 < _; omega)).trans r1
        have r2' := (hbr.cell (p := ⟨w.heap.size + 1, 2, none⟩) (by show w.heap.size + 1 < _; omega)).trans r2
        have t0' := (hbr.frozen (p := ⟨w.heap.size + 1, 0, none⟩) (by show w.heap.size + 1 < _; omega)).trans t0
        have t1' := (hbr.frozen (p := ⟨w.heap.size + 1, 1, none⟩) (by show w.heap.size + 1 < _; omega)).trans t1
        have t2' := (hbr.frozen (p := ⟨w.heap.size + 1, 2, none⟩) (by show w.heap.size + 1 < _; omega)).trans t2
        by_cases hlt : j < K.length
        · obtain ⟨z, hz⟩ : ∃ z, K[j]? = some z := ⟨_, List.getElem?_eq_getElem hlt⟩
          obtain ⟨kb, ko, rfl, kl, kc⟩ := hK j z hz
          have kc' : wr.cell? ⟨kb, ko + j, none⟩ = some (.int .i64 z) := (HBr.cell (p := ⟨kb, _, none⟩) kl).trans kc
          have jz : (0 : Int) ≤ (j : Int) := by omega
          have jl : (j : Int) < (K.length : Int) := by omega
          have hlow := hR.low (Nat.le_of_lt hlt)
          obtain ⟨la, hla⟩ : ∃ x, J.lastK K j = x := ⟨_, rfl⟩
          rw [hla] at hlow ⊢
          have HLA := Lib.hid hla
          have HZ := Lib.hid hz
          have HR := Lib.hid hR
          clear hz hK kc hla hR
          by_cases h1 : z ≤ la
          · have d1 : decide (z ≤ la) = true := decide_eq_true h1
            have hno : ¬ (Good W H L ∧ 0 < K.length ∧ J.RisTo K L.length K.length) := fun k => by have := (k.2.2 j z hlt HZ.out).1; rw [HLA.out] at this; omega
            have HN := Lib.hid (tpT_no hno)
            clear a2 r0 r1 r2 t0 t1 t2 a2' hno hL
            go_wp2_with fail
            rw [HN.out]
            have hB := ((HBr.setCell (p := ⟨w.heap.size + 1, 0, none⟩) (by simp) (.int .i64 0)).setCell (p := ⟨w.heap.size + 1, 1, none⟩) (by simp) (.int .i64 0)).setCell (p := ⟨w.heap.size + 1, 2, none⟩) (by simp) (.slice none 0 0)
            refine bodyPost_ret (v := .tuple #[.agg #[.int .i64 0, .int .i64 0, .slice none 0 0], .bool false]) (by simp [results, Try.results19, go_sem, r0', r1', r2']) rfl ?_
            exact RetT.no hB
          · have d1 : decide (z ≤ la) = false := decide_eq_false h1
            by_cases h2 : (L.length : Int) ≤ z
            · have d2 : decide ((L.length : Int) ≤ z) = true := decide_eq_true h2
              have hno : ¬ (Good W H L ∧ 0 < K.length ∧ J.RisTo K L.length K.length) := fun k => by have := (k.2.2 j z hlt HZ.out).2; omega
              have HN := Lib.hid (tpT_no hno)
              clear a2 r0 r1 r2 t0 t1 t2 hno hL
              go_wp2_with fail
              rw [HN.out]
              have hB := ((HBr.setCell (p := ⟨w.heap.size + 1, 0, none⟩) (by simp) (.int .i64 0)).setCell (p := ⟨w.heap.size + 1, 1, none⟩) (by simp) (.int .i64 0)).setCell (p := ⟨w.heap.size + 1, 2, none⟩) (by simp) (.slice none 0 0)
              refine bodyPost_ret (v := .tuple #[.agg #[.int .i64 0, .int .i64 0, .slice none 0 0], .bool false]) (by simp [results, Try.results19, go_sem, r0', r1', r2']) rfl ?_
              exact RetT.no hB
            · have d2 : decide ((L.length : Int) ≤ z) = false := decide_eq_false h2
              obtain ⟨q, rfl⟩ : ∃ q : Nat, z = q := ⟨z.toNat, by omega⟩
              obtain ⟨s, hs⟩ : ∃ s, L[q]? = some s := ⟨_, List.getElem?_eq_getElem (by omega)⟩
              obtain ⟨b, off, rfl, hb, c0, c1, c2⟩ := hL q s hs
              have c0' : wr.cell? ⟨b, off + q * 3, none⟩ = some (.int .i64 s.x) := (HBr.cell (p := ⟨b, _, none⟩) hb).trans c0
              have c1' : wr.cell? ⟨b, off + q * 3 + 1, none⟩ = some (.int .i64 s.y) := (HBr.cell (p := ⟨b, _, none⟩) hb).trans c1
              have c2' : wr.cell? ⟨b, off + q * 3 + 2, none⟩ = some (.int .i64 s.d) := (HBr.cell (p := ⟨b, _, none⟩) hb).trans c2
              have qz : (0 : Int) ≤ (q : Int) := by omega
              have ql : (q : Int) < (L.length : Int) := by omega
              have HSel := Lib.hid (J.selL_take_succ L K j q s HZ.out hs)
              have HR2 := Lib.hid (HR.out.succ HZ.out (by rw [HLA.out]; omega) (by omega))
              have HL2 := Lib.hid (J.lastK_succ HZ.out)
              have hbl : j + 1 ≤ maxLen := by unfold maxLen; omega
              have hby : (j + 1) * 24 ≤ 140737488355328 := by omega
              obtain ⟨A3, c3, rfl⟩ := own_val hown
              clear hs c0 c1 c2 hL a2 r0 r1 r2 t0 t1 t2 r0' r1' r2' t0' t1' t2'
              go_wp2_with (at_builtin; refine app_list rfl _ _ _ rfl (w.heap.size + 2) 65 i0 (.agg #[.int .i64 0, .int .i64 0, .int .i64 0]) 3 24 Try.underlying27 hi hz0 hz1 hz2 rfl (by decide) (.slice A3 j c3) j _ rfl (hown.alloc _) (some ⟨wr.heap.size, 0, none⟩) 1 1 [.int .i64 s.x, .int .i64 s.y, .int .i64 s.d] rfl rfl (.inr ⟨_, rfl, new3 _ _ _ _ _⟩) (one3 _ _ _) hbl hby (by simp; omega) ?_; intro v' w6 hown6 hgrow hv6)
              have hb6 : Below (w.heap.size + 2) w2 w6 := (hbr.alloc hzr _).grown hgrow (by simp; omega) (fun kk e => (hown.lt kk e).1)
              have hz6 := hgrow.size
              simp at hz6
              go_roundw
              case rel => exact ⟨j + 1, by omega, by go_num, by rw [HL2.out], HR2.out, hb6, by omega, by rw [HSel.out, flat_app]; exact hown6⟩
              case measure => simp [intOf]; omega
        · obtain rfl : j = K.length := by omega
          rw [List.take_of_length_le (Nat.le_refl _)] at hown
          obtain ⟨A6, c6, rfl⟩ := own_val hown
          obtain ⟨g6, rfl⟩ := own_form hown hz
          have hmem := J.sel_mem hR
          have hlP : (J.selL L K).length = K.length := J.selL_len L K
          have htp := tpT_yes hG hz hR
          obtain ⟨P, hP⟩ : ∃ P, J.selL L K = P := ⟨_, rfl⟩
          rw [hP] at hown hmem hlP htp
          have hsm : ∀ s ∈ P, (0 ≤ s.x ∧ s.x ≤ 500) ∧ (0 ≤ s.y ∧ s.y ≤ 500) ∧ (1 ≤ s.d ∧ s.d ≤ 500) := fun s hs => by have h1 := (good_fill hG).within s (hmem s hs); have h2 := hG.1; have h3 := hG.2.1; unfold Within at h1; omega
          obtain ⟨f, hf⟩ : ∃ f, P[0]? = some f := ⟨_, List.getElem?_eq_getElem (by omega)⟩
          have hhd : hdS P = f := by cases P with
            | nil => simp at hf
            | cons a r => simp at hf; exact hf
          have hq := sqs_of_own hown
          obtain ⟨gb, go, ge, gl, y0, y1, y2⟩ := hq 0 f hf
          simp only [Option.some.injEq, Addr.mk.injEq] at ge
          obtain ⟨rfl, rfl, _⟩ := ge
          simp only [Nat.zero_mul, Nat.add_zero, Nat.zero_add] at y0 y1 y2
          have hfs := hsm f (List.mem_of_getElem? hf)
          have wx : IntKind.i64.wrap (-f.x) = -f.x := IntWalk.i64_in _ (by omega)
          have wy : IntKind.i64.wrap (-f.y) = -f.y := IntWalk.i64_in _ (by omega)
          have Kz : (0 : Int) < (K.length : Int) := by omega
          have CM := moved_any (some ⟨g6, 0, none⟩) K.length c6 P (-f.x) (-f.y) wr.drew hlP (by omega) ((hq.below (Below.refl _ _).drew).mono (by simp)) (fun s hs => by have := hsm s hs; unfold SmallS; omega) (by omega) (by omega)
          have HS : ∀ w' : World, Below wr.heap.size wr w' → w'.cell? ⟨g6, 0, none⟩ = some (.int .i64 f.x) ∧ w'.cell? ⟨g6, 1, none⟩ = some (.int .i64 f.y) := fun w' hb => ⟨(hb.cell (p := ⟨g6, 0, none⟩) gl).trans y0, (hb.cell (p := ⟨g6, 1, none⟩) gl).trans y1⟩
          have hlQ : (J.mvL (-f.x) (-f.y) P).length = K.length := by rw [J.mvL_len]; exact hlP
          have hsq : ∀ s ∈ J.mvL (-f.x) (-f.y) P, (-500 ≤ s.x ∧ s.x ≤ 500) ∧ (-500 ≤ s.y ∧ s.y ≤ 500) ∧ (1 ≤ s.d ∧ s.d ≤ 500) := fun s hs => by
            obtain ⟨t, ht, rfl⟩ := List.mem_map.1 hs
            have := hsm t ht
            simp only [J.mvS]; omega
          have htm : tpT W H L K = Mk (J.mxF (fun s => s.x + s.d) (J.mvL (-f.x) (-f.y) P)) (J.mxF (fun s => s.y + s.d) (J.mvL (-f.x) (-f.y) P)) (J.mvL (-f.x) (-f.y) P) := by rw [htp, tpM, hhd]
          obtain ⟨Q, hQ⟩ : ∃ Q, J.mvL (-f.x) (-f.y) P = Q := ⟨_, rfl⟩
          rw [hQ] at CM hlQ hsq htm
          have HTM := Lib.hid htm
          have HLQ := Lib.hid hlQ
          clear htm htp hP hQ hhd hf hmem hsm hq y2 hL hK a2' a2 r0 r1 r2 t0 t1 t2 hlP
          go_wp2_with fail
          refine wp_region_top 12 (fun w' => w'.cell? ⟨g6, 0, none⟩ = some (.int .i64 f.x) ∧ w'.cell? ⟨g6, 1, none⟩ = some (.int .i64 f.y)) (by kernel_rfl) (HS _ ((Below.refl _ _).drew)) (fun hHeld => ?_)
          refine wpTop.take 0 (v := ?_) rfl (by kernel_rfl) (by kernel_rfl) (by kernel_rfl) (by kernel_rfl) (fun _ _ _ h => h) (Or.inl ⟨by rfl, ?_⟩) (by assumption) ?_
          rotate_left
          · intro w hSw; (try dsimp only at hSw); go_simp; try (with_reducible rfl)
          try simp only [Act.put, List.setIfInBounds_toArray, List.set_cons_zero, List.set_cons_succ]
          refine wpTop.take 1 (v := ?_) rfl (by kernel_rfl) (by kernel_rfl) (by kernel_rfl) (by kernel_rfl) (fun _ _ _ h => h) (Or.inl ⟨by rfl, ?_⟩) (by assumption) ?_
          rotate_left
          · intro w hSw; (try dsimp only at hSw); go_simp; try (with_reducible rfl)
          try simp only [Act.put, List.setIfInBounds_toArray, List.set_cons_zero, List.set_cons_succ]
          refine wpTop.take 2 (v := ?_) rfl (by kernel_rfl) (by kernel_rfl) (by kernel_rfl) (by kernel_rfl) (fun _ _ _ h => h) (Or.inl ⟨by rfl, ?_⟩) (by assumption) ?_
          rotate_left
          · intro w hSw; (try dsimp only at hSw); go_simp; try (with_reducible rfl)
          try simp only [Act.put, List.setIfInBounds_toArray, List.set_cons_zero, List.set_cons_succ]
          refine wpTop.take 3 (v := ?_) rfl (by kernel_rfl) (by kernel_rfl) (by kernel_rfl) (by kernel_rfl) (fun _ _ _ h => h) (Or.inl ⟨by rfl, ?_⟩) (by assumption) ?_
          rotate_left
          · intro w hSw; (try dsimp only at hSw); go_simp; try (with_reducible rfl)
          try simp only [Act.put, List.setIfInBounds_toArray, List.set_cons_zero, List.set_cons_succ]
          refine wpTop.take 4 (v := ?_) rfl (by kernel_rfl) (by kernel_rfl) (by kernel_rfl) (by kernel_rfl) (fun _ _ _ h => h) (Or.inl ⟨by rfl, ?_⟩) (by assumption) ?_
          rotate_left
          · intro w hSw; (try dsimp only at hSw); go_simp; try (with_reducible rfl)
          try simp only [Act.put, List.setIfInBounds_toArray, List.set_cons_zero, List.set_cons_succ]
          refine wpTop.take 5 (v := ?_) rfl (by kernel_rfl) (by kernel_rfl) (by kernel_rfl) (by kernel_rfl) (fun _ _ _ h => h) (Or.inl ⟨by rfl, ?_⟩) (by assumption) ?_
          rotate_left
          · intro w hSw; (try dsimp only at hSw); go_simp; try (with_reducible rfl)
          try simp only [Act.put, List.setIfInBounds_toArray, List.set_cons_zero, List.set_cons_succ]
          refine wpTop.take 6 (v := ?_) rfl (by kernel_rfl) (by kernel_rfl) (by kernel_rfl) (by kernel_rfl) (fun _ _ _ h => h) (Or.inl ⟨by rfl, ?_⟩) (by assumption) ?_
          rotate_left
          · intro w hSw; (try dsimp only at hSw); go_simp; try (with_reducible rfl)
          try simp only [Act.put, List.setIfInBounds_toArray, List.set_cons_zero, List.set_cons_succ]
          refine wpTop.take 7 (v := ?_) rfl (by kernel_rfl) (by kernel_rfl) (by kernel_rfl) (by kernel_rfl) (fun _ _ _ h => h) (Or.inl ⟨by rfl, ?_⟩) (by assumption) ?_
          rotate_left
          · intro w hSw; (try dsimp only at hSw); go_simp; try (with_reducible rfl)
          try simp only [Act.put, List.setIfInBounds_toArray, List.set_cons_zero, List.set_cons_succ]
          refine wpTop.take 8 (v := ?_) rfl (by kernel_rfl) (by kernel_rfl) (by kernel_rfl) (by kernel_rfl) (fun _ _ _ h => h) (Or.inl ⟨by rfl, ?_⟩) (by assumption) ?_
          rotate_left
          · intro w hSw; (try dsimp only at hSw); go_simp; try (with_reducible rfl)
          try simp only [Act.put, List.setIfInBounds_toArray, List.set_cons_zero, List.set_cons_succ]
          refine wpTop.take 9 (v := ?_) rfl (by kernel_rfl) (by kernel_rfl) (by kernel_rfl) (by kernel_rfl) (fun _ _ _ h => h) (Or.inl ⟨by rfl, ?_⟩) (by assumption) ?_
          rotate_left
          · intro w hSw; (try dsimp only at hSw); go_simp; try (with_reducible rfl)
          try simp only [Act.put, List.setIfInBounds_toArray, List.set_cons_zero, List.set_cons_succ]
          refine wpTop.take 10 (v := ?_) rfl (by kernel_rfl) (by kernel_rfl) (by kernel_rfl) (by kernel_rfl) (fun _ _ _ h => h) (Or.inl ⟨by rfl, ?_⟩) (by assumption) ?_
          rotate_left
          · intro w hSw; (try dsimp only at hSw); go_simp; try (with_reducible rfl)
          try simp only [Act.put, List.setIfInBounds_toArray, List.set_cons_zero, List.set_cons_succ]
          refine wpTop.one 11 rfl (by kernel_rfl) (fun K hK => ?_)
          go_simp
          (with_reducible refine CM.mono ?_)
          rintro e w3 ⟨Am, cm, rfl, om, hb3'⟩
          have hb3 : Below wr.heap.size wr w3 := ((Below.refl wr.heap.size wr).drew).trans hb3'
          rw [hlQ] at om ⊢
          refine hK.out _ _ (fun _ => HS _ hb3) (fun hH => ?_)
          clear hK K
          have hHeld := hH (by decide)
          clear hH
          try simp only [Act.put, List.setIfInBounds_toArray, List.set_cons_zero, List.set_cons_succ]
          refine wpTop.one 12 rfl (by kernel_rfl) (fun K hK => ?_)
          go_simp

          refine hK.out _ _ (fun h => absurd h (by decide)) (fun hH => ?_)
          clear hK K
          clear hH
          try simp only [Act.put, List.setIfInBounds_toArray, List.set_cons_zero, List.set_cons_succ]
          refine wpTop.all (by kernel_rfl) ?_ _
          have hz3 : w.heap.size + 2 ≤ w3.heap.size := by have := hb3.size; omega
          have HB3 : Below w.heap.size w w3 := HBr.trans (hb3.mono (by omega))
          have r0'' := (hb3.cell (p := ⟨w.heap.size + 1, 0, none⟩) (by show w.heap.size + 1 < _; omega)).trans r0'
          have r1'' := (hb3.cell (p := ⟨w.heap.size + 1, 1, none⟩) (by show w.heap.size + 1 < _; omega)).trans r1'
          have r2'' := (hb3.cell (p := ⟨w.heap.size + 1, 2, none⟩) (by show w.heap.size + 1 < _; omega)).trans r2'
          have t0'' := (hb3.frozen (p := ⟨w.heap.size + 1, 0, none⟩) (by show w.heap.size + 1 < _; omega)).trans t0'
          have t1'' := (hb3.frozen (p := ⟨w.heap.size + 1, 1, none⟩) (by show w.heap.size + 1 < _; omega)).trans t1'
          have t2'' := (hb3.frozen (p := ⟨w.heap.size + 1, 2, none⟩) (by show w.heap.size + 1 < _; omega)).trans t2'
          have qm := sqs_of_own om
          have zm := own_nil0 om
          have om2 := own_base (base' := w.heap.size + 2) om (by have := hzr; simp; omega)
          clear r0' r1' r2' t0' t1' t2' y0 y1 HS CM hHeld om hb3'
          go_wp2_with fail
          go_loopw [10, 11, 64] (fun a b i wi => ∃ j : Nat, j ≤ K.length ∧ i = .int .i64 j ∧ a = .int .i64 (J.mxF (fun s => s.x + s.d) (Q.take j)) ∧ b = .int .i64 (J.mxF (fun s => s.y + s.d) (Q.take j)) ∧ Below w3.heap.size w3 wi) (fun _ _ i _ => K.length - (intOf i).toNat)
          case atStart => exact ⟨0, Nat.zero_le _, rfl, by simp [J.mxF], by simp [J.mxF], Below.refl _ _⟩
          case round =>
            obtain ⟨j, hj', rfl, rfl, rfl, hbi⟩ := hrel
            have hqi := (qm.below hbi)
            have hsi := hbi.size
            by_cases hlt : j < K.length
            · obtain ⟨s, hs⟩ : ∃ s, Q[j]? = some s := ⟨_, List.getElem?_eq_getElem (by rw [HLQ.out]; exact hlt)⟩
              obtain ⟨b, off, rfl, hb, c0, c1, c2⟩ := hqi j s hs
              have hss := hsq s (List.mem_of_getElem? hs)
              have m1 := J.mxF_bound (fun s => s.x + s.d) (Q.take j) 1000 (by decide) (fun t ht => by have := hsq t (List.mem_of_mem_take ht); omega)
              have m2 := J.mxF_bound (fun s => s.y + s.d) (Q.take j) 1000 (by decide) (fun t ht => by have := hsq t (List.mem_of_mem_take ht); omega)
              have HX := Lib.hid (J.mxF_take_succ (fun s => s.x + s.d) Q j s hs)
              have HY := Lib.hid (J.mxF_take_succ (fun s => s.y + s.d) Q j s hs)
              obtain ⟨X, hX⟩ : ∃ x, J.mxF (fun s => s.x + s.d) (Q.take j) = x := ⟨_, rfl⟩
              obtain ⟨Y, hY⟩ : ∃ x, J.mxF (fun s => s.y + s.d) (Q.take j) = x := ⟨_, rfl⟩
              rw [hX] at m1 ⊢
              rw [hY] at m2 ⊢
              have HX2 := Lib.hid hX
              have HY2 := Lib.hid hY
              have jz : (0 : Int) ≤ (j : Int) := by omega
              have jl : (j : Int) < (K.length : Int) := by omega
              have wx1 : IntKind.i64.wrap (s.x + s.d) = s.x + s.d := IntWalk.i64_in _ (by omega)
              have wy1 : IntKind.i64.wrap (s.y + s.d) = s.y + s.d := IntWalk.i64_in _ (by omega)
              clear hs hqi hX hY hsq qm
              go_wp2_with fail
              go_region
              go_wp2_with fail
              exact ⟨⟨j + 1, by omega, by go_num, by rw [HX.out, HX2.out], by rw [HY.out, HY2.out], (hbi.alloc hsi _).drew⟩, by simp [intOf]; omega⟩
            · obtain rfl : j = K.length := by omega
              rw [List.take_of_length_le (by rw [HLQ.out]; exact Nat.le_refl _)]
              have omr := own_keep om2 hbi
              have hwQ : ∀ s ∈ Q, wfS s := fun s hs => wf_small (m := 1000) (by decide) (by have := hsq s hs; omega)
              obtain ⟨X, hX⟩ : ∃ x, J.mxF (fun s => s.x + s.d) Q = x := ⟨_, rfl⟩
              obtain ⟨Y, hY⟩ : ∃ x, J.mxF (fun s => s.y + s.d) Q = x := ⟨_, rfl⟩
              rw [hX, hY]
              have htm := HTM.out
              rw [hX, hY] at htm
              have HT2 := Lib.hid htm
              have CO := implCutOf_any X Y Am K.length cm Q wr HLQ.out hn' zm (sqs_of_own omr) hwQ
              have HB4 : Below w.heap.size w wr := HB3.trans (hbi.mono (by omega))
              have u0 := (hbi.cell (p := ⟨w.heap.size + 1, 0, none⟩) (by show w.heap.size + 1 < _; omega)).trans r0''
              have u1 := (hbi.cell (p := ⟨w.heap.size + 1, 1, none⟩) (by show w.heap.size + 1 < _; omega)).trans r1''
              have u2 := (hbi.cell (p := ⟨w.heap.size + 1, 2, none⟩) (by show w.heap.size + 1 < _; omega)).trans r2''
              have v0 := (hbi.frozen (p := ⟨w.heap.size + 1, 0, none⟩) (by show w.heap.size + 1 < _; omega)).trans t0''
              have v1 := (hbi.frozen (p := ⟨w.heap.size + 1, 1, none⟩) (by show w.heap.size + 1 < _; omega)).trans t1''
              have v2 := (hbi.frozen (p := ⟨w.heap.size + 1, 2, none⟩) (by show w.heap.size + 1 < _; omega)).trans t2''
              clear r0'' r1'' r2'' t0'' t1'' t2'' hX hY htm hqi qm
              go_wp2_with fail
              refine CO.mono ?_
              rintro e w9 hret
              have hret : RetT wr (Mk X Y Q) e w9 := hret
              obtain ⟨Z, hZ⟩ : ∃ Z, Mk X Y Q = Z := ⟨_, rfl⟩
              rw [hZ] at hret
              have HZ := Lib.hid (HT2.out.trans hZ)
              clear hZ CO
              obtain ⟨A9, c9, rfl, o9, hb9⟩ := hret
              have o9 := own_base (base' := w.heap.size + 2) o9 (by omega)
              have HB := HB4.trans (hb9.mono HB4.size)
              have r0 := (hb9.cell (p := ⟨w.heap.size + 1, 0, none⟩) (by show w.heap.size + 1 < _; omega)).trans u0
              have r1 := (hb9.cell (p := ⟨w.heap.size + 1, 1, none⟩) (by show w.heap.size + 1 < _; omega)).trans u1
              have r2 := (hb9.cell (p := ⟨w.heap.size + 1, 2, none⟩) (by show w.heap.size + 1 < _; omega)).trans u2
              have t0 := (hb9.frozen (p := ⟨w.heap.size + 1, 0, none⟩) (by show w.heap.size + 1 < _; omega)).trans v0
              have t1 := (hb9.frozen (p := ⟨w.heap.size + 1, 1, none⟩) (by show w.heap.size + 1 < _; omega)).trans v1
              have t2 := (hb9.frozen (p := ⟨w.heap.size + 1, 2, none⟩) (by show w.heap.size + 1 < _; omega)).trans v2
              clear u0 u1 u2 v0 v1 v2
              go_wp2_with fail
              have e1 := ((HB.setCell (p := ⟨w.heap.size + 1, 0, none⟩) (by simp) (.int .i64 Z.1)).setCell (p := ⟨w.heap.size + 1, 1, none⟩) (by simp) (.int .i64 Z.2.1)).setCell (p := ⟨w.heap.size + 1, 2, none⟩) (by simp) (.slice A9 Z.2.2.1.length c9)
              have e2 := own_base (base' := w.heap.size) (ownsRow_setCell_below (ownsRow_setCell_below (ownsRow_setCell_below o9 (a := ⟨w.heap.size + 1, 0, none⟩) (by first | omega | (simp; done) | (simp; omega)) (.int .i64 Z.1)) (a := ⟨w.heap.size + 1, 1, none⟩) (by first | omega | (simp; done) | (simp; omega)) (.int .i64 Z.2.1)) (a := ⟨w.heap.size + 1, 2, none⟩) (by first | omega | (simp; done) | (simp; omega)) (.slice A9 Z.2.2.1.length c9)) (by omega)
              rw [HZ.out]
              refine bodyPost_ret (v := .tuple #[.agg #[.int .i64 Z.1, .int .i64 Z.2.1, .slice A9 Z.2.2.1.length c9], .bool Z.2.2.2]) (by simp [results, Try.results19, go_sem, r0, r1, r2]) rfl ?_
              exact ⟨A9, c9, rfl, e2, e1⟩
  · have ba := (Bx.start w W H A L.length c 29).next ((Below.refl _ _).alloc (Nat.le_refl _) (.cells #[.int .i64 0, .int .i64 0, .slice none 0 0] 29))
    have br : Bx (w.heap.size + 1) ((w.alloc (.cells #[.int .i64 W, .int .i64 H, .slice A L.length c] 29)).alloc (.cells #[.int .i64 0, .int .i64 0, .slice none 0 0] 29)) 0 0 none 0 0 := by simpa using Bx.start (w.alloc (.cells #[.int .i64 W, .int .i64 H, .slice A L.length c] 29)) 0 0 none 0 0 29
    have hf : ∀ o, (((w.alloc (.cells #[.int .i64 W, .int .i64 H, .slice A L.length c] 29)).alloc (.cells #[.int .i64 0, .int .i64 0, .slice none 0 0] 29))).frozen? ⟨w.heap.size + 1, o, none⟩ = false := fun o => World.frozen?_alloc_at _ _ _ _ (by simp)
    have HB : Below w.heap.size w ((w.alloc (.cells #[.int .i64 W, .int .i64 H, .slice A L.length c] 29)).alloc (.cells #[.int .i64 0, .int .i64 0, .slice none 0 0] 29)) := ((Below.refl _ _).alloc (Nat.le_refl _) _).alloc (by simp) _
    obtain ⟨W1, hW1⟩ : ∃ W1, W1 = ((w.alloc (.cells #[.int .i64 W, .int .i64 H, .slice A L.length c] 29)).alloc (.cells #[.int .i64 0, .int .i64 0, .slice none 0 0] 29)) := ⟨_, rfl⟩
    have hs_0 : w.heap.size + 2 = W1.heap.size := by rw [hW1]; simp
    rw [← hW1] at ba br hf HB
    obtain ⟨al, a0, a1, a2⟩ := id ba
    go_enter Try.func19, Try.ntmps19
    go_wp2_with fail
    rw [← hW1]
    clear hW1
    refine (callB_no (isCut_good W H A _ c L W1 rfl hc ((hL.below HB).mono HB.size) hwf) hG).mono ?_
    rintro e w2 ⟨rfl, hb⟩
    clear al a0 a1 a2
    replace hf := fun o => (hb.frozen (p := ⟨w.heap.size + 1, o, none⟩) (by show w.heap.size + 1 < _; omega)).trans (hf o)
    have hs_1 := hb.size
    replace HB := HB.trans (hb.mono HB.size)
    replace ba := ba.next hb
    replace br := br.next hb
    clear hb
    obtain ⟨rl, r0, r1, r2⟩ := id br
    have t0 := hf 0
    have t1 := hf 1
    have t2 := hf 2
    go_wp2_with fail
    rw [tpT_no (fun k => hG k.1)]
    have e1 := ((HB.setCell (p := ⟨w.heap.size + 1, 0, none⟩) (by simp) (.int .i64 0)).setCell (p := ⟨w.heap.size + 1, 1, none⟩) (by simp) (.int .i64 0)).setCell (p := ⟨w.heap.size + 1, 2, none⟩) (by simp) (.slice none 0 0)
    refine bodyPost_ret (v := .tuple #[.agg #[.int .i64 0, .int .i64 0, .slice none 0 0], .bool false]) (by simp [results, Try.results19, go_sem, r0, r1, r2]) rfl ?_
    exact RetT.no e1
end Go.Proofs.Ytilneimiedfjnaa
