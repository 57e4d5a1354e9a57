/- The model's AddWire. -/
import Derived.Test.YtllhhbgmdhlneaaNetA
namespace Go.Proofs.Ytllhhbgmdhlneaa
open Go.RowKit

theorem lit_at (w2 X : World) (b : Nat) (hb : X.heap.size = b) (h : w2.heap.size ≤ b) : (X.alloc (.cells #[] 47)).ownsRow w2.heap.size 47 2 (.slice (some ⟨b, 0, none⟩) 0 0) 0 [] := by
  subst hb
  exact own_base (World.ownsRow_lit X #[] 0 (Nat.le_refl _) (Nat.zero_le _) rfl) h
theorem new2g {W w6 : World} {a b : Value} {b0 : Nat} {row : Option Nat} (hg : W.grownBy w6 row) (hb : b0 < W.heap.size) (hne : row ≠ some b0) (hW : ∀ j u, [a, b][j]? = some u → W.cell? ((⟨b0, 0, none⟩ : Addr).add j) = some u) : ∀ j u, [a, b][j]? = some u → w6.cell? ((⟨b0, 0, none⟩ : Addr).add j) = some u := fun j u hj => by
  have h := hW j u hj
  rw [add_at] at h ⊢
  exact hg.cell h (fun e => hne e.symm)
set_option maxRecDepth 100000 in
set_option maxHeartbeats 8000000 in
theorem specAdd_any (N : Int) (A : Option Addr) (n c : Nat) (L : List Wi) (x y : Int) (w : World) (hl : L.length = n) (hn : n ≤ 1048576) (hL : WisAt w w.heap.size A L) :
    Calls Try.prog 31 #[.agg #[.int .i64 N, .slice A n c], .agg #[.int .i64 x, .int .i64 y]] w (RetNet w (addX N L ⟨x, y⟩) (addL N L ⟨x, y⟩) (dc (AddOk N L ⟨x, y⟩))) := by
  subst hl
  obtain ⟨W1, hW1⟩ : ∃ W1, W1 = ((w.alloc (.cells #[.int .i64 N, .slice A L.length c] 43)).alloc (.cells #[.int .i64 x, .int .i64 y] 47)).alloc (.cells #[.int .i64 0, .slice none 0 0] 43) := ⟨_, rfl⟩
  have Z1 : AR w.heap.size w W1 N A L.length c x y := by rw [hW1]; exact AR.start w N A L.length c x y
  have hL1 := hL.below Z1.bel
  obtain ⟨B, hB⟩ : ∃ B, w.heap.size = B := ⟨_, rfl⟩
  rw [hB] at Z1 hL hL1
  have hz1' := Z1.box.lt
  obtain ⟨_, n0, n1⟩ := id Z1.box
  have v0 := Z1.v0
  have v1 := Z1.v1
  by_cases hG : NetG N L
  · have hN12 := hG.1
    have h30 := hG.2.1
    by_cases hw : WOk N ⟨x, y⟩
    · by_cases h31 : L.length = 30
      · have hno : ¬ AddOk N L ⟨x, y⟩ := fun h => by have := ((netG_add hG).1 h.2).2; omega
        rw [addX_no hno, addL_no hno, dc_false hno]
        have e30 : ((L.length : Int) == 30) = true := by simp; omega
        have H31 := Lib.hid h31
        clear h31 hno
        go_enter Try.func31, Try.ntmps31
        go_wp2_with fail
        rw [← hW1]
        clear hW1
        refine (callB_yes (neGood_any N A _ c L _ rfl hn (hL1.mono (Nat.le_of_lt hz1'))) hG).mono ?_
        rintro e w2 ⟨rfl, hb2⟩
        have Z2 := Z1.keep hb2
        clear Z1 hb2 n0 n1 v0 v1 hG
        obtain ⟨hz, n0, n1⟩ := id Z2.box
        have v0 := Z2.v0
        have v1 := Z2.v1
        go_wp2_with fail
        refine (callB_yes (neWire_any x y N _ _ _ _ (by omega)) hw).mono ?_
        rintro e w3 ⟨rfl, hb3⟩
        have Z3 := Z2.keep hb3
        obtain ⟨_, r0, r1⟩ := id Z3.res
        have t0 := Z3.fz 0
        have t1 := Z3.fz 1
        have hB2 := Z3.bel
        obtain ⟨hz3, n0, n1⟩ := id Z3.box
        clear Z2 hb3 hL1 hw
        go_wp2_with fail
        refine bodyPost_ret (v := .tuple #[.agg #[.int .i64 0, .slice none 0 0], .bool false]) (by simp [results, Try.results31, go_sem, r0, r1]) rfl ?_
        exact RetNet.mk rfl (World.ownsRow_nil _ _ _ _) (by rw [hB]; exact (hB2.setCell (p := ⟨B + 2, 0, none⟩) (by simp) _).setCell (p := ⟨B + 2, 1, none⟩) (by simp) _)
      · have hok : AddOk N L ⟨x, y⟩ := ⟨hG, (netG_add hG).2 ⟨hw, by omega⟩⟩
        rw [addX_yes hok, addL_yes hok, dc_true hok]
        have e30 : ((L.length : Int) == 30) = false := by simp; omega
        obtain ⟨i0, hi, hz0, hz1, hz2⟩ := info_parts infoWi
        have H31 := Lib.hid h31
        clear h31 hok
        go_enter Try.func31, Try.ntmps31
        go_wp2_with fail
        rw [← hW1]
        clear hW1
        refine (callB_yes (neGood_any N A _ c L _ rfl hn (hL1.mono (Nat.le_of_lt hz1'))) hG).mono ?_
        rintro e w1 ⟨rfl, hb1⟩
        have Z2 := Z1.keep hb1
        clear Z1 hb1 n0 n1 v0 v1 hG
        obtain ⟨hz, n0, n1⟩ := id Z2.box
        have v0 := Z2.v0
        have v1 := Z2.v1
        go_wp2_with fail
        refine (callB_yes (neWire_any x y N _ _ _ _ (by omega)) hw).mono ?_
        rintro e w2 ⟨rfl, hb3⟩
        have Z3 := Z2.keep hb3
        clear Z2 hb3 hL1 hw n0 n1 v0 v1
        obtain ⟨hz, n0, n1⟩ := id Z3.box
        have v0 := Z3.v0
        have v1 := Z3.v1
        have PA0 := Lib.hid Z3.pa
        have HS : Hid (∀ w' : World, PA B w2 w' → PA B w2 w' ∧ w'.cell? ⟨B, 0, none⟩ = some (.int .i64 N) ∧ w'.cell? ⟨B, 1, none⟩ = some (.slice A L.length c) ∧ w'.cell? ⟨B + 1, 0, none⟩ = some (.int .i64 x) ∧ w'.cell? ⟨B + 1, 1, none⟩ = some (.int .i64 y)) := Lib.hid fun w' h =>
          ⟨h, (h.bel.cell (p := ⟨B, 0, none⟩) (by simp)).trans n0, (h.bel.cell (p := ⟨B, 1, none⟩) (by simp)).trans n1, (h.bel.cell (p := ⟨B + 1, 0, none⟩) (by simp)).trans v0, (h.bel.cell (p := ⟨B + 1, 1, none⟩) (by simp)).trans v1⟩
        have HW : Hid (∀ w' : World, PA B w2 w' → WisAt w' B A L) := Lib.hid fun w' h => (hL.below Z3.bel).below (h.bel.mono (by omega))
        have hbel := Z3.bel
        have hsz2 := Z3.res.lt
        have h1n : 1 ≤ L.length := h30.1
        have hby1 : L.length + 1 ≤ maxLen := by unfold maxLen; omega
        have hby2 : (L.length + 1) * 16 ≤ 140737488355328 := by omega
        have hby3 : 0 + L.length ≤ maxLen := by unfold maxLen; omega
        have hby4 : (0 + L.length) * 16 ≤ 140737488355328 := by omega
        clear Z3 hL
        go_wp2_with fail
        go_region_held3 (fun w' => PA B w2 w' ∧ w'.cell? ⟨B, 0, none⟩ = some (.int .i64 N) ∧ w'.cell? ⟨B, 1, none⟩ = some (.slice A L.length c) ∧ w'.cell? ⟨B + 1, 0, none⟩ = some (.int .i64 x) ∧ w'.cell? ⟨B + 1, 1, none⟩ = some (.int .i64 y))
          (first | exact HS.out _ PA0.out.drew | exact HS.out _ (by assumption) | exact HS.out _ (PA.alloc (And.left (by assumption)) _) | exact HS.out _ (PA.put (PA.put (And.left (by assumption)) _ _) _ _) | exact HS.out _ (PA.put (And.left (by assumption)) _ _))
          (first
            | (refine app_step rfl _ _ _ rfl w2.heap.size 47 i0 (.agg #[.int .i64 0, .int .i64 0]) 2 16 Try.underlying41 hi hz0 hz1 hz2 rfl (by decide) (.slice (some ⟨_, 0, none⟩) 0 0) 0 [] rfl (lit_at _ _ _ (by first | rfl | simp) (by first | exact Nat.le_refl _ | simp | (simp; omega))) A L.length c (flatW L) rfl (flatW_len L) (src_wis rfl h1n (HW.out _ (And.left (by assumption)))) (flatW_one _) hby3 hby4 (PA.sz (And.left (by assumption))) ?_; intro v' w6 hown6 hgr6 hv6; rw [Nat.zero_add, List.nil_append] at hown6; obtain ⟨A6, c6, rfl⟩ := own_val hown6; have hP6 : PA B w2 w6 := PA.grown (And.left (by assumption)) hgr6 (fun k hk => by simp [Value.ownBlock] at hk; subst hk; first | exact Nat.le_refl _ | simp | (simp; omega)); have o6 : w6.ownsRow w2.heap.size 47 2 (.slice A6 L.length c6) L.length (flatW L) := hown6)
            | (refine app_step rfl _ _ _ rfl w2.heap.size 47 i0 (.agg #[.int .i64 0, .int .i64 0]) 2 16 Try.underlying41 hi hz0 hz1 hz2 rfl (by decide) (.slice (some ⟨_, 0, none⟩) 0 0) 0 [] rfl ((lit_at _ _ _ (by first | rfl | simp) (by first | exact Nat.le_refl _ | simp | (simp; omega)))).drew A L.length c (flatW L) rfl (flatW_len L) (src_wis rfl h1n (HW.out _ (And.left (by assumption)))) (flatW_one _) hby3 hby4 (PA.sz (And.left (by assumption))) ?_; intro v' w6 hown6 hgr6 hv6; rw [Nat.zero_add, List.nil_append] at hown6; obtain ⟨A6, c6, rfl⟩ := own_val hown6; have hP6 : PA B w2 w6 := PA.grown (And.left (by assumption)) hgr6 (fun k hk => by simp [Value.ownBlock] at hk; subst hk; first | exact Nat.le_refl _ | simp | (simp; omega)); have o6 : w6.ownsRow w2.heap.size 47 2 (.slice A6 L.length c6) L.length (flatW L) := hown6)
            | (refine app_step rfl _ _ _ rfl w2.heap.size 47 i0 (.agg #[.int .i64 0, .int .i64 0]) 2 16 Try.underlying41 hi hz0 hz1 hz2 rfl (by decide) (.slice (some ⟨_, 0, none⟩) 0 0) 0 [] rfl (((lit_at _ _ _ (by first | rfl | simp) (by first | exact Nat.le_refl _ | simp | (simp; omega)))).alloc _) A L.length c (flatW L) rfl (flatW_len L) (src_wis rfl h1n (HW.out _ (And.left (by assumption)))) (flatW_one _) hby3 hby4 (PA.sz (And.left (by assumption))) ?_; intro v' w6 hown6 hgr6 hv6; rw [Nat.zero_add, List.nil_append] at hown6; obtain ⟨A6, c6, rfl⟩ := own_val hown6; have hP6 : PA B w2 w6 := PA.grown (And.left (by assumption)) hgr6 (fun k hk => by simp [Value.ownBlock] at hk; subst hk; first | exact Nat.le_refl _ | simp | (simp; omega)); have o6 : w6.ownsRow w2.heap.size 47 2 (.slice A6 L.length c6) L.length (flatW L) := hown6)
            | (refine app_step rfl _ _ _ rfl w2.heap.size 47 i0 (.agg #[.int .i64 0, .int .i64 0]) 2 16 Try.underlying41 hi hz0 hz1 hz2 rfl (by decide) (.slice (some ⟨_, 0, none⟩) 0 0) 0 [] rfl (((lit_at _ _ _ (by first | rfl | simp) (by first | exact Nat.le_refl _ | simp | (simp; omega)))).alloc _).drew A L.length c (flatW L) rfl (flatW_len L) (src_wis rfl h1n (HW.out _ (And.left (by assumption)))) (flatW_one _) hby3 hby4 (PA.sz (And.left (by assumption))) ?_; intro v' w6 hown6 hgr6 hv6; rw [Nat.zero_add, List.nil_append] at hown6; obtain ⟨A6, c6, rfl⟩ := own_val hown6; have hP6 : PA B w2 w6 := PA.grown (And.left (by assumption)) hgr6 (fun k hk => by simp [Value.ownBlock] at hk; subst hk; first | exact Nat.le_refl _ | simp | (simp; omega)); have o6 : w6.ownsRow w2.heap.size 47 2 (.slice A6 L.length c6) L.length (flatW L) := hown6)
            | (refine app_step rfl _ _ _ rfl w2.heap.size 47 i0 (.agg #[.int .i64 0, .int .i64 0]) 2 16 Try.underlying41 hi hz0 hz1 hz2 rfl (by decide) (.slice (some ⟨_, 0, none⟩) 0 0) 0 [] rfl (((lit_at _ _ _ (by first | rfl | simp) (by first | exact Nat.le_refl _ | simp | (simp; omega)))).drew).alloc _ A L.length c (flatW L) rfl (flatW_len L) (src_wis rfl h1n (HW.out _ (And.left (by assumption)))) (flatW_one _) hby3 hby4 (PA.sz (And.left (by assumption))) ?_; intro v' w6 hown6 hgr6 hv6; rw [Nat.zero_add, List.nil_append] at hown6; obtain ⟨A6, c6, rfl⟩ := own_val hown6; have hP6 : PA B w2 w6 := PA.grown (And.left (by assumption)) hgr6 (fun k hk => by simp [Value.ownBlock] at hk; subst hk; first | exact Nat.le_refl _ | simp | (simp; omega)); have o6 : w6.ownsRow w2.heap.size 47 2 (.slice A6 L.length c6) L.length (flatW L) := hown6)
            | (refine app_step rfl _ _ _ rfl w2.heap.size 47 i0 (.agg #[.int .i64 0, .int .i64 0]) 2 16 Try.underlying41 hi hz0 hz1 hz2 rfl (by decide) (.slice A6 L.length c6) L.length _ (by first | rfl | simp) (o6.alloc _) (some ⟨w6.heap.size, 0, none⟩) 1 1 [.int .i64 x, .int .i64 y] rfl rfl (.inr ⟨_, rfl, new2 _ _ _ _⟩) (one2 _ _) hby1 hby2 (PA.sz (And.left (by assumption))) ?_; intro v' w7 hown7 hgr7 hv7; obtain ⟨A7, c7, rfl⟩ := own_val hown7; have hP7 : PA B w2 w7 := PA.grown (And.left (by assumption)) hgr7 (fun k hk => (o6.lt k hk).1); obtain ⟨u0, r0⟩ := hP7.c0; obtain ⟨u1, r1⟩ := hP7.c1; have t0 := hP7.fz 0; have t1 := hP7.fz 1)
            | (refine app_step rfl _ _ _ rfl w2.heap.size 47 i0 (.agg #[.int .i64 0, .int .i64 0]) 2 16 Try.underlying41 hi hz0 hz1 hz2 rfl (by decide) (.slice A6 L.length c6) L.length _ (by first | rfl | simp) o6 (some ⟨_, 0, none⟩) 1 1 [.int .i64 x, .int .i64 y] rfl rfl (.inr ⟨_, rfl, new2g hgr6 (by first | (simp; done) | (simp; omega)) (by first | (simp [Value.ownBlock]; done) | (simp [Value.ownBlock]; omega)) (by intro j u hj; match j, hj with | 0, hj => (simp at hj; subst hj; simp [Addr.add]) | 1, hj => (simp at hj; subst hj; simp [Addr.add]))⟩) (one2 _ _) hby1 hby2 (PA.sz (And.left (by assumption))) ?_; intro v' w7 hown7 hgr7 hv7; obtain ⟨A7, c7, rfl⟩ := own_val hown7; have hP7 : PA B w2 w7 := PA.grown (And.left (by assumption)) hgr7 (fun k hk => (o6.lt k hk).1); obtain ⟨u0, r0⟩ := hP7.c0; obtain ⟨u1, r1⟩ := hP7.c1; have t0 := hP7.fz 0; have t1 := hP7.fz 1))
        all_goals
          have hB8 := hbel.trans (hP7.bel.mono (show B ≤ B + 2 by omega))
          go_wp2_with fail
          refine bodyPost_ret (v := .tuple #[.agg #[.int .i64 N, .slice A7 (L.length + 1) c7], .bool true]) (by simp [results, Try.results31, go_sem, r0, r1]) rfl ?_
          have RR := ownsRow_setCell_below (ownsRow_setCell_below hown7 (a := ⟨B + 2, 0, none⟩) hsz2 (.int .i64 N)) (a := ⟨B + 2, 1, none⟩) hsz2 (.slice A7 (L.length + 1) c7)
          exact RetNet.mk (by simp) (by rw [hB, flatW_app]; exact own_base RR (by omega)) (by rw [hB]; exact (hB8.setCell (p := ⟨B + 2, 0, none⟩) (by simp) _).setCell (p := ⟨B + 2, 1, none⟩) (by simp) _)
    · have hno : ¬ AddOk N L ⟨x, y⟩ := fun h => hw ((netG_add hG).1 h.2).1
      rw [addX_no hno, addL_no hno, dc_false hno]
      go_enter Try.func31, Try.ntmps31
      go_wp2_with fail
      rw [← hW1]
      clear hW1
      refine (callB_yes (neGood_any N A _ c L _ rfl hn (hL1.mono (Nat.le_of_lt hz1'))) hG).mono ?_
      rintro e w2 ⟨rfl, hb2⟩
      have Z2 := Z1.keep hb2
      clear Z1 hb2 n0 n1 v0 v1 hG
      obtain ⟨hz, n0, n1⟩ := id Z2.box
      have v0 := Z2.v0
      have v1 := Z2.v1
      go_wp2_with fail
      refine (callB_no (neWire_any x y N _ _ _ _ (by omega)) hw).mono ?_
      rintro e w3 ⟨rfl, hb3⟩
      have Z3 := Z2.keep hb3
      obtain ⟨_, r0, r1⟩ := id Z3.res
      have t0 := Z3.fz 0
      have t1 := Z3.fz 1
      have hB2 := Z3.bel
      clear Z2 hb3 hL1 hw hno n0 n1 v0 v1
      go_wp2_with fail
      refine bodyPost_ret (v := .tuple #[.agg #[.int .i64 0, .slice none 0 0], .bool false]) (by simp [results, Try.results31, go_sem, r0, r1]) rfl ?_
      exact RetNet.mk rfl (World.ownsRow_nil _ _ _ _) (by rw [hB]; exact (hB2.setCell (p := ⟨B + 2, 0, none⟩) (by simp) _).setCell (p := ⟨B + 2, 1, none⟩) (by simp) _)
  · have hno : ¬ AddOk N L ⟨x, y⟩ := fun h => hG h.1
    rw [addX_no hno, addL_no hno, dc_false hno]
    go_enter Try.func31, Try.ntmps31
    go_wp2_with fail
    rw [← hW1]
    clear hW1
    refine (callB_no (neGood_any N A _ c L _ rfl hn (hL1.mono (Nat.le_of_lt hz1'))) hG).mono ?_
    rintro e w2 ⟨rfl, hb2⟩
    have Z2 := Z1.keep hb2
    obtain ⟨_, r0, r1⟩ := id Z2.res
    have t0 := Z2.fz 0
    have t1 := Z2.fz 1
    have hB2 := Z2.bel
    clear Z1 hL1 n0 n1 hno v0 v1
    go_wp2_with fail
    refine bodyPost_ret (v := .tuple #[.agg #[.int .i64 0, .slice none 0 0], .bool false]) (by simp [results, Try.results31, go_sem, r0, r1]) rfl ?_
    exact RetNet.mk rfl (World.ownsRow_nil _ _ _ _) (by rw [hB]; exact (hB2.setCell (p := ⟨B + 2, 0, none⟩) (by simp) _).setCell (p := ⟨B + 2, 1, none⟩) (by simp) _)
end Go.Proofs.Ytllhhbgmdhlneaa
