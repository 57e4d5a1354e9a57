/- Squares put at an edge: the model. -/
import Derived.Test.YtnnhgblgbbfmpaaPutA
import Derived.Test.YtnnhgblgbbfmpaaTwo
set_option linter.all false
namespace Go.Proofs.Ytnnhgblgbbfmpaa
open Go.RowKit

set_option maxRecDepth 100000 in
set_option maxHeartbeats 8000000 in
theorem joPut_any (W H : Int) (A : Option Addr) (n c : Nat) (L : List Sq) (e0 : Int) (w : World) (hl : L.length = n) (hL : SqsAt w w.heap.size A L) (hG : Good W H L) (he : 0 ≤ e0 ∧ e0 ≤ 3) :
    Calls Try.prog 92 #[.agg #[.int .i64 W, .int .i64 H, .slice A n c], .int .i64 e0] w (RetT w (putT W H L e0)) := by
  subst hl
  obtain ⟨i0, hi, hz0, hz1, hz2⟩ := info_parts infoSq
  have sm1 : ∀ s ∈ L, (0 ≤ s.x ∧ s.x ≤ 500) ∧ (0 ≤ s.y ∧ s.y ≤ 500) ∧ (0 ≤ s.d ∧ s.d ≤ 500) := fun s hs => by have h1 := (good_fill hG).within s hs; have h2 := hG.1; have h3 := hG.2.1; unfold Within at h1; omega
  have hn := hG.2.2.1.2
  obtain ⟨w1, w2⟩ := hG.1
  obtain ⟨h1, h2⟩ := hG.2.1
  have pw : IntKind.i64.wrap (W + H) = W + H := IntWalk.i64_in _ (by omega)
  have pw2 : IntKind.i64.wrap (H + W) = H + W := IntWalk.i64_in _ (by omega)
  have hk1 : L.length + 1 ≤ maxLen := by unfold maxLen; omega
  have hk2 : (L.length + 1) * 24 ≤ 140737488355328 := by omega
  rcases (by omega : e0 = 0 ∨ e0 = 1 ∨ e0 = 2 ∨ e0 = 3) with rfl | rfl | rfl | rfl
  · have ba := (Bx.start w W H A L.length c 28).next ((Below.refl _ _).alloc (Nat.le_refl _) (.cells #[.int .i64 0, .int .i64 0, .slice none 0 0] 28))
    have br : Bx (w.heap.size + 1) ((w.alloc (.cells #[.int .i64 W, .int .i64 H, .slice A L.length c] 28)).alloc (.cells #[.int .i64 0, .int .i64 0, .slice none 0 0] 28)) 0 0 none 0 0 := by simpa using Bx.start (w.alloc (.cells #[.int .i64 W, .int .i64 H, .slice A L.length c] 28)) 0 0 none 0 0 28
    have hf : ∀ o, (((w.alloc (.cells #[.int .i64 W, .int .i64 H, .slice A L.length c] 28)).alloc (.cells #[.int .i64 0, .int .i64 0, .slice none 0 0] 28))).frozen? ⟨w.heap.size + 1, o, none⟩ = false := fun o => World.frozen?_alloc_at _ _ _ _ (by simp)
    have HB : Below w.heap.size w ((w.alloc (.cells #[.int .i64 W, .int .i64 H, .slice A L.length c] 28)).alloc (.cells #[.int .i64 0, .int .i64 0, .slice none 0 0] 28)) := ((Below.refl _ _).alloc (Nat.le_refl _) _).alloc (by simp) _
    obtain ⟨W1, hW1⟩ : ∃ W1, W1 = ((w.alloc (.cells #[.int .i64 W, .int .i64 H, .slice A L.length c] 28)).alloc (.cells #[.int .i64 0, .int .i64 0, .slice none 0 0] 28)) := ⟨_, rfl⟩
    have hs_0 : w.heap.size + 2 = W1.heap.size := by rw [hW1]; simp
    rw [← hW1] at ba br hf HB
    obtain ⟨_, a0, a1, a2⟩ := id ba
    go_enter Try.func92, Try.ntmps92
    go_wp2_with fail
    rw [← hW1]
    clear hW1
    go_region
    replace HB := HB.drew
    replace ba := ba.next (Below.refl _ _).drew
    replace br := br.next (Below.refl _ _).drew
    replace hf : ∀ o, W1.drew.frozen? ⟨w.heap.size + 1, o, none⟩ = false := fun o => ((Below.refl W1.heap.size W1).drew.frozen (p := ⟨w.heap.size + 1, o, none⟩) (by show w.heap.size + 1 < _; omega)).trans (hf o)
    obtain ⟨w1', hw1⟩ : ∃ x, x = W1.drew := ⟨_, rfl⟩
    have hs_d : W1.heap.size = w1'.heap.size := by rw [hw1]; simp
    rw [← hw1] at ba br hf HB ⊢
    clear hw1
    clear a0 a1 a2
    obtain ⟨_, a0, a1, a2⟩ := id ba
    go_wp2_with fail
    clear a0 a1 a2
    refine (joGrown_any W H A L.length c L 1 0 W w1' rfl (by omega) ((hL.below HB).mono HB.size) sm1 (by decide) (by decide) (by omega) (by omega)).mono ?_
    rintro e w4 ⟨A4, c4, rfl, o4, hb⟩
    rw [J.jL_len] at o4 ⊢
    replace hf := fun o => (hb.frozen (p := ⟨w.heap.size + 1, o, none⟩) (by show w.heap.size + 1 < _; omega)).trans (hf o)
    have hs_1 := hb.size
    replace HB := HB.trans (hb.mono HB.size)
    replace ba := ba.next hb
    replace br := br.next hb
    clear hb
    go_wp2_with (at_builtin; refine app_list rfl _ _ _ rfl w1'.heap.size 71 i0 (.agg #[.int .i64 0, .int .i64 0, .int .i64 0]) 3 24 Try.underlying26 hi hz0 hz1 hz2 rfl (by decide) (.slice A4 L.length c4) L.length _ rfl (o4.alloc _) (some ⟨w4.heap.size, 0, none⟩) 1 1 [.int .i64 0, .int .i64 0, .int .i64 W] rfl rfl (.inr ⟨_, rfl, new3 _ _ _ _ _⟩) (one3 _ _ _) hk1 hk2 (by simp; omega) ?_; intro v' w6 hown6 hgrow hv6; obtain ⟨A6, c6, rfl⟩ := own_val hown6)
    have hb : Below w1'.heap.size w4 w6 := ((Below.refl _ _).alloc (by omega) _).grown hgrow (by simp; omega) (fun kk e => (o4.lt kk e).1)
    have hput : flat (J.jL 1 0 W L) ++ [.int .i64 0, .int .i64 0, .int .i64 W] = flat (J.putL W H L 0) := by simp [J.putL, flat_app, flat]
    rw [hput] at hown6
    have hlen := J.putL_len W H L 0
    have hs_g := hgrow.size
    simp at hs_g
    replace HB := HB.trans (hb.mono (by omega))
    replace br : Bx (w.heap.size + 1) w6 0 0 none 0 0 := ⟨by omega, (hb.cell (p := ⟨w.heap.size + 1, 0, none⟩) (by show w.heap.size + 1 < _; omega)).trans br.c0, (hb.cell (p := ⟨w.heap.size + 1, 1, none⟩) (by show w.heap.size + 1 < _; omega)).trans br.c1, (hb.cell (p := ⟨w.heap.size + 1, 2, none⟩) (by show w.heap.size + 1 < _; omega)).trans br.c2⟩
    replace hf := fun o => (hb.frozen (p := ⟨w.heap.size + 1, o, none⟩) (by show w.heap.size + 1 < _; omega)).trans (hf o)
    clear hb hgrow hv6 hput ba
    have CO := cuMake_any W (H + W) A6 (L.length + 1) c6 (J.putL W H L 0) w6 hlen (by omega) (sqs_of_own hown6)
    go_wp2_with fail
    refine CO.mono ?_
    rintro e w9 hret
    have hret : RetT w6 (Mk W (H + W) (J.putL W H L 0)) e w9 := hret
    have hmk : Mk W (H + W) (J.putL W H L 0) = putT W H L 0 := by rw [putT_yes hG (by decide)]; rfl
    rw [hmk] at hret
    obtain ⟨Z, hZ⟩ : ∃ Z, putT W H L 0 = Z := ⟨_, rfl⟩
    rw [hZ] at hret
    have HZ := Lib.hid hZ
    clear hZ hmk
    obtain ⟨A9, c9, rfl, o9, hb⟩ := hret
    replace o9 := own_base (base' := w.heap.size + 2) o9 (by omega)
    replace hf := fun o => (hb.frozen (p := ⟨w.heap.size + 1, o, none⟩) (by show w.heap.size + 1 < _; omega)).trans (hf o)
    have hs_2 := hb.size
    replace HB := HB.trans (hb.mono HB.size)
    replace br := br.next hb
    clear hb
    obtain ⟨_, r0, r1, r2⟩ := id br
    have t0 := hf 0
    have t1 := hf 1
    have t2 := hf 2
    go_wp2_with fail
    have e1 := ((HB.setCell (p := ⟨w.heap.size + 1, 0, none⟩) (by simp) (.int .i64 Z.1)).setCell (p := ⟨w.heap.size + 1, 1, none⟩) (by simp) (.int .i64 Z.2.1)).setCell (p := ⟨w.heap.size + 1, 2, none⟩) (by simp) (.slice A9 Z.2.2.1.length c9)
    have e2 := own_base (base' := w.heap.size) (ownsRow_setCell_below (ownsRow_setCell_below (ownsRow_setCell_below o9 (a := ⟨w.heap.size + 1, 0, none⟩) (by first | omega | (simp; done) | (simp; omega)) (.int .i64 Z.1)) (a := ⟨w.heap.size + 1, 1, none⟩) (by first | omega | (simp; done) | (simp; omega)) (.int .i64 Z.2.1)) (a := ⟨w.heap.size + 1, 2, none⟩) (by first | omega | (simp; done) | (simp; omega)) (.slice A9 Z.2.2.1.length c9)) (by omega)
    rw [HZ.out]
    refine bodyPost_ret (v := .tuple #[.agg #[.int .i64 Z.1, .int .i64 Z.2.1, .slice A9 Z.2.2.1.length c9], .bool Z.2.2.2]) (by simp [results, Try.results92, go_sem, r0, r1, r2]) rfl ?_
    exact ⟨A9, c9, rfl, e2, e1⟩
  · have ba := (Bx.start w W H A L.length c 28).next ((Below.refl _ _).alloc (Nat.le_refl _) (.cells #[.int .i64 0, .int .i64 0, .slice none 0 0] 28))
    have br : Bx (w.heap.size + 1) ((w.alloc (.cells #[.int .i64 W, .int .i64 H, .slice A L.length c] 28)).alloc (.cells #[.int .i64 0, .int .i64 0, .slice none 0 0] 28)) 0 0 none 0 0 := by simpa using Bx.start (w.alloc (.cells #[.int .i64 W, .int .i64 H, .slice A L.length c] 28)) 0 0 none 0 0 28
    have hf : ∀ o, (((w.alloc (.cells #[.int .i64 W, .int .i64 H, .slice A L.length c] 28)).alloc (.cells #[.int .i64 0, .int .i64 0, .slice none 0 0] 28))).frozen? ⟨w.heap.size + 1, o, none⟩ = false := fun o => World.frozen?_alloc_at _ _ _ _ (by simp)
    have HB : Below w.heap.size w ((w.alloc (.cells #[.int .i64 W, .int .i64 H, .slice A L.length c] 28)).alloc (.cells #[.int .i64 0, .int .i64 0, .slice none 0 0] 28)) := ((Below.refl _ _).alloc (Nat.le_refl _) _).alloc (by simp) _
    obtain ⟨W1, hW1⟩ : ∃ W1, W1 = ((w.alloc (.cells #[.int .i64 W, .int .i64 H, .slice A L.length c] 28)).alloc (.cells #[.int .i64 0, .int .i64 0, .slice none 0 0] 28)) := ⟨_, rfl⟩
    have hs_0 : w.heap.size + 2 = W1.heap.size := by rw [hW1]; simp
    rw [← hW1] at ba br hf HB
    obtain ⟨_, a0, a1, a2⟩ := id ba
    go_enter Try.func92, Try.ntmps92
    go_wp2_with fail
    rw [← hW1]
    clear hW1
    go_region
    replace HB := HB.drew
    replace ba := ba.next (Below.refl _ _).drew
    replace br := br.next (Below.refl _ _).drew
    replace hf : ∀ o, W1.drew.frozen? ⟨w.heap.size + 1, o, none⟩ = false := fun o => ((Below.refl W1.heap.size W1).drew.frozen (p := ⟨w.heap.size + 1, o, none⟩) (by show w.heap.size + 1 < _; omega)).trans (hf o)
    obtain ⟨w1', hw1⟩ : ∃ x, x = W1.drew := ⟨_, rfl⟩
    have hs_d : W1.heap.size = w1'.heap.size := by rw [hw1]; simp
    rw [← hw1] at ba br hf HB ⊢
    clear hw1
    clear a0 a1 a2
    obtain ⟨_, a0, a1, a2⟩ := id ba
    go_wp2_with fail
    clear a0 a1 a2
    refine (joGrown_any W H A L.length c L 1 0 0 w1' rfl (by omega) ((hL.below HB).mono HB.size) sm1 (by decide) (by decide) (by omega) (by omega)).mono ?_
    rintro e w4 ⟨A4, c4, rfl, o4, hb⟩
    rw [J.jL_len] at o4 ⊢
    replace hf := fun o => (hb.frozen (p := ⟨w.heap.size + 1, o, none⟩) (by show w.heap.size + 1 < _; omega)).trans (hf o)
    have hs_1 := hb.size
    replace HB := HB.trans (hb.mono HB.size)
    replace ba := ba.next hb
    replace br := br.next hb
    clear hb
    go_wp2_with (at_builtin; refine app_list rfl _ _ _ rfl w1'.heap.size 71 i0 (.agg #[.int .i64 0, .int .i64 0, .int .i64 0]) 3 24 Try.underlying26 hi hz0 hz1 hz2 rfl (by decide) (.slice A4 L.length c4) L.length _ rfl (o4.alloc _) (some ⟨w4.heap.size, 0, none⟩) 1 1 [.int .i64 W, .int .i64 0, .int .i64 H] rfl rfl (.inr ⟨_, rfl, new3 _ _ _ _ _⟩) (one3 _ _ _) hk1 hk2 (by simp; omega) ?_; intro v' w6 hown6 hgrow hv6; obtain ⟨A6, c6, rfl⟩ := own_val hown6)
    have hb : Below w1'.heap.size w4 w6 := ((Below.refl _ _).alloc (by omega) _).grown hgrow (by simp; omega) (fun kk e => (o4.lt kk e).1)
    have hput : flat (J.jL 1 0 0 L) ++ [.int .i64 W, .int .i64 0, .int .i64 H] = flat (J.putL W H L 1) := by simp [J.putL, flat_app, flat]
    rw [hput] at hown6
    have hlen := J.putL_len W H L 1
    have hs_g := hgrow.size
    simp at hs_g
    replace HB := HB.trans (hb.mono (by omega))
    replace br : Bx (w.heap.size + 1) w6 0 0 none 0 0 := ⟨by omega, (hb.cell (p := ⟨w.heap.size + 1, 0, none⟩) (by show w.heap.size + 1 < _; omega)).trans br.c0, (hb.cell (p := ⟨w.heap.size + 1, 1, none⟩) (by show w.heap.size + 1 < _; omega)).trans br.c1, (hb.cell (p := ⟨w.heap.size + 1, 2, none⟩) (by show w.heap.size + 1 < _; omega)).trans br.c2⟩
    replace hf := fun o => (hb.frozen (p := ⟨w.heap.size + 1, o, none⟩) (by show w.heap.size + 1 < _; omega)).trans (hf o)
    clear hb hgrow hv6 hput ba
    have CO := cuMake_any (W + H) H A6 (L.length + 1) c6 (J.putL W H L 1) w6 hlen (by omega) (sqs_of_own hown6)
    go_wp2_with fail
    refine CO.mono ?_
    rintro e w9 hret
    have hret : RetT w6 (Mk (W + H) H (J.putL W H L 1)) e w9 := hret
    have hmk : Mk (W + H) H (J.putL W H L 1) = putT W H L 1 := by rw [putT_yes hG (by decide)]; rfl
    rw [hmk] at hret
    obtain ⟨Z, hZ⟩ : ∃ Z, putT W H L 1 = Z := ⟨_, rfl⟩
    rw [hZ] at hret
    have HZ := Lib.hid hZ
    clear hZ hmk
    obtain ⟨A9, c9, rfl, o9, hb⟩ := hret
    replace o9 := own_base (base' := w.heap.size + 2) o9 (by omega)
    replace hf := fun o => (hb.frozen (p := ⟨w.heap.size + 1, o, none⟩) (by show w.heap.size + 1 < _; omega)).trans (hf o)
    have hs_2 := hb.size
    replace HB := HB.trans (hb.mono HB.size)
    replace br := br.next hb
    clear hb
    obtain ⟨_, r0, r1, r2⟩ := id br
    have t0 := hf 0
    have t1 := hf 1
    have t2 := hf 2
    go_wp2_with fail
    have e1 := ((HB.setCell (p := ⟨w.heap.size + 1, 0, none⟩) (by simp) (.int .i64 Z.1)).setCell (p := ⟨w.heap.size + 1, 1, none⟩) (by simp) (.int .i64 Z.2.1)).setCell (p := ⟨w.heap.size + 1, 2, none⟩) (by simp) (.slice A9 Z.2.2.1.length c9)
    have e2 := own_base (base' := w.heap.size) (ownsRow_setCell_below (ownsRow_setCell_below (ownsRow_setCell_below o9 (a := ⟨w.heap.size + 1, 0, none⟩) (by first | omega | (simp; done) | (simp; omega)) (.int .i64 Z.1)) (a := ⟨w.heap.size + 1, 1, none⟩) (by first | omega | (simp; done) | (simp; omega)) (.int .i64 Z.2.1)) (a := ⟨w.heap.size + 1, 2, none⟩) (by first | omega | (simp; done) | (simp; omega)) (.slice A9 Z.2.2.1.length c9)) (by omega)
    rw [HZ.out]
    refine bodyPost_ret (v := .tuple #[.agg #[.int .i64 Z.1, .int .i64 Z.2.1, .slice A9 Z.2.2.1.length c9], .bool Z.2.2.2]) (by simp [results, Try.results92, go_sem, r0, r1, r2]) rfl ?_
    exact ⟨A9, c9, rfl, e2, e1⟩
  · have ba := (Bx.start w W H A L.length c 28).next ((Below.refl _ _).alloc (Nat.le_refl _) (.cells #[.int .i64 0, .int .i64 0, .slice none 0 0] 28))
    have br : Bx (w.heap.size + 1) ((w.alloc (.cells #[.int .i64 W, .int .i64 H, .slice A L.length c] 28)).alloc (.cells #[.int .i64 0, .int .i64 0, .slice none 0 0] 28)) 0 0 none 0 0 := by simpa using Bx.start (w.alloc (.cells #[.int .i64 W, .int .i64 H, .slice A L.length c] 28)) 0 0 none 0 0 28
    have hf : ∀ o, (((w.alloc (.cells #[.int .i64 W, .int .i64 H, .slice A L.length c] 28)).alloc (.cells #[.int .i64 0, .int .i64 0, .slice none 0 0] 28))).frozen? ⟨w.heap.size + 1, o, none⟩ = false := fun o => World.frozen?_alloc_at _ _ _ _ (by simp)
    have HB : Below w.heap.size w ((w.alloc (.cells #[.int .i64 W, .int .i64 H, .slice A L.length c] 28)).alloc (.cells #[.int .i64 0, .int .i64 0, .slice none 0 0] 28)) := ((Below.refl _ _).alloc (Nat.le_refl _) _).alloc (by simp) _
    obtain ⟨W1, hW1⟩ : ∃ W1, W1 = ((w.alloc (.cells #[.int .i64 W, .int .i64 H, .slice A L.length c] 28)).alloc (.cells #[.int .i64 0, .int .i64 0, .slice none 0 0] 28)) := ⟨_, rfl⟩
    have hs_0 : w.heap.size + 2 = W1.heap.size := by rw [hW1]; simp
    rw [← hW1] at ba br hf HB
    obtain ⟨_, a0, a1, a2⟩ := id ba
    go_enter Try.func92, Try.ntmps92
    go_wp2_with fail
    rw [← hW1]
    clear hW1
    go_region
    replace HB := HB.drew
    replace ba := ba.next (Below.refl _ _).drew
    replace br := br.next (Below.refl _ _).drew
    replace hf : ∀ o, W1.drew.frozen? ⟨w.heap.size + 1, o, none⟩ = false := fun o => ((Below.refl W1.heap.size W1).drew.frozen (p := ⟨w.heap.size + 1, o, none⟩) (by show w.heap.size + 1 < _; omega)).trans (hf o)
    obtain ⟨w1', hw1⟩ : ∃ x, x = W1.drew := ⟨_, rfl⟩
    have hs_d : W1.heap.size = w1'.heap.size := by rw [hw1]; simp
    rw [← hw1] at ba br hf HB ⊢
    clear hw1
    clear a0 a1 a2
    obtain ⟨_, a0, a1, a2⟩ := id ba
    go_wp2_with fail
    clear a0 a1 a2
    refine (joGrown_any W H A L.length c L 1 0 0 w1' rfl (by omega) ((hL.below HB).mono HB.size) sm1 (by decide) (by decide) (by omega) (by omega)).mono ?_
    rintro e w4 ⟨A4, c4, rfl, o4, hb⟩
    rw [J.jL_len] at o4 ⊢
    replace hf := fun o => (hb.frozen (p := ⟨w.heap.size + 1, o, none⟩) (by show w.heap.size + 1 < _; omega)).trans (hf o)
    have hs_1 := hb.size
    replace HB := HB.trans (hb.mono HB.size)
    replace ba := ba.next hb
    replace br := br.next hb
    clear hb
    go_wp2_with (at_builtin; refine app_list rfl _ _ _ rfl w1'.heap.size 71 i0 (.agg #[.int .i64 0, .int .i64 0, .int .i64 0]) 3 24 Try.underlying26 hi hz0 hz1 hz2 rfl (by decide) (.slice A4 L.length c4) L.length _ rfl (o4.alloc _) (some ⟨w4.heap.size, 0, none⟩) 1 1 [.int .i64 0, .int .i64 H, .int .i64 W] rfl rfl (.inr ⟨_, rfl, new3 _ _ _ _ _⟩) (one3 _ _ _) hk1 hk2 (by simp; omega) ?_; intro v' w6 hown6 hgrow hv6; obtain ⟨A6, c6, rfl⟩ := own_val hown6)
    have hb : Below w1'.heap.size w4 w6 := ((Below.refl _ _).alloc (by omega) _).grown hgrow (by simp; omega) (fun kk e => (o4.lt kk e).1)
    have hput : flat (J.jL 1 0 0 L) ++ [.int .i64 0, .int .i64 H, .int .i64 W] = flat (J.putL W H L 2) := by simp [J.putL, flat_app, flat]
    rw [hput] at hown6
    have hlen := J.putL_len W H L 2
    have hs_g := hgrow.size
    simp at hs_g
    replace HB := HB.trans (hb.mono (by omega))
    replace br : Bx (w.heap.size + 1) w6 0 0 none 0 0 := ⟨by omega, (hb.cell (p := ⟨w.heap.size + 1, 0, none⟩) (by show w.heap.size + 1 < _; omega)).trans br.c0, (hb.cell (p := ⟨w.heap.size + 1, 1, none⟩) (by show w.heap.size + 1 < _; omega)).trans br.c1, (hb.cell (p := ⟨w.heap.size + 1, 2, none⟩) (by show w.heap.size + 1 < _; omega)).trans br.c2⟩
    replace hf := fun o => (hb.frozen (p := ⟨w.heap.size + 1, o, none⟩) (by show w.heap.size + 1 < _; omega)).trans (hf o)
    clear hb hgrow hv6 hput ba
    have CO := cuMake_any W (H + W) A6 (L.length + 1) c6 (J.putL W H L 2) w6 hlen (by omega) (sqs_of_own hown6)
    go_wp2_with fail
    refine CO.mono ?_
    rintro e w9 hret
    have hret : RetT w6 (Mk W (H + W) (J.putL W H L 2)) e w9 := hret
    have hmk : Mk W (H + W) (J.putL W H L 2) = putT W H L 2 := by rw [putT_yes hG (by decide)]; rfl
    rw [hmk] at hret
    obtain ⟨Z, hZ⟩ : ∃ Z, putT W H L 2 = Z := ⟨_, rfl⟩
    rw [hZ] at hret
    have HZ := Lib.hid hZ
    clear hZ hmk
    obtain ⟨A9, c9, rfl, o9, hb⟩ := hret
    replace o9 := own_base (base' := w.heap.size + 2) o9 (by omega)
    replace hf := fun o => (hb.frozen (p := ⟨w.heap.size + 1, o, none⟩) (by show w.heap.size + 1 < _; omega)).trans (hf o)
    have hs_2 := hb.size
    replace HB := HB.trans (hb.mono HB.size)
    replace br := br.next hb
    clear hb
    obtain ⟨_, r0, r1, r2⟩ := id br
    have t0 := hf 0
    have t1 := hf 1
    have t2 := hf 2
    go_wp2_with fail
    have e1 := ((HB.setCell (p := ⟨w.heap.size + 1, 0, none⟩) (by simp) (.int .i64 Z.1)).setCell (p := ⟨w.heap.size + 1, 1, none⟩) (by simp) (.int .i64 Z.2.1)).setCell (p := ⟨w.heap.size + 1, 2, none⟩) (by simp) (.slice A9 Z.2.2.1.length c9)
    have e2 := own_base (base' := w.heap.size) (ownsRow_setCell_below (ownsRow_setCell_below (ownsRow_setCell_below o9 (a := ⟨w.heap.size + 1, 0, none⟩) (by first | omega | (simp; done) | (simp; omega)) (.int .i64 Z.1)) (a := ⟨w.heap.size + 1, 1, none⟩) (by first | omega | (simp; done) | (simp; omega)) (.int .i64 Z.2.1)) (a := ⟨w.heap.size + 1, 2, none⟩) (by first | omega | (simp; done) | (simp; omega)) (.slice A9 Z.2.2.1.length c9)) (by omega)
    rw [HZ.out]
    refine bodyPost_ret (v := .tuple #[.agg #[.int .i64 Z.1, .int .i64 Z.2.1, .slice A9 Z.2.2.1.length c9], .bool Z.2.2.2]) (by simp [results, Try.results92, go_sem, r0, r1, r2]) rfl ?_
    exact ⟨A9, c9, rfl, e2, e1⟩
  · have ba := (Bx.start w W H A L.length c 28).next ((Below.refl _ _).alloc (Nat.le_refl _) (.cells #[.int .i64 0, .int .i64 0, .slice none 0 0] 28))
    have br : Bx (w.heap.size + 1) ((w.alloc (.cells #[.int .i64 W, .int .i64 H, .slice A L.length c] 28)).alloc (.cells #[.int .i64 0, .int .i64 0, .slice none 0 0] 28)) 0 0 none 0 0 := by simpa using Bx.start (w.alloc (.cells #[.int .i64 W, .int .i64 H, .slice A L.length c] 28)) 0 0 none 0 0 28
    have hf : ∀ o, (((w.alloc (.cells #[.int .i64 W, .int .i64 H, .slice A L.length c] 28)).alloc (.cells #[.int .i64 0, .int .i64 0, .slice none 0 0] 28))).frozen? ⟨w.heap.size + 1, o, none⟩ = false := fun o => World.frozen?_alloc_at _ _ _ _ (by simp)
    have HB : Below w.heap.size w ((w.alloc (.cells #[.int .i64 W, .int .i64 H, .slice A L.length c] 28)).alloc (.cells #[.int .i64 0, .int .i64 0, .slice none 0 0] 28)) := ((Below.refl _ _).alloc (Nat.le_refl _) _).alloc (by simp) _
    obtain ⟨W1, hW1⟩ : ∃ W1, W1 = ((w.alloc (.cells #[.int .i64 W, .int .i64 H, .slice A L.length c] 28)).alloc (.cells #[.int .i64 0, .int .i64 0, .slice none 0 0] 28)) := ⟨_, rfl⟩
    have hs_0 : w.heap.size + 2 = W1.heap.size := by rw [hW1]; simp
    rw [← hW1] at ba br hf HB
    obtain ⟨_, a0, a1, a2⟩ := id ba
    go_enter Try.func92, Try.ntmps92
    go_wp2_with fail
    rw [← hW1]
    clear hW1
    go_region
    replace HB := HB.drew
    replace ba := ba.next (Below.refl _ _).drew
    replace br := br.next (Below.refl _ _).drew
    replace hf : ∀ o, W1.drew.frozen? ⟨w.heap.size + 1, o, none⟩ = false := fun o => ((Below.refl W1.heap.size W1).drew.frozen (p := ⟨w.heap.size + 1, o, none⟩) (by show w.heap.size + 1 < _; omega)).trans (hf o)
    obtain ⟨w1', hw1⟩ : ∃ x, x = W1.drew := ⟨_, rfl⟩
    have hs_d : W1.heap.size = w1'.heap.size := by rw [hw1]; simp
    rw [← hw1] at ba br hf HB ⊢
    clear hw1
    clear a0 a1 a2
    obtain ⟨_, a0, a1, a2⟩ := id ba
    go_wp2_with fail
    clear a0 a1 a2
    refine (joGrown_any W H A L.length c L 1 H 0 w1' rfl (by omega) ((hL.below HB).mono HB.size) sm1 (by decide) (by decide) (by omega) (by omega)).mono ?_
    rintro e w4 ⟨A4, c4, rfl, o4, hb⟩
    rw [J.jL_len] at o4 ⊢
    replace hf := fun o => (hb.frozen (p := ⟨w.heap.size + 1, o, none⟩) (by show w.heap.size + 1 < _; omega)).trans (hf o)
    have hs_1 := hb.size
    replace HB := HB.trans (hb.mono HB.size)
    replace ba := ba.next hb
    replace br := br.next hb
    clear hb
    go_wp2_with (at_builtin; refine app_list rfl _ _ _ rfl w1'.heap.size 71 i0 (.agg #[.int .i64 0, .int .i64 0, .int .i64 0]) 3 24 Try.underlying26 hi hz0 hz1 hz2 rfl (by decide) (.slice A4 L.length c4) L.length _ rfl (o4.alloc _) (some ⟨w4.heap.size, 0, none⟩) 1 1 [.int .i64 0, .int .i64 0, .int .i64 H] rfl rfl (.inr ⟨_, rfl, new3 _ _ _ _ _⟩) (one3 _ _ _) hk1 hk2 (by simp; omega) ?_; intro v' w6 hown6 hgrow hv6; obtain ⟨A6, c6, rfl⟩ := own_val hown6)
    have hb : Below w1'.heap.size w4 w6 := ((Below.refl _ _).alloc (by omega) _).grown hgrow (by simp; omega) (fun kk e => (o4.lt kk e).1)
    have hput : flat (J.jL 1 H 0 L) ++ [.int .i64 0, .int .i64 0, .int .i64 H] = flat (J.putL W H L 3) := by simp [J.putL, flat_app, flat]
    rw [hput] at hown6
    have hlen := J.putL_len W H L 3
    have hs_g := hgrow.size
    simp at hs_g
    replace HB := HB.trans (hb.mono (by omega))
    replace br : Bx (w.heap.size + 1) w6 0 0 none 0 0 := ⟨by omega, (hb.cell (p := ⟨w.heap.size + 1, 0, none⟩) (by show w.heap.size + 1 < _; omega)).trans br.c0, (hb.cell (p := ⟨w.heap.size + 1, 1, none⟩) (by show w.heap.size + 1 < _; omega)).trans br.c1, (hb.cell (p := ⟨w.heap.size + 1, 2, none⟩) (by show w.heap.size + 1 < _; omega)).trans br.c2⟩
    replace hf := fun o => (hb.frozen (p := ⟨w.heap.size + 1, o, none⟩) (by show w.heap.size + 1 < _; omega)).trans (hf o)
    clear hb hgrow hv6 hput ba
    have CO := cuMake_any (W + H) H A6 (L.length + 1) c6 (J.putL W H L 3) w6 hlen (by omega) (sqs_of_own hown6)
    go_wp2_with fail
    refine CO.mono ?_
    rintro e w9 hret
    have hret : RetT w6 (Mk (W + H) H (J.putL W H L 3)) e w9 := hret
    have hmk : Mk (W + H) H (J.putL W H L 3) = putT W H L 3 := by rw [putT_yes hG (by decide)]; rfl
    rw [hmk] at hret
    obtain ⟨Z, hZ⟩ : ∃ Z, putT W H L 3 = Z := ⟨_, rfl⟩
    rw [hZ] at hret
    have HZ := Lib.hid hZ
    clear hZ hmk
    obtain ⟨A9, c9, rfl, o9, hb⟩ := hret
    replace o9 := own_base (base' := w.heap.size + 2) o9 (by omega)
    replace hf := fun o => (hb.frozen (p := ⟨w.heap.size + 1, o, none⟩) (by show w.heap.size + 1 < _; omega)).trans (hf o)
    have hs_2 := hb.size
    replace HB := HB.trans (hb.mono HB.size)
    replace br := br.next hb
    clear hb
    obtain ⟨_, r0, r1, r2⟩ := id br
    have t0 := hf 0
    have t1 := hf 1
    have t2 := hf 2
    go_wp2_with fail
    have e1 := ((HB.setCell (p := ⟨w.heap.size + 1, 0, none⟩) (by simp) (.int .i64 Z.1)).setCell (p := ⟨w.heap.size + 1, 1, none⟩) (by simp) (.int .i64 Z.2.1)).setCell (p := ⟨w.heap.size + 1, 2, none⟩) (by simp) (.slice A9 Z.2.2.1.length c9)
    have e2 := own_base (base' := w.heap.size) (ownsRow_setCell_below (ownsRow_setCell_below (ownsRow_setCell_below o9 (a := ⟨w.heap.size + 1, 0, none⟩) (by first | omega | (simp; done) | (simp; omega)) (.int .i64 Z.1)) (a := ⟨w.heap.size + 1, 1, none⟩) (by first | omega | (simp; done) | (simp; omega)) (.int .i64 Z.2.1)) (a := ⟨w.heap.size + 1, 2, none⟩) (by first | omega | (simp; done) | (simp; omega)) (.slice A9 Z.2.2.1.length c9)) (by omega)
    rw [HZ.out]
    refine bodyPost_ret (v := .tuple #[.agg #[.int .i64 Z.1, .int .i64 Z.2.1, .slice A9 Z.2.2.1.length c9], .bool Z.2.2.2]) (by simp [results, Try.results92, go_sem, r0, r1, r2]) rfl ?_
    exact ⟨A9, c9, rfl, e2, e1⟩
set_option maxRecDepth 100000 in
set_option maxHeartbeats 4000000 in
theorem specPut_any (W H : Int) (A : Option Addr) (n c : Nat) (L : List Sq) (e0 : Int) (w : World) (hl : L.length = n) (hc : n ≤ c) (hL : SqsAt w w.heap.size A L) :
    Calls Try.prog 51 #[.agg #[.int .i64 W, .int .i64 H, .slice A n c], .int .i64 e0] w (RetT w (putT W H L e0)) := by
  subst hl
  by_cases hG : Good W H L
  · by_cases he : 0 ≤ e0 ∧ e0 ≤ 3
    · have ba := (Bx.start w W H A L.length c 28).next ((Below.refl _ _).alloc (Nat.le_refl _) (.cells #[.int .i64 0, .int .i64 0, .slice none 0 0] 28))
      have br : Bx (w.heap.size + 1) ((w.alloc (.cells #[.int .i64 W, .int .i64 H, .slice A L.length c] 28)).alloc (.cells #[.int .i64 0, .int .i64 0, .slice none 0 0] 28)) 0 0 none 0 0 := by simpa using Bx.start (w.alloc (.cells #[.int .i64 W, .int .i64 H, .slice A L.length c] 28)) 0 0 none 0 0 28
      have hf : ∀ o, (((w.alloc (.cells #[.int .i64 W, .int .i64 H, .slice A L.length c] 28)).alloc (.cells #[.int .i64 0, .int .i64 0, .slice none 0 0] 28))).frozen? ⟨w.heap.size + 1, o, none⟩ = false := fun o => World.frozen?_alloc_at _ _ _ _ (by simp)
      have HB : Below w.heap.size w ((w.alloc (.cells #[.int .i64 W, .int .i64 H, .slice A L.length c] 28)).alloc (.cells #[.int .i64 0, .int .i64 0, .slice none 0 0] 28)) := ((Below.refl _ _).alloc (Nat.le_refl _) _).alloc (by simp) _
      obtain ⟨W1, hW1⟩ : ∃ W1, W1 = ((w.alloc (.cells #[.int .i64 W, .int .i64 H, .slice A L.length c] 28)).alloc (.cells #[.int .i64 0, .int .i64 0, .slice none 0 0] 28)) := ⟨_, rfl⟩
      have hs_0 : w.heap.size + 2 = W1.heap.size := by rw [hW1]; simp
      rw [← hW1] at ba br hf HB
      obtain ⟨_, a0, a1, a2⟩ := id ba
      go_enter Try.func51, Try.ntmps51
      go_wp2_with fail
      rw [← hW1]
      clear hW1
      refine (callB_yes (cuGood_any W H A _ c L W1 rfl hc ((hL.below HB).mono HB.size)) hG).mono ?_
      rintro e w2 ⟨rfl, hb⟩
      clear a0 a1 a2
      replace hf := fun o => (hb.frozen (p := ⟨w.heap.size + 1, o, none⟩) (by show w.heap.size + 1 < _; omega)).trans (hf o)
      have hs_1 := hb.size
      replace HB := HB.trans (hb.mono HB.size)
      replace ba := ba.next hb
      replace br := br.next hb
      clear hb
      have hd := Lib.hid (inB_iff.2 he)
      obtain ⟨_, a0, a1, a2⟩ := id ba
      go_wp2_with fail
      refine (l1In_any e0 0 3 w2).mono ?_
      rw [hd.out]
      rintro e w3 ⟨rfl, rfl⟩
      go_wp2_with fail
      clear a0 a1 a2
      refine (joPut_any W H A _ c L e0 _ rfl ((hL.below HB).mono HB.size) hG he).mono ?_
      obtain ⟨Z, hZ⟩ : ∃ Z, putT W H L e0 = Z := ⟨_, rfl⟩
      rw [hZ]
      have HZ := Lib.hid hZ
      clear hZ
      rintro e w9 ⟨A9, c9, rfl, o9, hb⟩
      replace o9 := own_base (base' := w.heap.size + 2) o9 (by omega)
      replace hf := fun o => (hb.frozen (p := ⟨w.heap.size + 1, o, none⟩) (by show w.heap.size + 1 < _; omega)).trans (hf o)
      have hs_2 := hb.size
      replace HB := HB.trans (hb.mono HB.size)
      replace ba := ba.next hb
      replace br := br.next hb
      clear hb
      obtain ⟨_, r0, r1, r2⟩ := id br
      have t0 := hf 0
      have t1 := hf 1
      have t2 := hf 2
      go_wp2_with fail
      have e1 := ((HB.setCell (p := ⟨w.heap.size + 1, 0, none⟩) (by simp) (.int .i64 Z.1)).setCell (p := ⟨w.heap.size + 1, 1, none⟩) (by simp) (.int .i64 Z.2.1)).setCell (p := ⟨w.heap.size + 1, 2, none⟩) (by simp) (.slice A9 Z.2.2.1.length c9)
      have e2 := own_base (base' := w.heap.size) (ownsRow_setCell_below (ownsRow_setCell_below (ownsRow_setCell_below o9 (a := ⟨w.heap.size + 1, 0, none⟩) (by first | omega | (simp; done) | (simp; omega)) (.int .i64 Z.1)) (a := ⟨w.heap.size + 1, 1, none⟩) (by first | omega | (simp; done) | (simp; omega)) (.int .i64 Z.2.1)) (a := ⟨w.heap.size + 1, 2, none⟩) (by first | omega | (simp; done) | (simp; omega)) (.slice A9 Z.2.2.1.length c9)) (by omega)
      rw [HZ.out]
      refine bodyPost_ret (v := .tuple #[.agg #[.int .i64 Z.1, .int .i64 Z.2.1, .slice A9 Z.2.2.1.length c9], .bool Z.2.2.2]) (by simp [results, Try.results51, go_sem, r0, r1, r2]) rfl ?_
      exact ⟨A9, c9, rfl, e2, e1⟩
    · have ba := (Bx.start w W H A L.length c 28).next ((Below.refl _ _).alloc (Nat.le_refl _) (.cells #[.int .i64 0, .int .i64 0, .slice none 0 0] 28))
      have br : Bx (w.heap.size + 1) ((w.alloc (.cells #[.int .i64 W, .int .i64 H, .slice A L.length c] 28)).alloc (.cells #[.int .i64 0, .int .i64 0, .slice none 0 0] 28)) 0 0 none 0 0 := by simpa using Bx.start (w.alloc (.cells #[.int .i64 W, .int .i64 H, .slice A L.length c] 28)) 0 0 none 0 0 28
      have hf : ∀ o, (((w.alloc (.cells #[.int .i64 W, .int .i64 H, .slice A L.length c] 28)).alloc (.cells #[.int .i64 0, .int .i64 0, .slice none 0 0] 28))).frozen? ⟨w.heap.size + 1, o, none⟩ = false := fun o => World.frozen?_alloc_at _ _ _ _ (by simp)
      have HB : Below w.heap.size w ((w.alloc (.cells #[.int .i64 W, .int .i64 H, .slice A L.length c] 28)).alloc (.cells #[.int .i64 0, .int .i64 0, .slice none 0 0] 28)) := ((Below.refl _ _).alloc (Nat.le_refl _) _).alloc (by simp) _
      obtain ⟨W1, hW1⟩ : ∃ W1, W1 = ((w.alloc (.cells #[.int .i64 W, .int .i64 H, .slice A L.length c] 28)).alloc (.cells #[.int .i64 0, .int .i64 0, .slice none 0 0] 28)) := ⟨_, rfl⟩
      have hs_0 : w.heap.size + 2 = W1.heap.size := by rw [hW1]; simp
      rw [← hW1] at ba br hf HB
      obtain ⟨_, a0, a1, a2⟩ := id ba
      go_enter Try.func51, Try.ntmps51
      go_wp2_with fail
      rw [← hW1]
      clear hW1
      refine (callB_yes (cuGood_any W H A _ c L W1 rfl hc ((hL.below HB).mono HB.size)) hG).mono ?_
      rintro e w2 ⟨rfl, hb⟩
      clear a0 a1 a2
      replace hf := fun o => (hb.frozen (p := ⟨w.heap.size + 1, o, none⟩) (by show w.heap.size + 1 < _; omega)).trans (hf o)
      have hs_1 := hb.size
      replace HB := HB.trans (hb.mono HB.size)
      replace ba := ba.next hb
      replace br := br.next hb
      clear hb
      have hd : Hid (inB e0 0 3 = false) := by show inB _ _ _ = false; simp [inB]; omega
      obtain ⟨_, r0, r1, r2⟩ := id br
      have t0 := hf 0
      have t1 := hf 1
      have t2 := hf 2
      go_wp2_with fail
      refine (l1In_any e0 0 3 w2).mono ?_
      rw [hd.out]
      rintro e w3 ⟨rfl, rfl⟩
      go_wp2_with fail
      rw [put_no he]
      have e1 := ((HB.setCell (p := ⟨w.heap.size + 1, 0, none⟩) (by simp) (.int .i64 0)).setCell (p := ⟨w.heap.size + 1, 1, none⟩) (by simp) (.int .i64 0)).setCell (p := ⟨w.heap.size + 1, 2, none⟩) (by simp) (.slice none 0 0)
      refine bodyPost_ret (v := .tuple #[.agg #[.int .i64 0, .int .i64 0, .slice none 0 0], .bool false]) (by simp [results, Try.results51, go_sem, r0, r1, r2]) rfl ?_
      exact RetT.no e1
  · have ba := (Bx.start w W H A L.length c 28).next ((Below.refl _ _).alloc (Nat.le_refl _) (.cells #[.int .i64 0, .int .i64 0, .slice none 0 0] 28))
    have br : Bx (w.heap.size + 1) ((w.alloc (.cells #[.int .i64 W, .int .i64 H, .slice A L.length c] 28)).alloc (.cells #[.int .i64 0, .int .i64 0, .slice none 0 0] 28)) 0 0 none 0 0 := by simpa using Bx.start (w.alloc (.cells #[.int .i64 W, .int .i64 H, .slice A L.length c] 28)) 0 0 none 0 0 28
    have hf : ∀ o, (((w.alloc (.cells #[.int .i64 W, .int .i64 H, .slice A L.length c] 28)).alloc (.cells #[.int .i64 0, .int .i64 0, .slice none 0 0] 28))).frozen? ⟨w.heap.size + 1, o, none⟩ = false := fun o => World.frozen?_alloc_at _ _ _ _ (by simp)
    have HB : Below w.heap.size w ((w.alloc (.cells #[.int .i64 W, .int .i64 H, .slice A L.length c] 28)).alloc (.cells #[.int .i64 0, .int .i64 0, .slice none 0 0] 28)) := ((Below.refl _ _).alloc (Nat.le_refl _) _).alloc (by simp) _
    obtain ⟨W1, hW1⟩ : ∃ W1, W1 = ((w.alloc (.cells #[.int .i64 W, .int .i64 H, .slice A L.length c] 28)).alloc (.cells #[.int .i64 0, .int .i64 0, .slice none 0 0] 28)) := ⟨_, rfl⟩
    have hs_0 : w.heap.size + 2 = W1.heap.size := by rw [hW1]; simp
    rw [← hW1] at ba br hf HB
    obtain ⟨_, a0, a1, a2⟩ := id ba
    go_enter Try.func51, Try.ntmps51
    go_wp2_with fail
    rw [← hW1]
    clear hW1
    refine (callB_no (cuGood_any W H A _ c L W1 rfl hc ((hL.below HB).mono HB.size)) hG).mono ?_
    rintro e w2 ⟨rfl, hb⟩
    clear a0 a1 a2
    replace hf := fun o => (hb.frozen (p := ⟨w.heap.size + 1, o, none⟩) (by show w.heap.size + 1 < _; omega)).trans (hf o)
    have hs_1 := hb.size
    replace HB := HB.trans (hb.mono HB.size)
    replace ba := ba.next hb
    replace br := br.next hb
    clear hb
    obtain ⟨_, r0, r1, r2⟩ := id br
    have t0 := hf 0
    have t1 := hf 1
    have t2 := hf 2
    go_wp2_with fail
    rw [putT_no (fun k => hG k.1)]
    have e1 := ((HB.setCell (p := ⟨w.heap.size + 1, 0, none⟩) (by simp) (.int .i64 0)).setCell (p := ⟨w.heap.size + 1, 1, none⟩) (by simp) (.int .i64 0)).setCell (p := ⟨w.heap.size + 1, 2, none⟩) (by simp) (.slice none 0 0)
    refine bodyPost_ret (v := .tuple #[.agg #[.int .i64 0, .int .i64 0, .slice none 0 0], .bool false]) (by simp [results, Try.results51, go_sem, r0, r1, r2]) rfl ?_
    exact RetT.no e1
end Go.Proofs.Ytnnhgblgbbfmpaa
