/- The net of a cut: the program's. -/
import Derived.Test.YtnnhgblgbbfmpaaNcG
import Derived.Test.YtnnhgblgbbfmpaaLast
set_option linter.all false
namespace Go.Proofs.Ytnnhgblgbbfmpaa
open Go.RowKit

set_option maxRecDepth 100000 in
set_option maxHeartbeats 16000000 in
theorem implNetOf_good (W H : Int) (A : Option Addr) (n c : Nat) (L : List Sq) (w : World) (hl : L.length = n) (hc : n ≤ c) (hL : SqsAt w w.heap.size A L) (hwf : ∀ s ∈ L, wfS s) (hG : Good W H L) (h12 : (M.linesC L).length ≤ 12) :
    Calls Try.prog 40 #[.agg #[.int .i64 W, .int .i64 H, .slice A n c]] w (RetNS w (M.linesC L).length (netW L) (sides L) true) := by
  subst hl
  obtain ⟨i0, hi, hz0, hz1, hz2⟩ := info_parts infoWi
  obtain ⟨j0, hj, hy0, hy1, hy2⟩ := info_parts infoInt
  have hF := good_fill hG
  have hW5 := hF.w
  have hH5 := hF.h
  have h30 : L.length ≤ 30 := hG.2.2.1.2
  have hb0 : ∀ o : Obj, Below w.heap.size w (w.alloc o) := fun o => (Below.refl _ _).alloc (Nat.le_refl _) o
  have Z0 : Box w.heap.size w (w.alloc (.cells #[.int .i64 W, .int .i64 H, .slice A L.length c] 28)) W H A c L := Box.start hL
  obtain ⟨W1, hW1⟩ : ∃ W1, W1 = (w.alloc (.cells #[.int .i64 W, .int .i64 H, .slice A L.length c] 28)).alloc (.cells #[.int .i64 0, .slice none 0 0] 51) := ⟨_, rfl⟩
  have Z1 := Z0.next (show Below (w.alloc (.cells #[.int .i64 W, .int .i64 H, .slice A L.length c] 28)).heap.size _ W1 by rw [hW1]; exact (Below.refl _ _).alloc (Nat.le_refl _) _)
  have hz1' : W1.heap.size = w.heap.size + 2 := by rw [hW1]; simp
  have r0 : W1.cell? ⟨w.heap.size + 1, 0, none⟩ = some (.int .i64 0) := by rw [hW1]; simp [go_sem]
  have r1 : W1.cell? ⟨w.heap.size + 1, 1, none⟩ = some (.slice none 0 0) := by rw [hW1]; simp [go_sem]
  have rf : ∀ o, W1.frozen? ⟨w.heap.size + 1, o, none⟩ = false := fun o => by rw [hW1]; exact World.frozen?_alloc_at _ _ _ _ (by simp)
  obtain ⟨hB1, _, b0, b1, b2, hL1⟩ := id Z1
  have CL := implLines_any W H A L.length c L W1 rfl hc ((hL.below hB1).mono hB1.size) hwf
  rw [ifGood_yes hG, dc_true hG] at CL
  have HG := Lib.hid hG
  have HF := Lib.hid hF
  have H12 := Lib.hid h12
  obtain ⟨nl, hnl⟩ : ∃ nl, nl = (M.linesC L).length := ⟨_, rfl⟩
  have HNL := Lib.hid hnl
  have hnl12 : nl ≤ 12 := by omega
  rw [← hnl]
  clear Z0 hb0 hG hwf hL hF hnl h12
  go_enter Try.func40, Try.ntmps40
  go_wp2_with fail
  rw [← hW1]
  clear hW1
  (with_reducible refine CL.mono ?_)
  rintro e w2 ⟨A2, c2, RL, rfl, hM, hS, hb2⟩
  rw [lnL_len, ← HNL.out] at hS
  rw [lnL_len, ← HNL.out]
  have hz2' := hb2.size
  have Z2 := Z1.next hb2
  have hR2 := hS.rows
  rw [hM] at hR2
  have r0' := (hb2.cell (p := ⟨w.heap.size + 1, 0, none⟩) (by show w.heap.size + 1 < _; omega)).trans r0
  have r1' := (hb2.cell (p := ⟨w.heap.size + 1, 1, none⟩) (by show w.heap.size + 1 < _; omega)).trans r1
  have rf' : ∀ o, w2.frozen? ⟨w.heap.size + 1, o, none⟩ = false := fun o => (hb2.frozen (p := ⟨w.heap.size + 1, o, none⟩) (by show w.heap.size + 1 < _; omega)).trans (rf o)
  obtain ⟨hB2, _, d0, d1, d2, hL2⟩ := id Z2
  have HR2 := Lib.hid hR2
  clear r0 r1 rf CL hM hS Z1 b0 b1 b2 hL1 hB1 hR2
  have hg12 : decide ((12 : Int) < (nl : Int)) = false := by simp; omega
  have M0 := NM.start w2 nl 51
  go_wp2_with fail
  go_loopw [8, 30] (fun v i wr => ∃ (k : Nat) (Aw : Option Addr) (nw cw : Nat) (As : Option Addr) (ns cs : Nat), k ≤ L.length ∧ i = .int .i64 k ∧ v = .slice As ns cs ∧ NM w2.heap.size w2 wr nl Aw nw cw ((L.take k).map (wiOf (M.linesC L))) As ns cs (sides (L.take k))) (fun _ i _ => L.length - (intOf i).toNat)
  case atStart => exact ⟨0, none, 0, 0, none, 0, 0, Nat.zero_le _, rfl, rfl, M0⟩
  case round =>
    clear M0
    obtain ⟨k, Aw, nw, cw, As, ns, cs, hk, rfl, rfl, hM⟩ := hrel
    have hQ := hM.box.lt
    by_cases hlt : k < L.length
    · obtain ⟨s, hs⟩ : ∃ s, L[k]? = some s := ⟨_, List.getElem?_eq_getElem hlt⟩
      obtain ⟨g, off, rfl, hg, e0, e1, e2⟩ := hL2 k s hs
      have hsm := List.mem_of_getElem? hs
      have hins := HF.out.within s hsm
      unfold Within at hins
      have hsd1 : 1 ≤ s.d := by omega
      have ht := top_at HG.out hsm hsd1
      have hb := bot_at HG.out hsm hsd1
      have hW := wis_take (R := M.linesC L) hs
      have hD := sides_take_succ L k s hs
      have hw1 : nw = k := by have := hM.len; rw [List.length_map, List.length_take] at this; omega
      have hw2 : ns = k := by have := hM.len2; rw [sides_len, List.length_take] at this; omega
      have k0 : (0 : Int) ≤ (k : Int) := by omega
      have k1 : (k : Int) < (L.length : Int) := by omega
      have hgq : g < w2.heap.size := by omega
      have e0 := (hM.bel.cell (p := ⟨g, off + k * 3, none⟩) hgq).trans e0
      have e1 := (hM.bel.cell (p := ⟨g, off + k * 3 + 1, none⟩) hgq).trans e1
      have e2 := (hM.bel.cell (p := ⟨g, off + k * 3 + 2, none⟩) hgq).trans e2
      have HT := Lib.hid ht
      have HB := Lib.hid hb
      have HWT := Lib.hid hW
      have HD := Lib.hid hD
      have HW1 := Lib.hid hw1
      have HW2 := Lib.hid hw2
      have HM := Lib.hid hM
      clear ht hb hW hD hw1 hw2 hs hsm hM d0 d1 d2 hL2
      go_upto_region 9 with fail
      obtain ⟨W3, hW3⟩ : ∃ W3, W3 = wr.alloc (.cells #[.int .i64 s.x, .int .i64 s.y, .int .i64 s.d] 71) := ⟨_, rfl⟩
      have hb3 : Below wr.heap.size wr W3 := by rw [hW3]; exact (Below.refl _ _).alloc (Nat.le_refl _) _
      have f0 : W3.cell? ⟨wr.heap.size, 0, none⟩ = some (.int .i64 s.x) := by rw [hW3]; simp
      have f1 : W3.cell? ⟨wr.heap.size, 1, none⟩ = some (.int .i64 s.y) := by rw [hW3]; simp
      have f2 : W3.cell? ⟨wr.heap.size, 2, none⟩ = some (.int .i64 s.d) := by rw [hW3]; simp
      have hz3 : wr.heap.size < W3.heap.size := by rw [hW3]; simp
      have M3 := HM.out.keep hb3
      rw [← hW3]
      clear hW3 hb3 e0 e1 e2
      have HM3 := Lib.hid M3
      have q0 := M3.box.c1
      have hq3 := M3.box.lt
      have HR3 : ∀ w' : World, Below W3.heap.size W3 w' → RowsAt w' w'.heap.size (A2 : Option Addr) (lnL (M.linesC L)) := fun w' hb => ((HR2.out.below M3.bel).below (hb.mono (Nat.le_of_lt hq3))).mono (Nat.le_trans (Nat.le_of_lt hq3) hb.size)
      have hnl20 : nl ≤ 1048576 := by omega
      have C1 : ∀ w' : World, Below W3.heap.size W3 w' → Calls Try.prog 81 #[.slice A2 nl c2, .int .i64 s.x, .int .i64 s.y] w' fun e w'' => e = .returned (.int .i64 (lnIx (M.linesC L) s.y s.x)) ∧ Below w'.heap.size w' w'' := fun w' hb =>
        lineAt_any A2 nl c2 (M.linesC L) s.y s.x _ w' HNL.out.symm hnl20 (HR3 w' hb) (linesC_is HG.out) HT.out
      have C2 : ∀ w' : World, Below W3.heap.size W3 w' → Calls Try.prog 81 #[.slice A2 nl c2, .int .i64 s.x, .int .i64 (s.y + s.d)] w' fun e w'' => e = .returned (.int .i64 (lnIx (M.linesC L) (s.y + s.d) s.x)) ∧ Below w'.heap.size w' w'' := fun w' hb =>
        lineAt_any A2 nl c2 (M.linesC L) (s.y + s.d) s.x _ w' HNL.out.symm hnl20 (HR3 w' hb) (linesC_is HG.out) HB.out
      have SB : ∀ w' : World, Below W3.heap.size W3 w' → Cp wr.heap.size s w' := fun w' hb =>
        ⟨(hb.cell (p := ⟨wr.heap.size, 0, none⟩) hz3).trans f0, (hb.cell (p := ⟨wr.heap.size, 1, none⟩) hz3).trans f1, (hb.cell (p := ⟨wr.heap.size, 2, none⟩) hz3).trans f2⟩
      have HS : ∀ w' : World, Below W3.heap.size W3 w' → w'.cell? ⟨w2.heap.size, 1, none⟩ = some (.slice Aw nw cw) ∧ w'.cell? ⟨wr.heap.size, 0, none⟩ = some (.int .i64 s.x) ∧ w'.cell? ⟨wr.heap.size, 1, none⟩ = some (.int .i64 s.y) ∧ w'.cell? ⟨wr.heap.size, 2, none⟩ = some (.int .i64 s.d) := fun w' hb =>
        ⟨(hb.cell (p := ⟨w2.heap.size, 1, none⟩) hq3).trans q0, SB w' hb⟩
      have hk1 : k + 1 ≤ maxLen := by unfold maxLen; omega
      have hk2 : (k + 1) * 16 ≤ 140737488355328 := by omega
      have hnw : nw = k := HW1.out
      subst hnw
      obtain ⟨ka, hka⟩ : ∃ ka, ka = lnIx (M.linesC L) s.y s.x := ⟨_, rfl⟩
      obtain ⟨kb, hkb⟩ : ∃ kb, kb = lnIx (M.linesC L) (s.y + s.d) s.x := ⟨_, rfl⟩
      rw [← hka] at C1
      rw [← hkb] at C2
      have HKA := Lib.hid hka
      have HKB := Lib.hid hkb
      clear hka hkb HR3 M3 HT HB
      have hwr : IntKind.i64.wrap (s.y + s.d) = s.y + s.d := IntWalk.i64_in _ (by omega)
      have hown3 : ∀ k, (Value.slice Aw nw cw).ownBlock = some k → k < wr.heap.size := fun k hk => (HM.out.ws.lt k hk).2
      refine wp_region_top 20 (fun w' => w'.cell? ⟨w2.heap.size, 1, none⟩ = some (.slice Aw nw cw) ∧ w'.cell? ⟨wr.heap.size, 0, none⟩ = some (.int .i64 s.x) ∧ w'.cell? ⟨wr.heap.size, 1, none⟩ = some (.int .i64 s.y) ∧ w'.cell? ⟨wr.heap.size, 2, none⟩ = some (.int .i64 s.d)) (by kernel_rfl) (HS _ ((Below.refl _ _).drew)) (fun hHeld => ?_)
      refine wpTop.take 0 (v := ?_) rfl (by kernel_rfl) (by kernel_rfl) (by kernel_rfl) (by kernel_rfl) (fun _ _ _ h => h) (Or.inl ⟨by rfl, ?_⟩) (by assumption) ?_
      rotate_left
      · intro w hSw; (try dsimp only at hSw); go_simp; try (with_reducible rfl)
      try simp only [Act.put, List.setIfInBounds_toArray, List.set_cons_zero, List.set_cons_succ]
      refine wpTop.take 1 (v := ?_) rfl (by kernel_rfl) (by kernel_rfl) (by kernel_rfl) (by kernel_rfl) (fun _ _ _ h => h) (Or.inl ⟨by rfl, ?_⟩) (by assumption) ?_
      rotate_left
      · intro w hSw; (try dsimp only at hSw); go_simp; try (with_reducible rfl)
      try simp only [Act.put, List.setIfInBounds_toArray, List.set_cons_zero, List.set_cons_succ]
      refine wpTop.take 2 (v := ?_) rfl (by kernel_rfl) (by kernel_rfl) (by kernel_rfl) (by kernel_rfl) (fun _ _ _ h => h) (Or.inl ⟨by rfl, ?_⟩) (by assumption) ?_
      rotate_left
      · intro w hSw; (try dsimp only at hSw); go_simp; try (with_reducible rfl)
      try simp only [Act.put, List.setIfInBounds_toArray, List.set_cons_zero, List.set_cons_succ]
      refine wpTop.take 3 (v := ?_) rfl (by kernel_rfl) (by kernel_rfl) (by kernel_rfl) (by kernel_rfl) (fun _ _ _ h => h) (Or.inl ⟨by rfl, ?_⟩) (by assumption) ?_
      rotate_left
      · intro w hSw; (try dsimp only at hSw); go_simp; try (with_reducible rfl)
      try simp only [Act.put, List.setIfInBounds_toArray, List.set_cons_zero, List.set_cons_succ]
      refine wpTop.take 4 (v := ?_) rfl (by kernel_rfl) (by kernel_rfl) (by kernel_rfl) (by kernel_rfl) (fun _ _ _ h => h) (Or.inl ⟨by rfl, ?_⟩) (by assumption) ?_
      rotate_left
      · intro w hSw; (try dsimp only at hSw); go_simp; try (with_reducible rfl)
      try simp only [Act.put, List.setIfInBounds_toArray, List.set_cons_zero, List.set_cons_succ]
      refine wpTop.take 5 (v := ?_) rfl (by kernel_rfl) (by kernel_rfl) (by kernel_rfl) (by kernel_rfl) (fun _ _ _ h => h) (Or.inl ⟨by rfl, ?_⟩) (by assumption) ?_
      rotate_left
      · intro w hSw; (try dsimp only at hSw); go_simp; try (with_reducible rfl)
      try simp only [Act.put, List.setIfInBounds_toArray, List.set_cons_zero, List.set_cons_succ]
      refine wpTop.take 6 (v := ?_) rfl (by kernel_rfl) (by kernel_rfl) (by kernel_rfl) (by kernel_rfl) (fun _ _ _ h => h) (Or.inl ⟨by rfl, ?_⟩) (by assumption) ?_
      rotate_left
      · intro w hSw; (try dsimp only at hSw); go_simp; try (with_reducible rfl)
      try simp only [Act.put, List.setIfInBounds_toArray, List.set_cons_zero, List.set_cons_succ]
      refine wpTop.take 8 (v := ?_) rfl (by kernel_rfl) (by kernel_rfl) (by kernel_rfl) (by kernel_rfl) (fun _ _ _ h => h) (Or.inl ⟨by rfl, ?_⟩) (by assumption) ?_
      rotate_left
      · intro w hSw; (try dsimp only at hSw); go_simp; try (with_reducible rfl)
      try simp only [Act.put, List.setIfInBounds_toArray, List.set_cons_zero, List.set_cons_succ]
      refine wpTop.take 9 (v := ?_) rfl (by kernel_rfl) (by kernel_rfl) (by kernel_rfl) (by kernel_rfl) (fun _ _ _ h => h) (Or.inl ⟨by rfl, ?_⟩) (by assumption) ?_
      rotate_left
      · intro w hSw; (try dsimp only at hSw); go_simp; try (with_reducible rfl)
      try simp only [Act.put, List.setIfInBounds_toArray, List.set_cons_zero, List.set_cons_succ]
      refine wpTop.take 10 (v := ?_) rfl (by kernel_rfl) (by kernel_rfl) (by kernel_rfl) (by kernel_rfl) (fun _ _ _ h => h) (Or.inl ⟨by rfl, ?_⟩) (by assumption) ?_
      rotate_left
      · intro w hSw; (try dsimp only at hSw); go_simp; try (with_reducible rfl)
      try simp only [Act.put, List.setIfInBounds_toArray, List.set_cons_zero, List.set_cons_succ]
      refine wpTop.take 11 (v := ?_) rfl (by kernel_rfl) (by kernel_rfl) (by kernel_rfl) (by kernel_rfl) (fun _ _ _ h => h) (Or.inl ⟨by rfl, ?_⟩) (by assumption) ?_
      rotate_left
      · intro w hSw; (try dsimp only at hSw); go_simp; try (with_reducible rfl)
      try simp only [Act.put, List.setIfInBounds_toArray, List.set_cons_zero, List.set_cons_succ]
      refine wpTop.take 12 (v := ?_) rfl (by kernel_rfl) (by kernel_rfl) (by kernel_rfl) (by kernel_rfl) (fun _ _ _ h => h) (Or.inl ⟨by rfl, ?_⟩) (by assumption) ?_
      rotate_left
      · intro w hSw; (try dsimp only at hSw); go_simp; try (with_reducible rfl)
      try simp only [Act.put, List.setIfInBounds_toArray, List.set_cons_zero, List.set_cons_succ]
      refine wpTop.take 13 (v := ?_) rfl (by kernel_rfl) (by kernel_rfl) (by kernel_rfl) (by kernel_rfl) (fun _ _ _ h => h) (Or.inl ⟨by rfl, ?_⟩) (by assumption) ?_
      rotate_left
      · intro w hSw; (try dsimp only at hSw); go_simp; try (with_reducible rfl)
      try simp only [Act.put, List.setIfInBounds_toArray, List.set_cons_zero, List.set_cons_succ]
      refine wpTop.take 14 (v := ?_) rfl (by kernel_rfl) (by kernel_rfl) (by kernel_rfl) (by kernel_rfl) (fun _ _ _ h => h) (Or.inl ⟨by rfl, ?_⟩) (by assumption) ?_
      rotate_left
      · intro w hSw; (try dsimp only at hSw); go_simp; try (with_reducible rfl)
      try simp only [Act.put, List.setIfInBounds_toArray, List.set_cons_zero, List.set_cons_succ]
      refine wpTop.take 15 (v := ?_) rfl (by kernel_rfl) (by kernel_rfl) (by kernel_rfl) (by kernel_rfl) (fun _ _ _ h => h) (Or.inl ⟨by rfl, ?_⟩) (by assumption) ?_
      rotate_left
      · intro w hSw; (try dsimp only at hSw); go_simp; try (with_reducible rfl)
      try simp only [Act.put, List.setIfInBounds_toArray, List.set_cons_zero, List.set_cons_succ]
      refine wpTop.one 7 rfl (by kernel_rfl) (fun K hK => ?_)
      go_simp
      (with_reducible refine (C1 _ ((Below.refl _ _).drew)).mono ?_)
      rintro e w4 ⟨rfl, hb4'⟩
      have hb4 : Below W3.heap.size W3 w4 := ((Below.refl W3.heap.size W3).drew).trans hb4'
      refine hK.out _ _ (fun _ => HS _ hb4) (fun hH => ?_)
      clear hK K hHeld hb4'
      have hHeld := hH (by decide)
      clear hH
      try simp only [Act.put, List.setIfInBounds_toArray, List.set_cons_zero, List.set_cons_succ]
      refine wpTop.one 16 rfl (by kernel_rfl) (fun K hK => ?_)
      go_simp
      (with_reducible refine (C2 _ hb4).mono ?_)
      rintro e w5 ⟨rfl, hb5'⟩
      have hb5 : Below W3.heap.size W3 w5 := hb4.trans (hb5'.mono hb4.size)
      refine hK.out _ _ (fun _ => HS _ hb5) (fun hH => ?_)
      clear hK K hHeld hb5'
      have hHeld := hH (by decide)
      clear hH
      try simp only [Act.put, List.setIfInBounds_toArray, List.set_cons_zero, List.set_cons_succ]
      refine wpTop.take 17 (v := ?_) rfl (by kernel_rfl) (by kernel_rfl) (by kernel_rfl) (by kernel_rfl) (fun _ _ _ h => h) (Or.inl ⟨by rfl, ?_⟩) (by assumption) ?_
      rotate_left
      · intro w hSw; (try dsimp only at hSw); go_simp; try (with_reducible rfl)
      try simp only [Act.put, List.setIfInBounds_toArray, List.set_cons_zero, List.set_cons_succ]
      have M5 := HM3.out.keep hb5
      have hz5 := hb5.size
      have ws5 := M5.ws
      refine wpTop.one 18 rfl (by kernel_rfl) (fun K hK => ?_)
      go_simp
      refine hK.out _ _ (fun _ => HS _ (hb5.alloc hz5 _)) (fun hH => ?_)
      clear hK K hHeld
      have hHeld := hH (by decide)
      clear hH
      try simp only [Act.put, List.setIfInBounds_toArray, List.set_cons_zero, List.set_cons_succ]
      refine wpTop.one 19 rfl (by kernel_rfl) (fun K hK => ?_)
      refine app_step rfl _ _ _ rfl (w2.heap.size + 1) 86 i0 (.agg #[.int .i64 0, .int .i64 0]) 2 16 Try.underlying49 hi hz0 hz1 hz2 rfl (by decide) (.slice Aw nw cw) nw _ rfl (ws5.alloc _) (some ⟨w5.heap.size, 0, none⟩) 1 1 [.int .i64 ka, .int .i64 kb] rfl rfl (.inr ⟨_, rfl, newW _ _ _ _⟩) (oneW _ _) hk1 hk2 (by simp; omega) ?_
      intro v' w6 hown6 hgrow hv6
      obtain ⟨A6, c6, rfl⟩ := own_val hown6
      have M5a := M5.keep ((Below.refl w5.heap.size w5).alloc (Nat.le_refl _) (.cells #[.int .i64 ka, .int .i64 kb] 86))
      obtain ⟨q6, z6⟩ := M5a.there hgrow
      have S6 := Cp.grown (SB _ (hb5.alloc hz5 _)) hgrow (fun e => Nat.lt_irrefl _ (hown3 _ e))
      have S7 : Cp wr.heap.size s (w6.setCell ⟨w2.heap.size, 1, none⟩ (.slice A6 (nw + 1) c6)) := S6.put (by omega) 1 _
      have M7 := M5a.pushW hown6 hgrow hv6
      refine hK.out _ _ (fun _ => ⟨q6, S6⟩) (fun hH => ?_)
      clear hK K hHeld hH
      try simp only [Act.put, List.setIfInBounds_toArray, List.set_cons_zero, List.set_cons_succ]
      refine wpTop.one 20 rfl (by kernel_rfl) (fun K hK => ?_)
      go_simp
      refine hK.out _ _ (fun h => absurd h (by decide)) (fun hH => ?_)
      clear hK K hH
      try simp only [Act.put, List.setIfInBounds_toArray, List.set_cons_zero, List.set_cons_succ]
      refine wpTop.one 21 rfl (by kernel_rfl) (fun K hK => ?_)
      go_simp
      refine hK.out _ _ (fun h => absurd h (by decide)) (fun hH => ?_)
      clear hK K hH
      try simp only [Act.put, List.setIfInBounds_toArray, List.set_cons_zero, List.set_cons_succ]
      refine wpTop.all (by kernel_rfl) ?_ _
      obtain ⟨W8, hW8⟩ : ∃ W8, W8 = w6.setCell ⟨w2.heap.size, 1, none⟩ (.slice A6 (nw + 1) c6) := ⟨_, rfl⟩
      rw [← hW8] at S7 M7
      rw [← hW8]
      have e0 := S7.1
      have e1 := S7.2.1
      have e2 := S7.2.2
      have ss8 := M7.ss
      have hns : ns = nw := HW2.out
      subst hns
      have hk4 : (ns + 1) * 8 ≤ 140737488355328 := by omega
      have hq8 := M7.box.lt
      have HM7 := Lib.hid M7
      clear hW8 S7 M7 S6 q6 z6 M5a hgrow hown6 hv6 ws5 M5 hb5 hb4 HS SB C1 C2 q0 f0 f1 f2 HM3 hz5 hown3
      go_wp2_with (at_builtin; refine app_list rfl _ _ _ rfl (w2.heap.size + 1) 3 j0 (.int .i64 0) 1 8 Try.underlying52 hj hy0 hy1 hy2 rfl (by decide) (.slice As ns cs) ns _ rfl (ss8.alloc _) (some ⟨W8.heap.size, 0, none⟩) 1 1 [.int .i64 s.d] rfl rfl (.inr ⟨_, rfl, new1 _ _ _⟩) (one1 _ rfl) hk1 hk4 (by simp; omega) ?_; intro v' w9 hown9 hgrow hv9)
      obtain ⟨A9, c9, rfl⟩ := own_val hown9
      have M9 := (HM7.out.keep ((Below.refl W8.heap.size W8).alloc (Nat.le_refl _) (.cells #[.int .i64 s.d] 3))).pushS hown9 hgrow hv9
      have HM9 := Lib.hid M9
      clear hown9 hgrow hv9 M9 ss8
      go_wp2_with fail
      go_roundw
      case rel => exact ⟨ns + 1, A6, ns + 1, c6, A9, ns + 1, c9, by omega, by go_num, rfl, by rw [HWT.out, HD.out, show wiOf (M.linesC L) s = ⟨ka, kb⟩ by unfold wiOf; rw [← HKA.out, ← HKB.out]]; exact HM9.out⟩
      case measure => simp [intOf]; omega
    · obtain rfl : k = L.length := by omega
      rw [List.take_length] at hM
      obtain ⟨n0, n1⟩ := And.intro hM.box.c0 hM.box.c1
      have hq1 : w.heap.size + 1 < w2.heap.size := by omega
      have r0 := (hM.bel.cell (p := ⟨w.heap.size + 1, 0, none⟩) hq1).trans r0'
      have r1 := (hM.bel.cell (p := ⟨w.heap.size + 1, 1, none⟩) hq1).trans r1'
      have rf : ∀ o, wr.frozen? ⟨w.heap.size + 1, o, none⟩ = false := fun o => (hM.bel.frozen (p := ⟨w.heap.size + 1, o, none⟩) hq1).trans (rf' o)
      have t0 := rf 0
      have t1 := rf 1
      have HM := Lib.hid hM
      clear hM r0' r1' rf' d0 d1 d2 hL2 rf
      go_wp2_with fail
      refine bodyPost_ret (v := .tuple #[.agg #[.int .i64 nl, .slice Aw nw cw], .slice As ns cs, .bool true]) (by simp [results, Try.results40, go_sem, r0, r1]) rfl ?_
      have hM := HM.out
      have R1 := own_base (ownsRow_setCell_below (ownsRow_setCell_below hM.ws (a := ⟨w.heap.size + 1, 0, none⟩) (by show w.heap.size + 1 < _; omega) (.int .i64 nl)) (a := ⟨w.heap.size + 1, 1, none⟩) (by show w.heap.size + 1 < _; omega) (.slice Aw nw cw)) (show w.heap.size ≤ w2.heap.size + 1 by omega)
      have R2 := own_base (ownsRow_setCell_below (ownsRow_setCell_below hM.ss (a := ⟨w.heap.size + 1, 0, none⟩) (by show w.heap.size + 1 < _; omega) (.int .i64 nl)) (a := ⟨w.heap.size + 1, 1, none⟩) (by show w.heap.size + 1 < _; omega) (.slice Aw nw cw)) (show w.heap.size ≤ w2.heap.size + 1 by omega)
      have hBr : Below w.heap.size w wr := hB2.trans (hM.bel.mono (by omega))
      exact RetNS.mk (by rw [netW_len, hM.len, List.length_map]) hM.len2 R1 R2 hM.apart ((hBr.setCell (p := ⟨w.heap.size + 1, 0, none⟩) (by simp) _).setCell (p := ⟨w.heap.size + 1, 1, none⟩) (by simp) _)

noncomputable def ifNc {α : Type} (W H : Int) (L : List Sq) (R : List α) : List α := if dc (NetOk W H L) then R else []
noncomputable def netN (W H : Int) (L : List Sq) : Int := if dc (NetOk W H L) then ((M.linesC L).length : Int) else 0
end Go.Proofs.Ytnnhgblgbbfmpaa
