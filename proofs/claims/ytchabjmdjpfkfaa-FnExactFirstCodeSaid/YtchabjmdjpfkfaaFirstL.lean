/- FirstCode, the program's and the model's. -/
import Derived.Test.YtchabjmdjpfkfaaFirstK
import Derived.Test.YtchabjmdjpfkfaaCodeI
import Derived.Test.YtchabjmdjpfkfaaBk
set_option linter.all false
namespace Go.Proofs.Ytchabjmdjpfkfaa
open Go.RowKit

noncomputable def codeF (W H : Int) (L : List Sq) : List (List Int) := ifGood W H L (glists (grps (firstR W H L)))
theorem first_wf (W H : Int) (L : List Sq) : ∀ s ∈ firstR W H L, wfS s := by
  by_cases hG : Good W H L
  · intro s hs
    unfold firstR at hs
    rw [ifGood_yes hG] at hs
    have hg : Good _ _ _ := F.SM_good (c := ⟨W, H, L⟩) hG (F.first_in (c := ⟨W, H, L⟩) hG)
    have := (good_fill hg).within s hs
    have h1 := hg.1.2
    have h2 := hg.2.1.2
    unfold Within at this
    unfold wfS wfI
    omega
  · intro s hs
    unfold firstR at hs
    rw [ifGood_no hG] at hs
    simp at hs
theorem first_same (W H : Int) (L : List Sq) : Good (firstW W H L) (firstH W H L) (firstR W H L) ↔ Good W H L := by
  by_cases hG : Good W H L
  · unfold firstW firstH firstR
    rw [ifGood_yes hG, cutX_yes hG, cutX_yes hG]
    exact ⟨fun _ => hG, fun _ => F.SM_good (c := ⟨W, H, L⟩) hG (F.first_in (c := ⟨W, H, L⟩) hG)⟩
  · unfold firstW firstH firstR
    rw [ifGood_no hG, cutX_no hG, cutX_no hG]
    exact ⟨fun h => by have := h.1.1; omega, fun h => absurd h hG⟩
theorem codeF_alt (W H : Int) (L : List Sq) : ifGood (firstW W H L) (firstH W H L) (firstR W H L) (glists (grps (firstR W H L))) = codeF W H L := by
  unfold codeF
  by_cases hG : Good W H L
  · rw [ifGood_yes hG, ifGood_yes ((first_same W H L).2 hG)]
  · rw [ifGood_no hG, ifGood_no fun h => hG ((first_same W H L).1 h)]
theorem dc_first (W H : Int) (L : List Sq) : dc (Good (firstW W H L) (firstH W H L) (firstR W H L)) = dc (Good W H L) := by
  rw [propext (first_same W H L)]
theorem codeF_room (W H : Int) (L : List Sq) : (codeF W H L).length + tot (codeF W H L) ≤ 1048576 := by
  unfold codeF
  by_cases hG : Good W H L
  · rw [ifGood_yes hG]
    have h30 : (firstR W H L).length ≤ 30 := by
      unfold firstR
      rw [ifGood_yes hG, F.SM_len (F.first_in (c := ⟨W, H, L⟩) hG)]
      exact hG.2.2.1.2
    have b := grps_bd (firstR W H L) (firstR W H L).length
    rw [List.take_of_length_le (Nat.le_refl _)] at b
    simp only [glists, List.length_map] at b ⊢
    omega
  · rw [ifGood_no hG]
    simp [tot]

set_option maxRecDepth 100000 in
set_option maxHeartbeats 4000000 in
theorem implFirstCode_any (W H : Int) (A : Option Addr) (n c : Nat) (L : List Sq) (w : World) (hl : L.length = n) (hc : n ≤ c) (hL : SqsAt w w.heap.size A L) (hwf : ∀ s ∈ L, wfS s) :
    Calls Try.prog 49 #[.agg #[.int .i64 W, .int .i64 H, .slice A n c]] w (RetSS w (codeF W H L) (dc (Good W H L))) := by
  subst hl
  obtain ⟨W1, hW1⟩ : ∃ W1, W1 = w.alloc (.cells #[.int .i64 W, .int .i64 H, .slice A L.length c] 50) := ⟨_, rfl⟩
  have hB1 : Below w.heap.size w W1 := by rw [hW1]; exact (Below.refl _ _).alloc (Nat.le_refl _) _
  have hz1 : w.heap.size < W1.heap.size := by rw [hW1]; simp
  have b0 : W1.cell? ⟨w.heap.size, 0, none⟩ = some (.int .i64 W) := by rw [hW1]; simp
  have b1 : W1.cell? ⟨w.heap.size, 1, none⟩ = some (.int .i64 H) := by rw [hW1]; simp
  have b2 : W1.cell? ⟨w.heap.size, 2, none⟩ = some (.slice A L.length c) := by rw [hW1]; simp
  have qf : ∀ o, W1.frozen? ⟨w.heap.size, o, none⟩ = false := fun o => by rw [hW1]; exact World.frozen?_alloc_at _ _ _ _ rfl
  have hL1 : SqsAt W1 W1.heap.size A L := (hL.below hB1).mono hB1.size
  have CF := implFirstT_any W H A L.length c L W1 rfl hc hL1 hwf
  have hwR := first_wf W H L
  have hcd := codeF_alt W H L
  have hdc := dc_first W H L
  obtain ⟨X, hX⟩ : ∃ X, firstW W H L = X := ⟨_, rfl⟩
  obtain ⟨Y, hY⟩ : ∃ Y, firstH W H L = Y := ⟨_, rfl⟩
  obtain ⟨R, hR⟩ : ∃ R, firstR W H L = R := ⟨_, rfl⟩
  obtain ⟨ok, hok⟩ : ∃ ok, dc (Good W H L) = ok := ⟨_, rfl⟩
  obtain ⟨M, hM⟩ : ∃ M, codeF W H L = M := ⟨_, rfl⟩
  rw [hX, hY, hR, hok] at CF
  rw [hR] at hwR
  rw [hX, hY, hR, hM] at hcd
  rw [hX, hY, hR, hok] at hdc
  rw [hM, hok]
  have HCD := Lib.hid hcd
  have HDC := Lib.hid hdc
  have HWR := Lib.hid hwR
  clear hX hY hR hok hM hcd hdc hL hL1 hwf hwR
  go_enter Try.func49, Try.ntmps49
  go_wp2_with fail
  rw [← hW1]
  clear hW1
  (with_reducible refine CF.mono ?_)
  rintro e w2 ⟨A2, c2, rfl, ho2, hb2⟩
  have c0 := (hb2.cell (p := ⟨w.heap.size, 0, none⟩) hz1).trans b0
  have c1 := (hb2.cell (p := ⟨w.heap.size, 1, none⟩) hz1).trans b1
  have c2' := (hb2.cell (p := ⟨w.heap.size, 2, none⟩) hz1).trans b2
  have f0 := (hb2.frozen (p := ⟨w.heap.size, 0, none⟩) hz1).trans (qf 0)
  have f1 := (hb2.frozen (p := ⟨w.heap.size, 1, none⟩) hz1).trans (qf 1)
  have f2 := (hb2.frozen (p := ⟨w.heap.size, 2, none⟩) hz1).trans (qf 2)
  have hB2 := hB1.trans (hb2.mono hB1.size)
  have hB3 := ((hB2.setCell (p := ⟨w.heap.size, 0, none⟩) (Nat.le_refl _) (.int .i64 X)).setCell (p := ⟨w.heap.size, 1, none⟩) (Nat.le_refl _) (.int .i64 Y)).setCell (p := ⟨w.heap.size, 2, none⟩) (Nat.le_refl _) (.slice A2 R.length c2)
  have hne : (Value.slice A2 R.length c2).ownBlock ≠ some w.heap.size := fun e => by have := (ho2.lt _ e).1; omega
  have O3 := ownsRow_setCell_other (ownsRow_setCell_other (ownsRow_setCell_other ho2 (a := ⟨w.heap.size, 0, none⟩) hne (.int .i64 X)) (a := ⟨w.heap.size, 1, none⟩) hne (.int .i64 Y)) (a := ⟨w.heap.size, 2, none⟩) hne (.slice A2 R.length c2)
  obtain ⟨W3, hW3⟩ : ∃ W3, W3 = ((w2.setCell ⟨w.heap.size, 0, none⟩ (.int .i64 X)).setCell ⟨w.heap.size, 1, none⟩ (.int .i64 Y)).setCell ⟨w.heap.size, 2, none⟩ (.slice A2 R.length c2) := ⟨_, rfl⟩
  rw [← hW3] at hB3 O3
  have CC := implCode_any X Y A2 R.length c2 R W3 rfl (own_cap O3) (sqs_of_own O3) HWR.out
  rw [HCD.out, HDC.out] at CC
  clear CF b0 b1 b2 qf hb2 ho2 hB2 hne O3
  go_wp2_with fail
  rw [← hW3]
  clear hW3 c0 c1 c2' f0 f1 f2
  (with_reducible refine CC.mono ?_)
  rintro e w4 ⟨A4, c4, R4, rfl, hM4, hS4, hb4⟩
  have hB4 := hB3.trans (hb4.mono hB3.size)
  clear CC hb4
  go_wp2_with fail
  go_ret2
  exact RetSS.mk hM4 (hS4.based hB3.size) hB4

set_option maxRecDepth 100000 in
set_option maxHeartbeats 4000000 in
theorem specFirstCode_any (W H : Int) (A : Option Addr) (n c : Nat) (L : List Sq) (w : World) (hl : L.length = n) (hc : n ≤ c) (hL : SqsAt w w.heap.size A L) :
    Calls Try.prog 48 #[.agg #[.int .i64 W, .int .i64 H, .slice A n c]] w (RetSS w (codeF W H L) (dc (Good W H L))) := by
  subst hl
  have hb0 : ∀ o : Obj, Below w.heap.size w (w.alloc o) := fun o => (Below.refl _ _).alloc (Nat.le_refl _) o
  have Z0 : Box w.heap.size w (w.alloc (.cells #[.int .i64 W, .int .i64 H, .slice A L.length c] 50)) W H A c L := Box.start hL
  by_cases hG : Good W H L
  · have e3 : codeF W H L = glists (grps (F.firstC ⟨W, H, L⟩).l) := by unfold codeF firstR; rw [ifGood_yes hG, ifGood_yes hG]
    have hgF : Good _ _ _ := F.SM_good (c := ⟨W, H, L⟩) hG (F.first_in (c := ⟨W, H, L⟩) hG)
    rw [e3, dc_true hG]
    obtain ⟨b, hb⟩ : ∃ b, F.firstC ⟨W, H, L⟩ = b := ⟨_, rfl⟩
    rw [hb] at hgF ⊢
    have hfine := good_fine hgF
    have hg30 := hgF.2.2.1.2
    have HB := Lib.hid hb
    have HG := Lib.hid hG
    have HF := Lib.hid hfine
    clear e3 hb hgF hfine
    go_enter Try.func48, Try.ntmps48
    go_wp2_with fail
    refine (callB_yes (cuGood_any W H A _ c L _ rfl hc ((hL.below (hb0 _)).mono (hb0 _).size)) hG).mono ?_
    rintro e w1 ⟨rfl, hb1⟩
    have Z1 := Z0.next hb1
    obtain ⟨hB1, hz1, b0, b1, b2, hL1⟩ := id Z1
    have CT := cuTurns_any W H A L.length c L w1 rfl hc (hL1.mono hB1.size) HG.out
    clear Z0 hb1 hb0 hG hL1
    go_wp2_with fail
    (with_reducible refine CT.mono ?_)
    rintro e w2 ⟨A2, c2, b', rfl, hQ, ho2, hb2⟩
    obtain rfl : b' = b := (F.first_of (c := ⟨W, H, L⟩) HG.out hQ).trans HB.out
    have hB2 := hB1.trans (hb2.mono hB1.size)
    have CB := bkCode_any b'.w b'.h A2 b'.l.length c2 b'.l w2 rfl hg30 (sqs_of_own ho2) HF.out
    clear CT hQ ho2 hb2 b0 b1 b2
    go_wp2_with fail
    (with_reducible refine CB.mono ?_)
    rintro e w3 ⟨A3, c3, R3, rfl, hM3, hS3, hb3⟩
    have hB3 := hB2.trans (hb3.mono hB2.size)
    clear CB hb3
    go_wp2_with fail
    go_ret2
    exact RetSS.mk hM3 (hS3.based hB2.size) hB3
  · have e3 : codeF W H L = [] := ifGood_no hG
    rw [e3, dc_false hG]
    go_enter Try.func48, Try.ntmps48
    go_wp2_with fail
    refine (callB_no (cuGood_any W H A _ c L _ rfl hc ((hL.below (hb0 _)).mono (hb0 _).size)) hG).mono ?_
    rintro e w1 ⟨rfl, hb1⟩
    go_wp2_with fail
    go_ret2
    exact RetSS.none_ ((hb0 _).trans (hb1.mono (hb0 _).size))
end Go.Proofs.Ytchabjmdjpfkfaa
