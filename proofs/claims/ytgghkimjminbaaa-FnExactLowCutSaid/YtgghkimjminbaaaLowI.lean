/- Contract of the program's LowCut. -/
import Derived.Test.YtgghkimjminbaaaLow
set_option linter.all false
namespace Go.Proofs.Ytgghkimjminbaaa
open Go.RowKit

noncomputable def lowX (W H : Int) (L : List Sq) (X : Int) : Int := if dc (Good W H L) then X / (gL L : Int) else 0
theorem lowX_yes {W H X : Int} {L : List Sq} (h : Good W H L) : lowX W H L X = X / (gL L : Int) := by simp [lowX, dc_true h]
theorem lowX_no {W H X : Int} {L : List Sq} (h : ¬ Good W H L) : lowX W H L X = 0 := by simp [lowX, dc_false h]
noncomputable def lowL (W H : Int) (L : List Sq) : List Sq := ifGood W H L (divL (gL L) L)
theorem lowL_yes {W H : Int} {L : List Sq} (h : Good W H L) : lowL W H L = divL (gL L) L := ifGood_yes h
theorem lowL_no {W H : Int} {L : List Sq} (h : ¬ Good W H L) : lowL W H L = [] := ifGood_no h
theorem good_sides {W H : Int} {L : List Sq} (hG : Good W H L) (j : Nat) (s : Sq) (hs : L[j]? = some s) : 1 ≤ s.d ∧ s.d ≤ 500 := by
  have h := hG.2.2.2.1 j s hs
  exact ⟨h.1.1, h.2.1⟩

set_option maxRecDepth 100000 in
set_option maxHeartbeats 1000000 in
theorem implLow_any (W H : Int) (A : Option Addr) (n c : Nat) (L : List Sq) (w : World) (hl : L.length = n) (hc : n ≤ c) (hL : SqsAt w w.heap.size A L) (hwf : ∀ s ∈ L, wfS s) :
    Calls Try.prog 53 #[.agg #[.int .i64 W, .int .i64 H, .slice A n c]] w (RetCut w (lowX W H L W) (lowX W H L H) (lowL W H L) (dc (Good W H L))) := by
  subst hl
  have Z0 : Box w.heap.size w (w.alloc (.cells #[.int .i64 W, .int .i64 H, .slice A L.length c] 24)) W H A c L := Box.start hL
  have Z1 := Z0.next ((Below.refl _ _).alloc (Nat.le_refl _) (.cells #[.int .i64 0, .int .i64 0, .slice none 0 0] 24))
  have q1 : Bx (w.heap.size + 1) ((w.alloc (.cells #[.int .i64 W, .int .i64 H, .slice A L.length c] 24)).alloc (.cells #[.int .i64 0, .int .i64 0, .slice none 0 0] 24)) 0 0 none 0 0 := by simpa using Bx.start (w.alloc (.cells #[.int .i64 W, .int .i64 H, .slice A L.length c] 24)) 0 0 none 0 0 24
  obtain ⟨W1, hW1⟩ : ∃ W1, W1 = ((w.alloc (.cells #[.int .i64 W, .int .i64 H, .slice A L.length c] 24)).alloc (.cells #[.int .i64 0, .int .i64 0, .slice none 0 0] 24)) := ⟨_, rfl⟩
  have hz : W1.heap.size = w.heap.size + 2 := by rw [hW1]; simp
  rw [← hW1] at Z1 q1
  have qf : ∀ o, W1.frozen? ⟨w.heap.size + 1, o, none⟩ = false := by intro o; rw [hW1]; exact World.frozen?_alloc_at _ _ _ _ (by simp)
  obtain ⟨hB1, hz1', b0, b1, b2, hL1⟩ := id Z1
  clear Z0
  by_cases hG : Good W H L
  · rw [lowX_yes hG, lowX_yes hG, lowL_yes hG, dc_true hG]
    have hg30 := hG.2.2.1.2
    have hg1 := hG.2.2.1.1
    have hbd := gL_bound L (good_sides hG)
    go_enter Try.func53, Try.ntmps53
    go_wp2_with fail
    rw [← hW1]
    refine (callB_yes (isCut_good W H A _ c L _ rfl hc (hL1.mono hB1.size) hwf) hG).mono ?_
    rintro e w2 ⟨rfl, hb2⟩
    have Z2 := Z1.next hb2
    have q2 := q1.next hb2
    have qf2 : ∀ o, w2.frozen? ⟨w.heap.size + 1, o, none⟩ = false := fun o => (hb2.frozen (p := ⟨w.heap.size + 1, o, none⟩) (by simp; omega)).trans (qf o)
    have hs2 := hb2.size
    clear hb2 Z1 q1 qf b0 b1 b2 hL1 hB1 hz1' hW1
    obtain ⟨hB2, hz2, b0, b1, b2, hL2⟩ := id Z2
    go_wp2_with fail
    go_loopw [4, 14] (fun v i wr => ∃ k : Nat, k ≤ L.length ∧ v = .int .i64 (gL (L.take k) : Nat) ∧ i = .int .i64 k ∧ Below w2.heap.size w2 wr) (fun _ i _ => L.length - (intOf i).toNat)
    case atStart => exact ⟨0, Nat.zero_le _, by simp [gL], rfl, Below.refl _ _⟩
    case round =>
      obtain ⟨k, hk, rfl, rfl, hbr⟩ := hrel
      have hsr := hbr.size
      by_cases hlt : k < L.length
      · obtain ⟨s, hs⟩ : ∃ s, L[k]? = some s := ⟨_, List.getElem?_eq_getElem hlt⟩
        obtain ⟨b, off, rfl, hb, c0, c1, c2⟩ := (hL.below (hB2.trans (hbr.mono (by omega)))) k s hs
        have hsd := good_sides hG k s hs
        have hgk := (hbd k hk).1
        have HS := Lib.hid (gL_take_succ L k s hs)
        obtain ⟨x, y, d⟩ := s
        obtain ⟨dn, rfl⟩ := Int.eq_ofNat_of_zero_le (show 0 ≤ d by simp at hsd; omega)
        have hdn : dn ≤ 500 := by simp at hsd; omega
        clear hs hL hL2 Z2 q2 qf2 b0 b1 b2 hG hbd
        obtain ⟨p, hp⟩ : ∃ p, gL (L.take k) = p := ⟨_, rfl⟩
        rw [hp] at hgk ⊢
        have HP := Lib.hid hp
        clear hp
        go_wp2_with fail
        refine (implGcd_any p dn _ hgk hdn).mono ?_
        rintro e w3 ⟨rfl, hb3⟩
        have hB3 := hbr.trans ((((Below.refl wr.heap.size wr).alloc (Nat.le_refl _) (.cells #[.int .i64 x, .int .i64 y, .int .i64 dn] 39)).trans (hb3.mono (by simp))).mono hsr)
        clear hb3
        go_wp2_with fail
        exact ⟨⟨k + 1, by omega, by rw [HS.out, HP.out]; simp, rfl, hB3⟩, by simp [intOf]; omega⟩
      · obtain rfl : k = L.length := by omega
        have Zr := Z2.next hbr
        have qr := q2.next hbr
        have hgg := hbd L.length (Nat.le_refl _)
        rw [List.take_length] at hgg ⊢
        obtain ⟨hBr, hzr, d0, d1, d2, hLr⟩ := id Zr
        clear b0 b1 b2 hL2 Z2 q2 hB2
        go_wp2_with fail
        refine (implScaled_any W H A L.length c L (gL L) _ rfl hc (hLr.mono (by omega)) hG (hgg.2 hg1) hgg.1).mono ?_
        rintro e w4 ⟨Ag, cg, rfl, hown, hb4⟩
        have qs := qr.next hb4
        have hqr := hbr.size
        have t0 := (hb4.frozen (p := ⟨w.heap.size + 1, 0, none⟩) (by simp; omega)).trans ((hbr.frozen (p := ⟨w.heap.size + 1, 0, none⟩) (by simp; omega)).trans (qf2 0))
        have t1 := (hb4.frozen (p := ⟨w.heap.size + 1, 1, none⟩) (by simp; omega)).trans ((hbr.frozen (p := ⟨w.heap.size + 1, 1, none⟩) (by simp; omega)).trans (qf2 1))
        have t2 := (hb4.frozen (p := ⟨w.heap.size + 1, 2, none⟩) (by simp; omega)).trans ((hbr.frozen (p := ⟨w.heap.size + 1, 2, none⟩) (by simp; omega)).trans (qf2 2))
        obtain ⟨_, r0, r1, r2⟩ := id qs
        have hB4 := hBr.trans (hb4.mono (by omega))
        clear d0 d1 d2 hLr Zr qr qs qf2 hL
        go_wp2_with fail
        have hB := ((((hB4.setCell (p := ⟨w.heap.size + 1, 0, none⟩) (by simp) (.int .i64 (W / (gL L : Int)))).setCell (p := ⟨w.heap.size + 1, 1, none⟩) (by simp) (.int .i64 (H / (gL L : Int)))).setCell (p := ⟨w.heap.size + 1, 2, none⟩) (by simp) (.slice Ag L.length cg)))
        have R := ownsRow_setCell_below (ownsRow_setCell_below (ownsRow_setCell_below hown (a := ⟨w.heap.size + 1, 0, none⟩) (by simp; omega) (.int .i64 (W / (gL L : Int)))) (a := ⟨w.heap.size + 1, 1, none⟩) (by simp; omega) (.int .i64 (H / (gL L : Int)))) (a := ⟨w.heap.size + 1, 2, none⟩) (by simp; omega) (.slice Ag L.length cg)
        refine bodyPost_ret (v := .tuple #[.agg #[.int .i64 (W / (gL L : Int)), .int .i64 (H / (gL L : Int)), .slice Ag L.length cg], .bool true]) (by simp [results, Try.results53, go_sem, r0, r1, r2]) rfl ?_
        exact RetCut.mk (divL_len _ _).symm (own_base R (by omega)) hB
  · rw [lowX_no hG, lowX_no hG, lowL_no hG, dc_false hG]
    go_enter Try.func53, Try.ntmps53
    go_wp2_with fail
    rw [← hW1]
    refine (callB_no (isCut_good W H A _ c L _ rfl hc (hL1.mono hB1.size) hwf) hG).mono ?_
    rintro e w2 ⟨rfl, hb2⟩
    have q2 := q1.next hb2
    have qf2 : ∀ o, w2.frozen? ⟨w.heap.size + 1, o, none⟩ = false := fun o => (hb2.frozen (p := ⟨w.heap.size + 1, o, none⟩) (by simp; omega)).trans (qf o)
    obtain ⟨_, r0, r1, r2⟩ := id q2
    have t0 := qf2 0
    have t1 := qf2 1
    have t2 := qf2 2
    have hB2 := hB1.trans (hb2.mono hB1.size)
    have hs2 := hb2.size
    clear q1 q2 qf qf2 Z1 b0 b1 b2 hL1
    go_wp2_with fail
    have hB := ((((hB2.setCell (p := ⟨w.heap.size + 1, 0, none⟩) (by simp) (.int .i64 0)).setCell (p := ⟨w.heap.size + 1, 1, none⟩) (by simp) (.int .i64 0)).setCell (p := ⟨w.heap.size + 1, 2, none⟩) (by simp) (.slice none 0 0)))
    refine bodyPost_ret (v := .tuple #[.agg #[.int .i64 0, .int .i64 0, .slice none 0 0], .bool false]) (by simp [results, Try.results53, go_sem, r0, r1, r2]) rfl ?_
    exact RetCut.mk rfl (World.ownsRow_nil _ _ _ _) hB
end Go.Proofs.Ytgghkimjminbaaa
