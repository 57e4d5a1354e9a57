/- Contract of the model's LowCut. -/
import Derived.Test.YtgghkimjminbaaaLowI
import Derived.Deep.AppendLies
import Derived.Deep.RegionLaw
set_option linter.all false
namespace Go.Proofs.Ytgghkimjminbaaa
open Go.RowKit

theorem qw {x : Int} {g : Nat} (h0 : 0 ≤ x) (h1 : x ≤ 500) : IntKind.i64.wrap (x.tdiv (g : Int)) = x / (g : Int) := by
  rw [Int.tdiv_eq_ediv_of_nonneg h0]
  have := div_small (g := g) h0 h1
  exact IntWalk.i64_in _ (by omega)
set_option maxRecDepth 100000 in
set_option maxHeartbeats 30000000 in
theorem specLow_any (W H : Int) (A : Option Addr) (n c : Nat) (L : List Sq) (w : World) (hl : L.length = n) (hc : n ≤ c) (hL : SqsAt w w.heap.size A L) :
    Calls Try.prog 52 #[.agg #[.int .i64 W, .int .i64 H, .slice A n c]] w (RetCut w (lowX W H L W) (lowX W H L H) (lowL W H L) (dc (Good W H L))) := by
  subst hl
  obtain ⟨i0, hi, hi0, hi1, hi2⟩ := info_parts infoSq
  have Z0 : Box w.heap.size w (w.alloc (.cells #[.int .i64 W, .int .i64 H, .slice A L.length c] 24)) W H A c L := Box.start hL
  have Z1 := Z0.next ((Below.refl _ _).alloc (Nat.le_refl _) (.cells #[.int .i64 0, .int .i64 0, .slice none 0 0] 24))
  have q1 : Bx (w.heap.size + 1) ((w.alloc (.cells #[.int .i64 W, .int .i64 H, .slice A L.length c] 24)).alloc (.cells #[.int .i64 0, .int .i64 0, .slice none 0 0] 24)) 0 0 none 0 0 := by simpa using Bx.start (w.alloc (.cells #[.int .i64 W, .int .i64 H, .slice A L.length c] 24)) 0 0 none 0 0 24
  obtain ⟨W1, hW1⟩ : ∃ W1, W1 = ((w.alloc (.cells #[.int .i64 W, .int .i64 H, .slice A L.length c] 24)).alloc (.cells #[.int .i64 0, .int .i64 0, .slice none 0 0] 24)) := ⟨_, rfl⟩
  have hz : W1.heap.size = w.heap.size + 2 := by rw [hW1]; simp
  rw [← hW1] at Z1 q1
  have qf : ∀ o, W1.frozen? ⟨w.heap.size + 1, o, none⟩ = false := by intro o; rw [hW1]; exact World.frozen?_alloc_at _ _ _ _ (by simp)
  obtain ⟨hB1, hz1', b0, b1, b2, hL1⟩ := id Z1
  clear Z0
  by_cases hG : Good W H L
  · rw [lowX_yes hG, lowX_yes hG, lowL_yes hG, dc_true hG]
    have hg30 := hG.2.2.1.2
    have hg1 := hG.2.2.1.1
    have hbd := gL_bound L (good_sides hG)
    go_enter Try.func52, Try.ntmps52
    go_wp2_with fail
    rw [← hW1]
    refine (callB_yes (cuGood_any W H A _ c L _ rfl hc (hL1.mono hB1.size)) hG).mono ?_
    rintro e w2 ⟨rfl, hb2⟩
    have Z2 := Z1.next hb2
    have q2 := q1.next hb2
    have qf2 : ∀ o, w2.frozen? ⟨w.heap.size + 1, o, none⟩ = false := fun o => (hb2.frozen (p := ⟨w.heap.size + 1, o, none⟩) (by simp; omega)).trans (qf o)
    have hs2 := hb2.size
    clear hb2 Z1 q1 qf b0 b1 b2 hL1 hB1 hz1' hW1
    obtain ⟨hB2, hz2, b0, b1, b2, hL2⟩ := id Z2
    go_wp2_with fail
    go_loopw [4, 17] (fun v i wr => ∃ k : Nat, k ≤ L.length ∧ v = .int .i64 (gL (L.take k) : Nat) ∧ i = .int .i64 k ∧ Below w2.heap.size w2 wr) (fun _ i _ => L.length - (intOf i).toNat)
    case atStart => exact ⟨0, Nat.zero_le _, by simp [gL], rfl, Below.refl _ _⟩
    case round =>
      obtain ⟨k, hk, rfl, rfl, hbr⟩ := hrel
      have hsr := hbr.size
      by_cases hlt : k < L.length
      · obtain ⟨s, hs⟩ : ∃ s, L[k]? = some s := ⟨_, List.getElem?_eq_getElem hlt⟩
        obtain ⟨b, off, rfl, hb, c0, c1, c2⟩ := (hL.below (hB2.trans (hbr.mono (by omega)))) k s hs
        have hsd := good_sides hG k s hs
        have hgk := (hbd k hk).1
        have HS := Lib.hid (gL_take_succ L k s hs)
        obtain ⟨x, y, d⟩ := s
        obtain ⟨dn, rfl⟩ := Int.eq_ofNat_of_zero_le (show 0 ≤ d by simp at hsd; omega)
        have hdn : dn ≤ 500 := by simp at hsd; omega
        clear hs hL hL2 Z2 q2 qf2 b0 b1 b2 hG hbd
        obtain ⟨p, hp⟩ : ∃ p, gL (L.take k) = p := ⟨_, rfl⟩
        rw [hp] at hgk ⊢
        have HP := Lib.hid hp
        clear hp
        go_wp2_with fail
        refine (specGcd_any p dn _ hgk hdn).mono ?_
        rintro e w3 ⟨rfl, hb3⟩
        have hB3 := hbr.trans ((((Below.refl wr.heap.size wr).alloc (Nat.le_refl _) (.cells #[.int .i64 x, .int .i64 y, .int .i64 dn] 39)).trans (hb3.mono (by simp))).mono hsr)
        clear hb3
        go_wp2_with fail
        exact ⟨⟨k + 1, by omega, by rw [HS.out, HP.out]; simp, rfl, hB3⟩, by simp [intOf]; omega⟩
      · obtain rfl : k = L.length := by omega
        have Zr := Z2.next hbr
        have qr := q2.next hbr
        have hgg := hbd L.length (Nat.le_refl _)
        rw [List.take_length] at hgg ⊢
        obtain ⟨hBr, hzr, d0, d1, d2, hLr⟩ := id Zr
        clear b0 b1 b2 hL2 Z2 q2 hB2
        go_wp2_with fail
        have hW := hG.1
        have hH := hG.2.1
        have hgp := hgg.2 hg1
        have gne : ((gL L : Nat) : Int) ≠ 0 := by omega
        have hgg1 := hgg.1
        go_region
        obtain ⟨w3, hw3⟩ : ∃ w3, w3 = wr.alloc (.cells #[.int .i64 (W / (gL L : Int)), .int .i64 (H / (gL L : Int)), .slice none 0 0] 24) := ⟨_, rfl⟩
        have o3 : Bx wr.heap.size w3 (W / (gL L : Int)) (H / (gL L : Int)) none 0 0 := by rw [hw3]; exact Bx.start _ _ _ _ _ _ _
        have f3 : ∀ o, w3.frozen? ⟨wr.heap.size, o, none⟩ = false := by intro o; rw [hw3]; exact World.frozen?_alloc_at _ _ _ _ rfl
        have hb3 : Below wr.heap.size wr w3 := by rw [hw3]; exact (Below.refl _ _).alloc (Nat.le_refl _) _
        rw [← hw3]
        obtain ⟨w4, hw4⟩ : ∃ w4, w4 = w3.drew := ⟨_, rfl⟩
        have o4 : Bx wr.heap.size w4 (W / (gL L : Int)) (H / (gL L : Int)) none 0 0 := by rw [hw4]; exact ⟨o3.lt, o3.c0, o3.c1, o3.c2⟩
        have f4 : ∀ o, w4.frozen? ⟨wr.heap.size, o, none⟩ = false := by rw [hw4]; exact f3
        have hb4 : Below wr.heap.size wr w4 := by rw [hw4]; exact hb3.drew
        rw [← hw4]
        clear hw3 hw4 hb3 f3 o3 w3 d0 d1 d2 hLr
        have Z4 := Zr.next hb4
        obtain ⟨hB4, hz4, d0, d1, d2, hL4⟩ := id Z4
        obtain ⟨p0, p1, p2, p3⟩ := id o4
        go_wp2_with fail
        have hs4 := hb4.size
        have q4 := qr.next hb4
        have qf4 : ∀ o, w4.frozen? ⟨w.heap.size + 1, o, none⟩ = false := fun o => (hb4.frozen (p := ⟨w.heap.size + 1, o, none⟩) (by simp; omega)).trans ((hbr.frozen (p := ⟨w.heap.size + 1, o, none⟩) (by simp; omega)).trans (qf2 o))
        clear hL hbr hBr hzr hb4 Zr qr
        obtain ⟨O, hO⟩ : ∃ O, O = wr.heap.size := ⟨_, rfl⟩
        rw [← hO] at p0 p1 p2 p3 o4 f4 hs4 hsr ⊢
        clear hO
        go_loopw [38] (fun i wr => ∃ (k : Nat) (v : Value), k ≤ L.length ∧ i = .int .i64 k ∧ Below O w4 wr ∧ O < wr.heap.size ∧ wr.cell? ⟨O, 0, none⟩ = some (.int .i64 (W / (gL L : Int))) ∧ wr.cell? ⟨O, 1, none⟩ = some (.int .i64 (H / (gL L : Int))) ∧ wr.cell? ⟨O, 2, none⟩ = some v ∧ (∀ o, wr.frozen? ⟨O, o, none⟩ = false) ∧ wr.ownsRow (O + 1) 39 3 v k (flat (divL (gL L) (L.take k)))) (fun i _ => L.length - (intOf i).toNat)
        case atStart => exact ⟨0, _, Nat.zero_le _, rfl, Below.refl _ _, p0, p1, p2, p3, f4, World.ownsRow_nil _ _ _ _⟩
        case round =>
          obtain ⟨k, v, hk, rfl, hbn, hzn, n0, n1, n2, nf, hown⟩ := hrel
          by_cases hlt : k < L.length
          · obtain ⟨s, hs⟩ : ∃ s, L[k]? = some s := ⟨_, List.getElem?_eq_getElem hlt⟩
            obtain ⟨b, off, rfl, hb, c0, c1, c2⟩ := (hL4.below (hbn.mono (by omega))) k s hs
            have hok := (hG.2.2.2.1 k s hs)
            have hin : Within s W H := hok.1
            unfold Within at hin
            have HS := Lib.hid (flat_div_succ (gL L) L k s hs)
            clear q4 qf4 hs hok hG hL4 Z4 d0 d1 d2 p0 p1 p2 p3 o4 f4
            go_wp2_with fail
            obtain ⟨w5, hw5⟩ : ∃ w5, w5 = wr.alloc (.cells #[.int .i64 s.x, .int .i64 s.y, .int .i64 s.d] 39) := ⟨_, rfl⟩
            have hb5 : Below wr.heap.size wr w5 := by rw [hw5]; exact (Below.refl _ _).alloc (Nat.le_refl _) _
            have x0 : w5.cell? ⟨wr.heap.size, 0, none⟩ = some (.int .i64 s.x) := by rw [hw5]; simp
            have x1 : w5.cell? ⟨wr.heap.size, 1, none⟩ = some (.int .i64 s.y) := by rw [hw5]; simp
            have x2 : w5.cell? ⟨wr.heap.size, 2, none⟩ = some (.int .i64 s.d) := by rw [hw5]; simp
            have m2 := (hb5.cell (p := ⟨O, 2, none⟩) hzn).trans n2
            have hown5 := own_keep hown hb5
            have hz5 := hb5.size
            rw [← hw5]
            clear hw5 c0 c1 c2
            have gn0 : ¬ gL L = 0 := by omega
            have e0 : IntKind.i64.wrap (s.x.tdiv (gL L : Int)) = s.x / (gL L : Int) := qw (by omega) (by omega)
            have e1 : IntKind.i64.wrap (s.y.tdiv (gL L : Int)) = s.y / (gL L : Int) := qw (by omega) (by omega)
            have e2 : IntKind.i64.wrap (s.d.tdiv (gL L : Int)) = s.d / (gL L : Int) := qw (by omega) (by omega)
            have hbl : k + 1 ≤ maxLen := by unfold maxLen; omega
            have hby : (k + 1) * 24 ≤ 140737488355328 := by omega
            have hbs : O + 1 ≤ w5.heap.size := by omega
            have hO5 : O < w5.heap.size := by omega
            have ho5 : some O ≠ v.ownBlock := fun e => Nat.lt_irrefl O (hown5.lt O e.symm).1
            have hr5 : ∀ kk, v.ownBlock = some kk → O ≤ kk := fun kk hkk => Nat.le_of_lt (hown5.lt kk hkk).1
            have m0 := (hb5.cell (p := ⟨O, 0, none⟩) hzn).trans n0
            have m1 := (hb5.cell (p := ⟨O, 1, none⟩) hzn).trans n1
            have mf : ∀ o, w5.frozen? ⟨O, o, none⟩ = false := fun o => (hb5.frozen (p := ⟨O, o, none⟩) hzn).trans (nf o)
            go_region_law (first | (refine step_append_lies _ rfl _ _ 22 rfl (O + 1) 39 i0 (.agg #[.int .i64 0, .int .i64 0, .int .i64 0]) 3 24 Try.underlying22 hi hi0 hi1 hi2 rfl (by decide) v k _ rfl (hown5.drew.alloc _) ⟨w5.heap.size, 0, none⟩ 1 1 [.int .i64 (s.x / (gL L : Int)), .int .i64 (s.y / (gL L : Int)), .int .i64 (s.d / (gL L : Int))] rfl rfl (new3 _ _ _ _ _) (one3 _ _ _) (by decide) hbl hby (by simp; omega) _ rfl ?_; intro g cap w6 hown6 hgrow hat hlt6; have y0 := farC hgrow (a := ⟨O, 0, none⟩) hO5 ho5 m0; have y1 := farC hgrow (a := ⟨O, 1, none⟩) hO5 ho5 m1; have y2 := farC hgrow (a := ⟨O, 2, none⟩) hO5 ho5 m2; have yf := farF hgrow (a := ⟨O, 2, none⟩) hO5 ho5 (mf 2); have yF := fun o => farF hgrow (a := ⟨O, o, none⟩) hO5 ho5 (mf o); have hB6 := farB (B := O) hgrow (Nat.le_of_lt hO5) hr5; clear hgrow))
            all_goals go_wp2_with fail
            all_goals
              refine ⟨⟨k + 1, .slice (some ⟨g, 0, none⟩) (k + 1) cap, by omega, rfl, ((hbn.trans (hb5.mono (by omega))).trans hB6).setCell (p := ⟨O, 2, none⟩) (Nat.le_refl _) _, ?_, ?_, ?_, ?_, ?_, ?_⟩, ?_⟩
              · have := hB6.size; simp; omega
              · exact putC0 y0
              · exact putC1 y1
              · exact putC2 y2
              · intro o; simp [yF o]
              · rw [HS.out]; exact ownsRow_setCell_below hown6 (a := ⟨O, 2, none⟩) (Nat.lt_succ_self _) _
              · simp [intOf]; omega
          · obtain rfl : k = L.length := by omega
            rw [List.take_length] at hown
            obtain ⟨A', c', rfl⟩ := own_val hown
            have hlt1 : w.heap.size + 1 < O := by omega
            have r0 := (hbn.cell (p := ⟨w.heap.size + 1, 0, none⟩) hlt1).trans q4.c0
            have r1 := (hbn.cell (p := ⟨w.heap.size + 1, 1, none⟩) hlt1).trans q4.c1
            have r2 := (hbn.cell (p := ⟨w.heap.size + 1, 2, none⟩) hlt1).trans q4.c2
            have t0 := (hbn.frozen (p := ⟨w.heap.size + 1, 0, none⟩) hlt1).trans (qf4 0)
            have t1 := (hbn.frozen (p := ⟨w.heap.size + 1, 1, none⟩) hlt1).trans (qf4 1)
            have t2 := (hbn.frozen (p := ⟨w.heap.size + 1, 2, none⟩) hlt1).trans (qf4 2)
            clear d0 d1 d2 p0 p1 p2 p3 Z4 o4 f4 q4 qf4 hL4
            go_wp2_with fail
            have hB := (((((hB4.trans (hbn.mono (by omega))).setCell (p := ⟨w.heap.size + 1, 0, none⟩) (by simp) (.int .i64 (W / (gL L : Int)))).setCell (p := ⟨w.heap.size + 1, 1, none⟩) (by simp) (.int .i64 (H / (gL L : Int)))).setCell (p := ⟨w.heap.size + 1, 2, none⟩) (by simp) (.slice A' L.length c')))
            have R := ownsRow_setCell_below (ownsRow_setCell_below (ownsRow_setCell_below hown (a := ⟨w.heap.size + 1, 0, none⟩) (by simp; omega) (.int .i64 (W / (gL L : Int)))) (a := ⟨w.heap.size + 1, 1, none⟩) (by simp; omega) (.int .i64 (H / (gL L : Int)))) (a := ⟨w.heap.size + 1, 2, none⟩) (by simp; omega) (.slice A' L.length c')
            refine bodyPost_ret (v := .tuple #[.agg #[.int .i64 (W / (gL L : Int)), .int .i64 (H / (gL L : Int)), .slice A' L.length c'], .bool true]) (by simp [results, Try.results52, go_sem, r0, r1, r2]) rfl ?_
            exact RetCut.mk (divL_len _ _).symm (own_base R (by omega)) hB
  · rw [lowX_no hG, lowX_no hG, lowL_no hG, dc_false hG]
    go_enter Try.func52, Try.ntmps52
    go_wp2_with fail
    rw [← hW1]
    refine (callB_no (cuGood_any W H A _ c L _ rfl hc (hL1.mono hB1.size)) hG).mono ?_
    rintro e w2 ⟨rfl, hb2⟩
    have q2 := q1.next hb2
    have qf2 : ∀ o, w2.frozen? ⟨w.heap.size + 1, o, none⟩ = false := fun o => (hb2.frozen (p := ⟨w.heap.size + 1, o, none⟩) (by simp; omega)).trans (qf o)
    obtain ⟨_, r0, r1, r2⟩ := id q2
    have t0 := qf2 0
    have t1 := qf2 1
    have t2 := qf2 2
    have hB2 := hB1.trans (hb2.mono hB1.size)
    have hs2 := hb2.size
    clear q1 q2 qf qf2 Z1 b0 b1 b2 hL1
    go_wp2_with fail
    have hB := ((((hB2.setCell (p := ⟨w.heap.size + 1, 0, none⟩) (by simp) (.int .i64 0)).setCell (p := ⟨w.heap.size + 1, 1, none⟩) (by simp) (.int .i64 0)).setCell (p := ⟨w.heap.size + 1, 2, none⟩) (by simp) (.slice none 0 0)))
    refine bodyPost_ret (v := .tuple #[.agg #[.int .i64 0, .int .i64 0, .slice none 0 0], .bool false]) (by simp [results, Try.results52, go_sem, r0, r1, r2]) rfl ?_
    exact RetCut.mk rfl (World.ownsRow_nil _ _ _ _) hB
end Go.Proofs.Ytgghkimjminbaaa
