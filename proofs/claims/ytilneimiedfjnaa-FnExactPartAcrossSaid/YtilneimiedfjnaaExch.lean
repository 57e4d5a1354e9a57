/- Turned and mirrored: X and Y exchanged. -/
import Derived.Test.YtilneimiedfjnaaRcC
import Derived.Test.YtilneimiedfjnaaFirstE
set_option linter.all false
namespace Go.Proofs.Ytilneimiedfjnaa
open Go.RowKit

set_option maxRecDepth 100000 in
set_option maxHeartbeats 2000000 in
theorem exchanged_any (W H : Int) (A : Option Addr) (n c : Nat) (L : List Sq) (w : World) (hl : L.length = n) (hc : n ≤ c) (hL : SqsAt w w.heap.size A L) (hG : Good W H L) :
    Calls Try.prog 74 #[.agg #[.int .i64 W, .int .i64 H, .slice A n c]] w (RetC w H W (srt (J.swL L))) := by
  subst hl
  have Z0 : Box w.heap.size w (w.alloc (.cells #[.int .i64 W, .int .i64 H, .slice A L.length c] 29)) W H A c L := Box.start hL
  have Z1 := Z0.next ((Below.refl _ _).alloc (Nat.le_refl _) (.cells #[.int .i64 0, .int .i64 0, .slice none 0 0] 29))
  have q1 : Bx (w.heap.size + 1) ((w.alloc (.cells #[.int .i64 W, .int .i64 H, .slice A L.length c] 29)).alloc (.cells #[.int .i64 0, .int .i64 0, .slice none 0 0] 29)) 0 0 none 0 0 := by simpa using Bx.start (w.alloc (.cells #[.int .i64 W, .int .i64 H, .slice A L.length c] 29)) 0 0 none 0 0 29
  obtain ⟨W1, hW1⟩ : ∃ W1, W1 = ((w.alloc (.cells #[.int .i64 W, .int .i64 H, .slice A L.length c] 29)).alloc (.cells #[.int .i64 0, .int .i64 0, .slice none 0 0] 29)) := ⟨_, rfl⟩
  have hz : W1.heap.size = w.heap.size + 2 := by rw [hW1]; simp
  rw [← hW1] at Z1 q1
  have qf : ∀ o, W1.frozen? ⟨w.heap.size + 1, o, none⟩ = false := by intro o; rw [hW1]; exact World.frozen?_alloc_at _ _ _ _ (by simp)
  obtain ⟨hB1, hz1', b0, b1, b2, hL1⟩ := id Z1
  have hG1 := good_turn hG
  have hl1 : (srt (turnL H L)).length = L.length := by rw [srt_len, turnL_len]
  have he := J.exch (good_fill hG)
  go_enter Try.func74, Try.ntmps74
  go_wp2_with fail
  rw [← hW1]
  refine (turned_any W H A L.length c L W1 rfl hc (hL1.mono hB1.size) hG).mono ?_
  rintro e w2 ⟨A2, c2, T, rfl, hp, hs, ho, hb2⟩
  obtain rfl := srt_uniq hp hs ((fill_turn (good_fill hG)).dist)
  rw [turnL_len] at ho ⊢
  have q2 := q1.next hb2
  have qf2 : ∀ o, w2.frozen? ⟨w.heap.size + 1, o, none⟩ = false := fun o => (hb2.frozen (p := ⟨w.heap.size + 1, o, none⟩) (by show w.heap.size + 1 < _; omega)).trans (qf o)
  have hB2 := hB1.trans (hb2.mono (by omega))
  have hs2 := hb2.size
  clear b0 b1 b2 hL1 q1 qf hb2 hW1
  go_wp2_with fail
  refine (mirrored_any H W A2 L.length c2 (srt (turnL H L)) w2 hl1 (own_cap ho) (sqs_of_own ho) hG1).mono ?_
  rintro e w3 ⟨A3, c3, T, rfl, hp, hs, ho3, hb3⟩
  obtain rfl := srt_uniq hp hs ((fill_mir (good_fill hG1)).dist)
  rw [mirL_len, hl1, he] at ho3
  rw [mirL_len, hl1]
  have q3 := q2.next hb3
  have t0 := (hb3.frozen (p := ⟨w.heap.size + 1, 0, none⟩) (by show w.heap.size + 1 < _; omega)).trans (qf2 0)
  have t1 := (hb3.frozen (p := ⟨w.heap.size + 1, 1, none⟩) (by show w.heap.size + 1 < _; omega)).trans (qf2 1)
  have t2 := (hb3.frozen (p := ⟨w.heap.size + 1, 2, none⟩) (by show w.heap.size + 1 < _; omega)).trans (qf2 2)
  obtain ⟨_, r0, r1, r2⟩ := id q3
  have hB3 := hB2.trans (hb3.mono (by omega))
  clear q2 qf2 he
  go_wp2_with fail
  have hB := ((hB3.setCell (p := ⟨w.heap.size + 1, 0, none⟩) (by simp) (.int .i64 H)).setCell (p := ⟨w.heap.size + 1, 1, none⟩) (by simp) (.int .i64 W)).setCell (p := ⟨w.heap.size + 1, 2, none⟩) (by simp) (.slice A3 L.length c3)
  have R := ownsRow_setCell_below (ownsRow_setCell_below (ownsRow_setCell_below ho3 (a := ⟨w.heap.size + 1, 0, none⟩) (by simp; omega) (.int .i64 H)) (a := ⟨w.heap.size + 1, 1, none⟩) (by simp; omega) (.int .i64 W)) (a := ⟨w.heap.size + 1, 2, none⟩) (by simp; omega) (.slice A3 L.length c3)
  refine bodyPost_ret (v := .agg #[.int .i64 H, .int .i64 W, .slice A3 L.length c3]) (by simp [results, Try.results74, go_sem, r0, r1, r2]) rfl ?_
  have hll : (srt (J.swL L)).length = L.length := by rw [srt_len, J.swL_len]
  unfold RetC
  rw [hll]
  exact ⟨A3, c3, rfl, own_base R (by omega), hB⟩

theorem unT_be {W H V G : Int} {L M : List Sq} (h : Good W H L) (k : Good V G M) :
    unT W H L V G M = if (beT H W (srt (J.swL L)) G V (srt (J.swL M))).2.2.2 then ((beT H W (srt (J.swL L)) G V (srt (J.swL M))).2.1, (beT H W (srt (J.swL L)) G V (srt (J.swL M))).1, srt (J.swL (beT H W (srt (J.swL L)) G V (srt (J.swL M))).2.2.1), true) else noT := by
  rw [unT_yes h k, beT_yes (J.good_sw h) (J.good_sw k)]
  by_cases hF : Fill (H * (V / gd W V) + G * (W / gd W V)) (W * (V / gd W V)) (J.beL H (V / gd W V) (W / gd W V) (srt (J.swL L)) (srt (J.swL M)))
  · rw [Mk_yes hF, if_pos rfl, Mk_yes ((J.under_fill _ _ _ _ _ _ _).1 hF)]
    exact congrArg _ (congrArg _ (congrArg (fun z => (z, true)) (J.under_srt hF).symm))
  · rw [Mk_no hF, if_neg (by simp [noT]), Mk_no (fun k => hF ((J.under_fill _ _ _ _ _ _ _).2 k))]
theorem beT_good {W H V G : Int} {L M : List Sq} (h : (beT W H L V G M).2.2.2 = true) : Good (beT W H L V G M).1 (beT W H L V G M).2.1 (beT W H L V G M).2.2.1 := by
  by_cases k : Good W H L ∧ Good V G M
  · rw [beT_yes k.1 k.2] at h ⊢
    by_cases hF : Fill (W * (G / gd H G) + V * (H / gd H G)) (H * (G / gd H G)) (J.beL W (G / gd H G) (H / gd H G) L M)
    · rw [Mk_yes hF]; exact good_srt hF
    · rw [Mk_no hF] at h; simp [noT] at h
  · rw [beT_no k] at h; simp [noT] at h

end Go.Proofs.Ytilneimiedfjnaa
