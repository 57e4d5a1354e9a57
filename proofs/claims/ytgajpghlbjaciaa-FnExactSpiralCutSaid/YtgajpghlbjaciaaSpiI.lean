/- Spirals of the program. -/
import Derived.Test.YtgajpghlbjaciaaSpiG
set_option linter.all false
namespace Go.Proofs.Ytgajpghlbjaciaa
open Go.RowKit

set_option maxRecDepth 100000 in
set_option maxHeartbeats 400000 in
theorem implSpiral_any (d : Int) (w : World) : Calls Try.prog 38 #[.int .i64 d] w (RetT w (spiT d)) := by
  obtain ⟨W1, hW1⟩ : ∃ W1, W1 = w.alloc (.cells #[.int .i64 0, .int .i64 0, .slice none 0 0] 28) := ⟨_, rfl⟩
  have hs1 : W1.heap.size = w.heap.size + 1 := by rw [hW1]; simp
  have br : Bx w.heap.size W1 0 0 none 0 0 := by rw [hW1]; exact Bx.start _ _ _ _ _ _ _
  have hf : ∀ o, W1.frozen? ⟨w.heap.size, o, none⟩ = false := by intro o; rw [hW1]; exact World.frozen?_alloc_at _ _ _ _ rfl
  have HB : Below w.heap.size w W1 := by rw [hW1]; exact (Below.refl _ _).alloc (Nat.le_refl _) _
  by_cases h : 1 ≤ d ∧ d ≤ 12
  · obtain ⟨m, rfl⟩ : ∃ m : Nat, d = m := ⟨d.toNat, by omega⟩
    have em : ((m : Int)).toNat = m := by simp
    have d1 : decide ((m : Int) < 1) = false := decide_eq_false (by omega)
    have d2 : decide (12 < (m : Int)) = false := decide_eq_false (by omega)
    rw [spiT_yes h, em]
    go_enter Try.func38, Try.ntmps38
    go_wp2_with fail
    rw [← hW1]
    clear hW1
    refine (implOne_any 1 W1).mono ?_
    rintro e w2 ⟨A2, c2, rfl, o2, hb2⟩
    rw [oneW_yes (by decide), oneL_yes (by decide)] at *
    have hs2 := hb2.size
    have M0 : SM w.heap.size w (w2.alloc (.cells #[.int .i64 1, .int .i64 1, .slice A2 1 c2] 28)) w2.heap.size 1 1 A2 c2 [⟨0, 0, 1⟩] := by
      have hb3 : Below w2.heap.size w2 (w2.alloc (.cells #[.int .i64 1, .int .i64 1, .slice A2 1 c2] 28)) := (Below.refl _ _).alloc (Nat.le_refl _) _
      exact ⟨HB.trans ((hb2.mono (by omega)).trans (hb3.mono (by omega))), by omega, (br.next hb2).next hb3, fun o => (hb3.frozen (p := ⟨w.heap.size, o, none⟩) (by show w.heap.size < _; omega)).trans ((hb2.frozen (p := ⟨w.heap.size, o, none⟩) (by show w.heap.size < _; omega)).trans (hf o)), Bx.start _ _ _ _ _ _ _, fun o => World.frozen?_alloc_at _ _ _ _ rfl, own_keep (own_base o2 (by omega)) hb3, fun k hk => by have := (o2.lt k hk).2; omega⟩
    go_wp2_with fail
    go_loopw [6] (fun i wr => ∃ (k : Nat) (A3 : Option Addr) (c3 : Nat), k + 1 ≤ m ∧ i = .int .i64 ((k + 1 : Nat) : Int) ∧ SM w.heap.size w wr (w2.heap.size) (J.spi k).1 (J.spi k).2.1 A3 c3 (J.spi k).2.2) (fun i _ => m - (intOf i).toNat)
    case atStart => exact ⟨0, A2, c2, by omega, rfl, M0⟩
    case round =>
      obtain ⟨k, A3, c3, hk, rfl, M⟩ := hrel
      obtain ⟨_, x0, x1, x2⟩ := id M.box
      have hGk := (J.spi_good k (by omega)).1
      by_cases hlt : k + 1 < m
      · have hlI : ((k + 1 : Nat) : Int) < (m : Int) := by omega
        have hsp := spi_put k (by omega)
        have e4 : (((k + 1) % 4 : Nat) : Int) = ((k : Int) + 1) % 4 := by omega
        rw [e4] at hsp
        have hk4 : 0 ≤ ((k : Int) + 1) % 4 ∧ ((k : Int) + 1) % 4 ≤ 3 := by omega
        have hwf : ∀ s ∈ (J.spi k).2.2, wfS s := fun s hs => by have h1 := (good_fill hGk).within s hs; have h2 := hGk.1; have h3 := hGk.2.1; unfold Within at h1; exact wf_small (m := 500) (by decide) (by omega)
        go_wp2_with fail
        refine (implPut_any (J.spi k).1 (J.spi k).2.1 A3 _ c3 (J.spi k).2.2 (((k : Int) + 1) % 4) wr rfl (own_cap M.own) (sqs_of_own M.own) hwf).mono ?_
        rw [hsp]
        rintro e w4 ⟨A4, c4, rfl, o4, hb4⟩
        have M4 := M.keep hb4
        have M5 := M.put (X' := (J.spi (k + 1)).1) (Y' := (J.spi (k + 1)).2.1) o4 hb4 (Nat.le_refl _)
        have f0 := M4.fx 0
        have f1 := M4.fx 1
        have f2 := M4.fx 2
        obtain ⟨_, x0', x1', x2'⟩ := id M4.box
        clear x0 x1 x2
        go_wp2_with fail
        go_roundw
        case rel => exact ⟨k + 1, A4, c4, by omega, by go_num, M5⟩
        case measure => simp [intOf]; omega
      · obtain rfl : k + 1 = m := by omega
        have hlI : ¬ ((k + 1 : Nat) : Int) < ((k + 1 : Nat) : Int) := by omega
        obtain ⟨_, r0, r1, r2⟩ := id M.r
        have t0 := M.fr 0
        have t1 := M.fr 1
        have t2 := M.fr 2
        have hg0 := M.g0
        obtain ⟨e1, e2⟩ := M.done
        rw [show k + 1 - 1 = k from rfl]
        go_wp2_with fail
        refine bodyPost_ret (v := .tuple #[.agg #[.int .i64 (J.spi k).1, .int .i64 (J.spi k).2.1, .slice A3 (J.spi k).2.2.length c3], .bool true]) (by simp [results, Try.results38, go_sem, r0, r1, r2]) rfl ?_
        exact ⟨A3, c3, rfl, e2, e1⟩
  · rw [spiT_no h]
    have ⟨_, r0, r1, r2⟩ := br
    have t0 := hf 0
    have t1 := hf 1
    have t2 := hf 2
    have e1 := ((HB.setCell (p := ⟨w.heap.size, 0, none⟩) (by simp) (.int .i64 0)).setCell (p := ⟨w.heap.size, 1, none⟩) (by simp) (.int .i64 0)).setCell (p := ⟨w.heap.size, 2, none⟩) (by simp) (.slice none 0 0)
    by_cases h1 : d < 1
    · have d1 : decide (d < 1) = true := decide_eq_true h1
      go_enter Try.func38, Try.ntmps38
      go_wp2_with fail
      try rw [← hW1]
      refine bodyPost_ret (v := .tuple #[.agg #[.int .i64 0, .int .i64 0, .slice none 0 0], .bool false]) (by simp [results, Try.results38, go_sem, r0, r1, r2]) rfl ?_
      exact RetT.no (by first | exact HB | exact e1 | (rw [hW1] at e1; exact e1))
    · have d1 : decide (d < 1) = false := decide_eq_false h1
      have d2 : decide (12 < d) = true := decide_eq_true (by omega)
      go_enter Try.func38, Try.ntmps38
      go_wp2_with fail
      try rw [← hW1]
      refine bodyPost_ret (v := .tuple #[.agg #[.int .i64 0, .int .i64 0, .slice none 0 0], .bool false]) (by simp [results, Try.results38, go_sem, r0, r1, r2]) rfl ?_
      exact RetT.no (by first | exact HB | exact e1 | (rw [hW1] at e1; exact e1))

end Go.Proofs.Ytgajpghlbjaciaa
