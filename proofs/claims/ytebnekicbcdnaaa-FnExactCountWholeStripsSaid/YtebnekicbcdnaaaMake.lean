/- Contract of the model's cuMake: a cut of squares in whichever order. -/
import Derived.Test.YtebnekicbcdnaaaTuM
import Derived.Test.YtebnekicbcdnaaaSrtT
set_option linter.all false
namespace Go.Proofs.Ytebnekicbcdnaaa
open Go.RowKit

theorem good_sort {X Y : Int} {L T : List Sq} (hp : T.Perm L) (hs : T.Pairwise (fun a b => leB a b = true)) : (Good X Y T ↔ Good X Y (srt L)) ∧ (Good X Y T → T = srt L) := by
  have h1 : Good X Y T → T = srt L := fun hG => srt_uniq hp hs (((good_fill hG).perm hp.symm).dist)
  refine ⟨⟨fun hG => h1 hG ▸ hG, fun hG => ?_⟩, h1⟩
  have := srt_uniq hp hs (((good_fill hG).perm (srt_perm L).symm).dist)
  rw [this]; exact hG
def RetMake (w : World) (X Y : Int) (L : List Sq) (e : Ending) (w' : World) : Prop :=
  RetCut w (cutX X Y (srt L) X) (cutX X Y (srt L) Y) (ifGood X Y (srt L) (srt L)) (dc (Good X Y (srt L))) e w'
theorem RetMake.no {w w' : World} {X Y : Int} {L : List Sq} (h : ¬ Good X Y (srt L)) (hb : Below w.heap.size w w') : RetMake w X Y L (.returned (.tuple #[.agg #[.int .i64 0, .int .i64 0, .slice none 0 0], .bool false])) w' := by
  unfold RetMake
  rw [cutX_no h, cutX_no h, ifGood_no h, dc_false h]
  exact RetCut.none_ hb

set_option maxRecDepth 100000 in
set_option maxHeartbeats 1000000 in
theorem cuMake_any (X Y : Int) (A : Option Addr) (n c : Nat) (L : List Sq) (w : World) (hl : L.length = n) (hn : n ≤ 1048576) (hL : SqsAt w w.heap.size A L) :
    Calls Try.prog 95 #[.int .i64 X, .int .i64 Y, .slice A n c] w (RetMake w X Y L) := by
  subst hl
  obtain ⟨W1, hW1⟩ : ∃ W1, W1 = w.alloc (.cells #[.int .i64 0, .int .i64 0, .slice none 0 0] 46) := ⟨_, rfl⟩
  have q1 : Bx w.heap.size W1 0 0 none 0 0 := by rw [hW1]; exact Bx.start _ _ _ _ _ _ _
  have qf : ∀ o, W1.frozen? ⟨w.heap.size, o, none⟩ = false := by intro o; rw [hW1]; exact World.frozen?_alloc_at _ _ _ _ rfl
  have hB1 : Below w.heap.size w W1 := by rw [hW1]; exact (Below.refl _ _).alloc (Nat.le_refl _) _
  have hz1 := q1.lt
  by_cases h30 : L.length ≤ 30
  · have hd : decide ((30 : Int) < (L.length : Int)) = false := by rw [decide_eq_false_iff_not]; omega
    have hdN : decide (30 < L.length) = false := by rw [decide_eq_false_iff_not]; omega
    go_enter Try.func95, Try.ntmps95
    go_wp2_with fail
    rw [← hW1]
    refine (cuSorted_any A L.length c L W1 rfl h30 ((hL.below hB1).mono hB1.size)).mono ?_
    rintro e w2 ⟨A2, c2, T, rfl, hp, hs, ho, hb2⟩
    have hT := Lib.hid (good_sort (X := X) (Y := Y) hp hs)
    have hTl := hp.length_eq
    have q2 := q1.next hb2
    have qf2 : ∀ o, w2.frozen? ⟨w.heap.size, o, none⟩ = false := fun o => (hb2.frozen (p := ⟨w.heap.size, o, none⟩) hz1).trans (qf o)
    have hz2 := q2.lt
    have hB2 := hB1.trans (hb2.mono hB1.size)
    have hcap := own_cap ho
    clear q1 qf hb2 hL hp hs
    go_wp2_with fail
    obtain ⟨w3, hw3⟩ : ∃ w3, w3 = w2.alloc (.cells #[.int .i64 X, .int .i64 Y, .slice A2 L.length c2] 46) := ⟨_, rfl⟩
    have b3 : Bx w2.heap.size w3 X Y A2 L.length c2 := by rw [hw3]; exact Bx.start _ _ _ _ _ _ _
    have hb3 : Below w2.heap.size w2 w3 := by rw [hw3]; exact (Below.refl _ _).alloc (Nat.le_refl _) _
    have ho3 := own_keep ho hb3
    have q3 := q2.next hb3
    have qf3 : ∀ o, w3.frozen? ⟨w.heap.size, o, none⟩ = false := fun o => (hb3.frozen (p := ⟨w.heap.size, o, none⟩) hz2).trans (qf2 o)
    have hz3 := q3.lt
    have hB3 := hB2.trans (hb3.mono hB2.size)
    rw [← hw3]
    clear hw3 q2 qf2 hb3 ho
    by_cases hG : Good X Y T
    · have hG' := hT.out.1.1 hG
      obtain rfl := hT.out.2 hG
      refine (callB_yes (cuGood_any X Y A2 L.length c2 (srt L) _ hTl hcap (sqs_of_own ho3)) hG').mono ?_
      rintro e w4 ⟨rfl, hb4⟩
      have b4 := b3.next hb4
      have q4 := q3.next hb4
      have ho4 := own_keep ho3 hb4
      have t0 := (hb4.frozen (p := ⟨w.heap.size, 0, none⟩) hz3).trans (qf3 0)
      have t1 := (hb4.frozen (p := ⟨w.heap.size, 1, none⟩) hz3).trans (qf3 1)
      have t2 := (hb4.frozen (p := ⟨w.heap.size, 2, none⟩) hz3).trans (qf3 2)
      have hB4 := hB3.trans (hb4.mono hB3.size)
      obtain ⟨_, x0, x1, x2⟩ := id b4
      obtain ⟨_, r0, r1, r2⟩ := id q4
      clear b3 b4 q3 q4 qf3 ho3 hb4
      go_wp2_with fail
      have hB := ((hB4.setCell (p := ⟨w.heap.size, 0, none⟩) (Nat.le_refl _) (.int .i64 X)).setCell (p := ⟨w.heap.size, 1, none⟩) (Nat.le_refl _) (.int .i64 Y)).setCell (p := ⟨w.heap.size, 2, none⟩) (Nat.le_refl _) (.slice A2 L.length c2)
      have R := ownsRow_setCell_below (ownsRow_setCell_below (ownsRow_setCell_below ho4 (a := ⟨w.heap.size, 0, none⟩) hz1 (.int .i64 X)) (a := ⟨w.heap.size, 1, none⟩) hz1 (.int .i64 Y)) (a := ⟨w.heap.size, 2, none⟩) hz1 (.slice A2 L.length c2)
      refine bodyPost_ret (v := .tuple #[.agg #[.int .i64 X, .int .i64 Y, .slice A2 L.length c2], .bool true]) (by simp [results, Try.results95, go_sem, r0, r1, r2]) rfl ?_
      unfold RetMake
      rw [cutX_yes hG', cutX_yes hG', ifGood_yes hG', dc_true hG']
      exact RetCut.mk hTl.symm (own_base R (Nat.le_of_lt hz1)) hB
    · have hG' : ¬ Good X Y (srt L) := fun h => hG (hT.out.1.2 h)
      refine (callB_no (cuGood_any X Y A2 L.length c2 T _ hTl hcap (sqs_of_own ho3)) hG).mono ?_
      rintro e w4 ⟨rfl, hb4⟩
      have q4 := q3.next hb4
      have t0 := (hb4.frozen (p := ⟨w.heap.size, 0, none⟩) hz3).trans (qf3 0)
      have t1 := (hb4.frozen (p := ⟨w.heap.size, 1, none⟩) hz3).trans (qf3 1)
      have t2 := (hb4.frozen (p := ⟨w.heap.size, 2, none⟩) hz3).trans (qf3 2)
      have hB4 := hB3.trans (hb4.mono hB3.size)
      obtain ⟨_, r0, r1, r2⟩ := id q4
      clear b3 q3 q4 qf3 ho3 hb4
      go_wp2_with fail
      have hB := ((hB4.setCell (p := ⟨w.heap.size, 0, none⟩) (Nat.le_refl _) (.int .i64 0)).setCell (p := ⟨w.heap.size, 1, none⟩) (Nat.le_refl _) (.int .i64 0)).setCell (p := ⟨w.heap.size, 2, none⟩) (Nat.le_refl _) (.slice none 0 0)
      refine bodyPost_ret (v := .tuple #[.agg #[.int .i64 0, .int .i64 0, .slice none 0 0], .bool false]) (by simp [results, Try.results95, go_sem, r0, r1, r2]) rfl ?_
      exact RetMake.no hG' hB
  · have hG' : ¬ Good X Y (srt L) := fun h => h30 (by have := h.2.2.1.2; rwa [srt_len] at this)
    have hd : decide ((30 : Int) < (L.length : Int)) = true := by rw [decide_eq_true_iff]; omega
    have hdN : 30 < L.length := by omega
    obtain ⟨_, r0, r1, r2⟩ := id q1
    have t0 := qf 0
    have t1 := qf 1
    have t2 := qf 2
    go_enter Try.func95, Try.ntmps95
    go_wp2_with fail
    refine bodyPost_ret (v := .tuple #[.agg #[.int .i64 0, .int .i64 0, .slice none 0 0], .bool false]) (by simp [results, Try.results95, go_sem]) rfl ?_
    refine RetMake.no hG' ?_
    repeat (first | exact Below.refl _ _ | refine Below.setCell ?_ (by simp) _ | refine Below.alloc ?_ (by simp) _)
end Go.Proofs.Ytebnekicbcdnaaa
