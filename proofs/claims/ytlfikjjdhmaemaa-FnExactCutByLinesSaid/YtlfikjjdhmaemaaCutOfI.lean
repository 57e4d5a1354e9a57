/- Contract of the program's CutOf. -/
import Derived.Test.YtlfikjjdhmaemaaMake
set_option linter.all false
namespace Go.Proofs.Ytlfikjjdhmaemaa
open Go.RowKit

theorem src_sqs {w : World} {B : Nat} {A : Option Addr} {n c : Nat} {L : List Sq} (hl : L.length = n) (hL : SqsAt w B A L) (hA : A = none → n = 0 ∧ c = 0) : Src w A n c (flat L) := by
  cases A with
  | none =>
    obtain ⟨rfl, rfl⟩ := hA rfl
    have : L = [] := List.eq_nil_of_length_eq_zero hl
    subst this
    exact .inl ⟨rfl, rfl, rfl, rfl⟩
  | some ad =>
    refine .inr ⟨ad, rfl, fun j u hu => ?_⟩
    have hj : j < L.length * 3 := by have := (List.getElem?_eq_some_iff.1 hu).1; rwa [flat_len] at this
    obtain ⟨s, hs⟩ : ∃ s, L[j / 3]? = some s := ⟨_, List.getElem?_eq_getElem (by omega)⟩
    obtain ⟨b, off, e, _, c0, c1, c2⟩ := hL (j / 3) s hs
    have f := flat_get L (j / 3) s hs
    cases e
    rw [add_at]
    rcases (by omega : j % 3 = 0 ∨ j % 3 = 1 ∨ j % 3 = 2) with h | h | h
    · rw [show j = j / 3 * 3 by omega] at hu ⊢
      rw [f.1] at hu
      rw [← hu]; exact c0
    · rw [show j = j / 3 * 3 + 1 by omega] at hu ⊢
      rw [f.2.1] at hu
      rw [← hu]; exact c1
    · rw [show j = j / 3 * 3 + 2 by omega] at hu ⊢
      rw [f.2.2] at hu
      rw [← hu]; exact c2
theorem clone_any (A : Option Addr) (n c : Nat) (L : List Sq) (w : World) (hl : L.length = n) (hn : n ≤ 30) (hA : A = none → n = 0 ∧ c = 0) (hL : SqsAt w w.heap.size A L) :
    Calls Try.prog 103 #[.slice A n c] w fun e w' => ∃ A' c', e = .returned (.slice A' n c') ∧ w'.ownsRow w.heap.size 65 3 (.slice A' n c') n (flat L) ∧ Below w.heap.size w w' := by
  have q : ∀ (w : World) (a : Option Addr) (n c n' c' : Nat), (binOp .eql 27 (.slice a n c) (.slice none n' c')).run Try.prog w = .ok (.bool a.isNone) w := fun w a n c n' c' => Lib.run_eql_slice_nil w _ _ a n c n' c' Try.underlying27
  have hsrc := src_sqs hl hL hA
  cases A with
  | none =>
    obtain ⟨rfl, rfl⟩ := hA rfl
    have : L = [] := List.eq_nil_of_length_eq_zero hl
    subst this
    go_enter Try.func103, Try.ntmps103
    go_wp2
    go_ret
    exact ⟨none, 0, rfl, World.ownsRow_nil _ _ _ _, Below.refl _ _⟩
  | some ad =>
    obtain ⟨i0, hi, hz0, hz1, hz2⟩ := info_parts infoSq
    have hsrc' : ∀ o, Src (w.alloc o) (some ad) n c (flat L) := by
      intro o
      rcases hsrc with ⟨h, _⟩ | ⟨ad', h, hc⟩
      · cases h
      · refine .inr ⟨ad', h, fun j u hu => ?_⟩
        have h1 := hc j u hu
        rw [World.cell?_alloc_lt w o _ (World.block_lt_of_cell? _ _ h1)]
        exact h1
    have hfl : (flat L).length = n * 3 := by rw [flat_len, hl]
    have HFL := Lib.hid hfl
    clear hfl hsrc hL hl hA
    go_enter Try.func103, Try.ntmps103
    go_wp2_with (at_builtin; refine app_list rfl _ _ _ rfl w.heap.size 65 i0 (.agg #[.int .i64 0, .int .i64 0, .int .i64 0]) 3 24 Try.underlying27 hi hz0 hz1 hz2 rfl (by decide) (.slice (some ⟨w.heap.size, 0, none⟩) 0 0) 0 [] rfl (World.ownsRow_lit w #[] 0 (Nat.le_refl _) (Nat.zero_le _) rfl) (some ad) n c (flat L) rfl HFL.out (hsrc' _) (flat_one _) (app_room (Nat.zero_le _) hn).1 (app_room (Nat.zero_le _) hn).2 (by simp) ?_; intro v' w1 hown hgr _; have hb : Below w.heap.size w w1 := ((Below.refl _ w).alloc (Nat.le_refl _) _).grown hgr (by simp) (fun kk hkk => by simp [Value.ownBlock] at hkk; omega))
    go_ret
    simp only [Nat.zero_add, List.nil_append] at hown
    obtain ⟨A', c', rfl⟩ := own_val hown
    exact ⟨A', c', rfl, hown, hb⟩

set_option maxRecDepth 100000 in
set_option maxHeartbeats 1000000 in
theorem implCutOf_any (X Y : Int) (A : Option Addr) (n c : Nat) (L : List Sq) (w : World) (hl : L.length = n) (hn : n ≤ 1048576) (hA : A = none → n = 0 ∧ c = 0) (hL : SqsAt w w.heap.size A L) (hwf : ∀ s ∈ L, wfS s) :
    Calls Try.prog 60 #[.int .i64 X, .int .i64 Y, .slice A n c] w (RetMake w X Y L) := by
  subst hl
  obtain ⟨W1, hW1⟩ : ∃ W1, W1 = w.alloc (.cells #[.int .i64 0, .int .i64 0, .slice none 0 0] 29) := ⟨_, rfl⟩
  have q1 : Bx w.heap.size W1 0 0 none 0 0 := by rw [hW1]; exact Bx.start _ _ _ _ _ _ _
  have qf : ∀ o, W1.frozen? ⟨w.heap.size, o, none⟩ = false := by intro o; rw [hW1]; exact World.frozen?_alloc_at _ _ _ _ rfl
  have hB1 : Below w.heap.size w W1 := by rw [hW1]; exact (Below.refl _ _).alloc (Nat.le_refl _) _
  have hz1 := q1.lt
  by_cases h30 : L.length ≤ 30
  · have hd : decide ((30 : Int) < (L.length : Int)) = false := by rw [decide_eq_false_iff_not]; omega
    have hdN : decide (30 < L.length) = false := by rw [decide_eq_false_iff_not]; omega
    go_enter Try.func60, Try.ntmps60
    go_wp2_with fail
    rw [← hW1]
    refine (clone_any A L.length c L W1 rfl h30 hA ((hL.below hB1).mono hB1.size)).mono ?_
    rintro e w1 ⟨A1, c1, rfl, ho1, hb1⟩
    go_wp2_with fail
    refine (inOrder_any X Y A1 L.length c1 W1.heap.size L w1 rfl hn ho1).mono ?_
    rintro e w2 ⟨T, rfl, hp, hs, ho, hgr⟩
    have hb2 : Below W1.heap.size W1 w2 := hb1.trans (below_of_grown hgr hb1.size (fun kk hkk => (ho1.lt kk hkk).1))
    clear ho1 hb1 hgr
    have hT := Lib.hid (good_sort (X := X) (Y := Y) hp hs)
    have hTl := hp.length_eq
    have q2 := q1.next hb2
    have qf2 : ∀ o, w2.frozen? ⟨w.heap.size, o, none⟩ = false := fun o => (hb2.frozen (p := ⟨w.heap.size, o, none⟩) hz1).trans (qf o)
    have hz2 := q2.lt
    have hB2 := hB1.trans (hb2.mono hB1.size)
    have hcap := own_cap ho
    have hwT : ∀ s ∈ T, wfS s := fun s hs' => hwf s (hp.mem_iff.1 hs')
    clear q1 qf hb2 hL hp hs
    go_wp2_with fail
    obtain ⟨w3, hw3⟩ : ∃ w3, w3 = w2.alloc (.cells #[.int .i64 X, .int .i64 Y, .slice A1 L.length c1] 29) := ⟨_, rfl⟩
    have b3 : Bx w2.heap.size w3 X Y A1 L.length c1 := by rw [hw3]; exact Bx.start _ _ _ _ _ _ _
    have hb3 : Below w2.heap.size w2 w3 := by rw [hw3]; exact (Below.refl _ _).alloc (Nat.le_refl _) _
    have ho3 := own_keep ho hb3
    have q3 := q2.next hb3
    have qf3 : ∀ o, w3.frozen? ⟨w.heap.size, o, none⟩ = false := fun o => (hb3.frozen (p := ⟨w.heap.size, o, none⟩) hz2).trans (qf2 o)
    have hz3 := q3.lt
    have hB3 := hB2.trans (hb3.mono hB2.size)
    rw [← hw3]
    clear hw3 q2 qf2 hb3 ho
    by_cases hG : Good X Y T
    · have hG' := hT.out.1.1 hG
      obtain rfl := hT.out.2 hG
      refine (callB_yes (isCut_good X Y A1 L.length c1 (srt L) _ hTl hcap (sqs_of_own ho3) hwT) hG').mono ?_
      rintro e w4 ⟨rfl, hb4⟩
      have b4 := b3.next hb4
      have q4 := q3.next hb4
      have ho4 := own_keep ho3 hb4
      have t0 := (hb4.frozen (p := ⟨w.heap.size, 0, none⟩) hz3).trans (qf3 0)
      have t1 := (hb4.frozen (p := ⟨w.heap.size, 1, none⟩) hz3).trans (qf3 1)
      have t2 := (hb4.frozen (p := ⟨w.heap.size, 2, none⟩) hz3).trans (qf3 2)
      have hB4 := hB3.trans (hb4.mono hB3.size)
      obtain ⟨_, x0, x1, x2⟩ := id b4
      obtain ⟨_, r0, r1, r2⟩ := id q4
      clear b3 b4 q3 q4 qf3 ho3 hb4
      go_wp2_with fail
      have hB := ((hB4.setCell (p := ⟨w.heap.size, 0, none⟩) (Nat.le_refl _) (.int .i64 X)).setCell (p := ⟨w.heap.size, 1, none⟩) (Nat.le_refl _) (.int .i64 Y)).setCell (p := ⟨w.heap.size, 2, none⟩) (Nat.le_refl _) (.slice A1 L.length c1)
      have R := ownsRow_setCell_below (ownsRow_setCell_below (ownsRow_setCell_below ho4 (a := ⟨w.heap.size, 0, none⟩) hz1 (.int .i64 X)) (a := ⟨w.heap.size, 1, none⟩) hz1 (.int .i64 Y)) (a := ⟨w.heap.size, 2, none⟩) hz1 (.slice A1 L.length c1)
      refine bodyPost_ret (v := .tuple #[.agg #[.int .i64 X, .int .i64 Y, .slice A1 L.length c1], .bool true]) (by simp [results, Try.results60, go_sem, r0, r1, r2]) rfl ?_
      unfold RetMake
      rw [cutX_yes hG', cutX_yes hG', ifGood_yes hG', dc_true hG']
      exact RetCut.mk hTl.symm (own_base R (Nat.le_of_lt hz1)) hB
    · have hG' : ¬ Good X Y (srt L) := fun h => hG (hT.out.1.2 h)
      refine (callB_no (isCut_good X Y A1 L.length c1 T _ hTl hcap (sqs_of_own ho3) hwT) hG).mono ?_
      rintro e w4 ⟨rfl, hb4⟩
      have q4 := q3.next hb4
      have t0 := (hb4.frozen (p := ⟨w.heap.size, 0, none⟩) hz3).trans (qf3 0)
      have t1 := (hb4.frozen (p := ⟨w.heap.size, 1, none⟩) hz3).trans (qf3 1)
      have t2 := (hb4.frozen (p := ⟨w.heap.size, 2, none⟩) hz3).trans (qf3 2)
      have hB4 := hB3.trans (hb4.mono hB3.size)
      obtain ⟨_, r0, r1, r2⟩ := id q4
      clear b3 q3 q4 qf3 ho3 hb4
      go_wp2_with fail
      have hB := ((hB4.setCell (p := ⟨w.heap.size, 0, none⟩) (Nat.le_refl _) (.int .i64 0)).setCell (p := ⟨w.heap.size, 1, none⟩) (Nat.le_refl _) (.int .i64 0)).setCell (p := ⟨w.heap.size, 2, none⟩) (Nat.le_refl _) (.slice none 0 0)
      refine bodyPost_ret (v := .tuple #[.agg #[.int .i64 0, .int .i64 0, .slice none 0 0], .bool false]) (by simp [results, Try.results60, go_sem, r0, r1, r2]) rfl ?_
      exact RetMake.no hG' hB
  · have hG' : ¬ Good X Y (srt L) := fun h => h30 (by have := h.2.2.1.2; rwa [srt_len] at this)
    have hd : decide ((30 : Int) < (L.length : Int)) = true := by rw [decide_eq_true_iff]; omega
    have hdN : 30 < L.length := by omega
    obtain ⟨_, r0, r1, r2⟩ := id q1
    have t0 := qf 0
    have t1 := qf 1
    have t2 := qf 2
    go_enter Try.func60, Try.ntmps60
    go_wp2_with fail
    refine bodyPost_ret (v := .tuple #[.agg #[.int .i64 0, .int .i64 0, .slice none 0 0], .bool false]) (by simp [results, Try.results60, go_sem]) rfl ?_
    refine RetMake.no hG' ?_
    repeat (first | exact Below.refl _ _ | refine Below.setCell ?_ (by simp) _ | refine Below.alloc ?_ (by simp) _)
end Go.Proofs.Ytlfikjjdhmaemaa
