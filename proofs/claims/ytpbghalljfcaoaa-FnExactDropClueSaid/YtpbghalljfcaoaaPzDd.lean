/- A clue taken out: both sides. -/
import Derived.Test.YtpbghalljfcaoaaPzDc
set_option linter.all false
namespace Go.Proofs.Ytpbghalljfcaoaa
open Go.RowKit

set_option maxRecDepth 100000 in
set_option maxHeartbeats 8000000 in
theorem pzWithout_any (ab : Addr) (n c : Nat) (L : List Sq) (k : Nat) (w : World) (hl : L.length = n) (hc : n ≤ c) (hn9 : n ≤ 1000) (hc9 : c ≤ 1048576) (hk : k < n) (hL : SqsAt w w.heap.size (some ab) L) :
    Calls Try.prog 48 #[.slice (some ab) n c, .int .i64 k] w fun e w' => ∃ A' c', e = .returned (.slice A' (n - 1) c') ∧ w'.ownsRow w.heap.size 25 3 (.slice A' (n - 1) c') (n - 1) (flat (L.eraseIdx k)) ∧ Below w.heap.size w w' := by
  have hLW : ∀ V, Below w.heap.size w V → SqsAt V V.heap.size (some ab) L := fun V hb => (hL.below hb).mono hb.size
  have hT1 : (L.take k).length = k := by rw [List.length_take]; omega
  have hT2 : (L.drop (k + 1)).length = n - (k + 1) := by rw [List.length_drop, hl]
  have HT1 := Lib.hid hT1
  have HT2 := Lib.hid hT2
  have HLW := Lib.hid hLW
  obtain ⟨i0, hi, hz0, hz1, hz2⟩ := info_parts infoCl
  have q0 : (0 : Int) ≤ (k : Int) := by omega
  have q1 : (k : Int) ≤ (c : Int) := by omega
  have q2 : (k : Int) + 1 ≤ (n : Int) := by omega
  have q3 : (n : Int) ≤ (c : Int) := by omega
  have q4 : (0 : Int) ≤ (k : Int) + 1 := by omega
  have q5 : IntKind.i64.wrap ((k : Int) + 1) = (k : Int) + 1 := IntWalk.i64_in _ (by omega)
  have hc1 : 0 + k ≤ maxLen := by unfold maxLen; omega
  have hc2 : (0 + k) * 24 ≤ 140737488355328 := by omega
  have hE : flat (L.take k) ++ flat (L.drop (k + 1)) = flat (L.eraseIdx k) := by rw [← flat_app, List.eraseIdx_eq_take_drop_succ]
  have HE := Lib.hid hE
  clear hT1 hT2 hLW hL hl hE
  by_cases hcj : c = k + 1
  · subst hcj
    obtain rfl : n = k + 1 := by omega
    have q6 : (k : Int) ≤ (k : Int) + 1 := by omega
    have hc3 : k + 0 ≤ maxLen := by unfold maxLen; omega
    have hc4 : (k + 0) * 24 ≤ 140737488355328 := by omega
    go_enter Try.func48, Try.ntmps48
    go_wp2_with fail
    refine wp_region_top 11 (fun _ => True) (by kernel_rfl) trivial (fun hHeld => ?_)
    refine wpTop.take 1 (v := ?_) rfl (by kernel_rfl) (by kernel_rfl) (by kernel_rfl) (by kernel_rfl) (fun _ _ _ h => h) (Or.inl ⟨by rfl, ?_⟩) (by assumption) ?_
    rotate_left
    · intro w hSw; (try dsimp only at hSw); go_simp; try (with_reducible rfl)
    try simp only [Act.put, List.getElem_toArray, List.getElem_cons_zero, List.getElem_cons_succ, List.setIfInBounds_toArray, List.set_cons_zero, List.set_cons_succ]
    refine wpTop.take 2 (v := ?_) rfl (by kernel_rfl) (by kernel_rfl) (by kernel_rfl) (by kernel_rfl) (fun _ _ _ h => h) (Or.inl ⟨by rfl, ?_⟩) (by assumption) ?_
    rotate_left
    · intro w hSw; (try dsimp only at hSw); go_simp; try (with_reducible rfl)
    try simp only [Act.put, List.getElem_toArray, List.getElem_cons_zero, List.getElem_cons_succ, List.setIfInBounds_toArray, List.set_cons_zero, List.set_cons_succ]
    refine wpTop.take 3 (v := ?_) rfl (by kernel_rfl) (by kernel_rfl) (by kernel_rfl) (by kernel_rfl) (fun _ _ _ h => h) (Or.inl ⟨by rfl, ?_⟩) (by assumption) ?_
    rotate_left
    · intro w hSw; (try dsimp only at hSw); go_simp; try (with_reducible rfl)
    try simp only [Act.put, List.getElem_toArray, List.getElem_cons_zero, List.getElem_cons_succ, List.setIfInBounds_toArray, List.set_cons_zero, List.set_cons_succ]
    refine wpTop.take 5 (v := ?_) rfl (by kernel_rfl) (by kernel_rfl) (by kernel_rfl) (by kernel_rfl) (fun _ _ _ h => h) (Or.inl ⟨by rfl, ?_⟩) (by assumption) ?_
    rotate_left
    · intro w hSw; (try dsimp only at hSw); go_simp; try (with_reducible rfl)
    try simp only [Act.put, List.getElem_toArray, List.getElem_cons_zero, List.getElem_cons_succ, List.setIfInBounds_toArray, List.set_cons_zero, List.set_cons_succ]
    refine wpTop.take 6 (v := ?_) rfl (by kernel_rfl) (by kernel_rfl) (by kernel_rfl) (by kernel_rfl) (fun _ _ _ h => h) (Or.inl ⟨by rfl, ?_⟩) (by assumption) ?_
    rotate_left
    · intro w hSw; (try dsimp only at hSw); go_simp; try (with_reducible rfl)
    try simp only [Act.put, List.getElem_toArray, List.getElem_cons_zero, List.getElem_cons_succ, List.setIfInBounds_toArray, List.set_cons_zero, List.set_cons_succ]
    refine wpTop.take 7 (v := ?_) rfl (by kernel_rfl) (by kernel_rfl) (by kernel_rfl) (by kernel_rfl) (fun _ _ _ h => h) (Or.inl ⟨by rfl, ?_⟩) (by assumption) ?_
    rotate_left
    · intro w hSw; (try dsimp only at hSw); go_simp; try (with_reducible rfl)
    try simp only [Act.put, List.getElem_toArray, List.getElem_cons_zero, List.getElem_cons_succ, List.setIfInBounds_toArray, List.set_cons_zero, List.set_cons_succ]
    refine wpTop.take 8 (v := ?_) rfl (by kernel_rfl) (by kernel_rfl) (by kernel_rfl) (by kernel_rfl) (fun _ _ _ h => h) (Or.inl ⟨by rfl, ?_⟩) (by assumption) ?_
    rotate_left
    · intro w hSw; (try dsimp only at hSw); go_simp; try (with_reducible rfl)
    try simp only [Act.put, List.getElem_toArray, List.getElem_cons_zero, List.getElem_cons_succ, List.setIfInBounds_toArray, List.set_cons_zero, List.set_cons_succ]
    have hd : Below w.heap.size w w.drew := (Below.refl _ _).drew
    refine wpTop.one 0 rfl (by kernel_rfl) (fun K hK => ?_)
    go_simp
    refine hK.out _ _ (fun _ => trivial) (fun hH => ?_)
    clear hK K
    have hHeld := hH (by decide)
    clear hH
    try simp only [Act.put, List.getElem_toArray, List.getElem_cons_zero, List.getElem_cons_succ, List.setIfInBounds_toArray, List.set_cons_zero, List.set_cons_succ]
    have hab : ∀ o, Below w.heap.size w (w.drew.alloc o) := fun o => hd.alloc hd.size o
    refine wpTop.one 4 rfl (by kernel_rfl) (fun K hK => ?_)
    refine app_step rfl _ _ _ rfl w.heap.size 25 i0 (.agg #[.int .i64 0, .int .i64 0, .int .i64 0]) 3 24 Try.underlying33 hi hz0 hz1 hz2 rfl (by decide) (.slice (some ⟨_, 0, none⟩) 0 0) 0 [] rfl (lit_at3 w w.drew _ (by simp) (by simp)) (some ab) k (k + 1) (flat (L.take k)) rfl (by rw [flat_len, HT1.out]) (.inr ⟨_, rfl, cells_sqs ((HLW.out _ (hab _)).take k) _ rfl⟩) (flat_one _) hc1 hc2 (hab _).size ?_
    intro v6 w6 hown6 hgr6 _
    rw [Nat.zero_add, List.nil_append] at hown6
    obtain ⟨A6, c6, rfl⟩ := own_val hown6
    have hb6 : Below w.heap.size w w6 := (hab _).grown hgr6 (hab _).size (fun k hk => by simp [Value.ownBlock] at hk; omega)
    refine hK.out _ _ (fun _ => trivial) (fun hH => ?_)
    clear hK K
    have hHeld := hH (by decide)
    clear hH
    try simp only [Act.put, List.getElem_toArray, List.getElem_cons_zero, List.getElem_cons_succ, List.setIfInBounds_toArray, List.set_cons_zero, List.set_cons_succ]
    refine wpTop.one 9 rfl (by kernel_rfl) (fun K hK => ?_)
    refine app_step rfl _ _ _ rfl w.heap.size 25 i0 (.agg #[.int .i64 0, .int .i64 0, .int .i64 0]) 3 24 Try.underlying33 hi hz0 hz1 hz2 rfl (by decide) (.slice A6 k c6) k (flat (L.take k)) rfl hown6 (some ab) 0 0 (flat (L.drop (k + 1))) rfl (by rw [flat_len, HT2.out]; omega) (.inr ⟨_, rfl, cells_sqs (A := some ab) (B := 0) (sqs_nil (List.drop_eq_nil_of_le (by have := HT2.out; rw [List.length_drop] at this; omega))) _ rfl⟩) (flat_one _) hc3 hc4 hb6.size ?_
    intro v7 w7 hown7 hgr7 _
    rw [HE.out, show k + 0 = k + 1 - 1 by omega] at hown7
    obtain ⟨A7, c7, rfl⟩ := own_val hown7
    have hb7 : Below w.heap.size w w7 := hb6.grown hgr7 hb6.size (fun k hk => (hown6.lt k hk).1)
    refine hK.out _ _ (fun _ => trivial) (fun hH => ?_)
    clear hK K
    have hHeld := hH (by decide)
    clear hH
    try simp only [Act.put, List.getElem_toArray, List.getElem_cons_zero, List.getElem_cons_succ, List.setIfInBounds_toArray, List.set_cons_zero, List.set_cons_succ]
    refine wpTop.one 10 rfl (by kernel_rfl) (fun K hK => ?_)
    go_simp
    refine hK.out _ _ (fun _ => trivial) (fun hH => ?_)
    clear hK K
    have hHeld := hH (by decide)
    clear hH
    try simp only [Act.put, List.getElem_toArray, List.getElem_cons_zero, List.getElem_cons_succ, List.setIfInBounds_toArray, List.set_cons_zero, List.set_cons_succ]
    refine wpTop.all (by kernel_rfl) ?_ _
    go_wp2_with fail
    go_ret
    exact ⟨A7, c7, rfl, hown7, hb7⟩
  · have hc3 : k + (n - (k + 1)) ≤ maxLen := by unfold maxLen; omega
    have hc4 : (k + (n - (k + 1))) * 24 ≤ 140737488355328 := by omega
    go_enter Try.func48, Try.ntmps48
    go_wp2_with fail
    refine wp_region_top 11 (fun _ => True) (by kernel_rfl) trivial (fun hHeld => ?_)
    refine wpTop.take 1 (v := ?_) rfl (by kernel_rfl) (by kernel_rfl) (by kernel_rfl) (by kernel_rfl) (fun _ _ _ h => h) (Or.inl ⟨by rfl, ?_⟩) (by assumption) ?_
    rotate_left
    · intro w hSw; (try dsimp only at hSw); go_simp; try (with_reducible rfl)
    try simp only [Act.put, List.getElem_toArray, List.getElem_cons_zero, List.getElem_cons_succ, List.setIfInBounds_toArray, List.set_cons_zero, List.set_cons_succ]
    refine wpTop.take 2 (v := ?_) rfl (by kernel_rfl) (by kernel_rfl) (by kernel_rfl) (by kernel_rfl) (fun _ _ _ h => h) (Or.inl ⟨by rfl, ?_⟩) (by assumption) ?_
    rotate_left
    · intro w hSw; (try dsimp only at hSw); go_simp; try (with_reducible rfl)
    try simp only [Act.put, List.getElem_toArray, List.getElem_cons_zero, List.getElem_cons_succ, List.setIfInBounds_toArray, List.set_cons_zero, List.set_cons_succ]
    refine wpTop.take 3 (v := ?_) rfl (by kernel_rfl) (by kernel_rfl) (by kernel_rfl) (by kernel_rfl) (fun _ _ _ h => h) (Or.inl ⟨by rfl, ?_⟩) (by assumption) ?_
    rotate_left
    · intro w hSw; (try dsimp only at hSw); go_simp; try (with_reducible rfl)
    try simp only [Act.put, List.getElem_toArray, List.getElem_cons_zero, List.getElem_cons_succ, List.setIfInBounds_toArray, List.set_cons_zero, List.set_cons_succ]
    refine wpTop.take 5 (v := ?_) rfl (by kernel_rfl) (by kernel_rfl) (by kernel_rfl) (by kernel_rfl) (fun _ _ _ h => h) (Or.inl ⟨by rfl, ?_⟩) (by assumption) ?_
    rotate_left
    · intro w hSw; (try dsimp only at hSw); go_simp; try (with_reducible rfl)
    try simp only [Act.put, List.getElem_toArray, List.getElem_cons_zero, List.getElem_cons_succ, List.setIfInBounds_toArray, List.set_cons_zero, List.set_cons_succ]
    refine wpTop.take 6 (v := ?_) rfl (by kernel_rfl) (by kernel_rfl) (by kernel_rfl) (by kernel_rfl) (fun _ _ _ h => h) (Or.inl ⟨by rfl, ?_⟩) (by assumption) ?_
    rotate_left
    · intro w hSw; (try dsimp only at hSw); go_simp; try (with_reducible rfl)
    try simp only [Act.put, List.getElem_toArray, List.getElem_cons_zero, List.getElem_cons_succ, List.setIfInBounds_toArray, List.set_cons_zero, List.set_cons_succ]
    refine wpTop.take 7 (v := ?_) rfl (by kernel_rfl) (by kernel_rfl) (by kernel_rfl) (by kernel_rfl) (fun _ _ _ h => h) (Or.inl ⟨by rfl, ?_⟩) (by assumption) ?_
    rotate_left
    · intro w hSw; (try dsimp only at hSw); go_simp; try (with_reducible rfl)
    try simp only [Act.put, List.getElem_toArray, List.getElem_cons_zero, List.getElem_cons_succ, List.setIfInBounds_toArray, List.set_cons_zero, List.set_cons_succ]
    refine wpTop.take 8 (v := ?_) rfl (by kernel_rfl) (by kernel_rfl) (by kernel_rfl) (by kernel_rfl) (fun _ _ _ h => h) (Or.inl ⟨by rfl, ?_⟩) (by assumption) ?_
    rotate_left
    · intro w hSw; (try dsimp only at hSw); go_simp; try (with_reducible rfl)
    try simp only [Act.put, List.getElem_toArray, List.getElem_cons_zero, List.getElem_cons_succ, List.setIfInBounds_toArray, List.set_cons_zero, List.set_cons_succ]
    have hd : Below w.heap.size w w.drew := (Below.refl _ _).drew
    refine wpTop.one 0 rfl (by kernel_rfl) (fun K hK => ?_)
    go_simp
    refine hK.out _ _ (fun _ => trivial) (fun hH => ?_)
    clear hK K
    have hHeld := hH (by decide)
    clear hH
    try simp only [Act.put, List.getElem_toArray, List.getElem_cons_zero, List.getElem_cons_succ, List.setIfInBounds_toArray, List.set_cons_zero, List.set_cons_succ]
    have hab : ∀ o, Below w.heap.size w (w.drew.alloc o) := fun o => hd.alloc hd.size o
    refine wpTop.one 4 rfl (by kernel_rfl) (fun K hK => ?_)
    refine app_step rfl _ _ _ rfl w.heap.size 25 i0 (.agg #[.int .i64 0, .int .i64 0, .int .i64 0]) 3 24 Try.underlying33 hi hz0 hz1 hz2 rfl (by decide) (.slice (some ⟨_, 0, none⟩) 0 0) 0 [] rfl (lit_at3 w w.drew _ (by simp) (by simp)) (some ab) k (c) (flat (L.take k)) rfl (by rw [flat_len, HT1.out]) (.inr ⟨_, rfl, cells_sqs ((HLW.out _ (hab _)).take k) _ rfl⟩) (flat_one _) hc1 hc2 (hab _).size ?_
    intro v6 w6 hown6 hgr6 _
    rw [Nat.zero_add, List.nil_append] at hown6
    obtain ⟨A6, c6, rfl⟩ := own_val hown6
    have hb6 : Below w.heap.size w w6 := (hab _).grown hgr6 (hab _).size (fun k hk => by simp [Value.ownBlock] at hk; omega)
    refine hK.out _ _ (fun _ => trivial) (fun hH => ?_)
    clear hK K
    have hHeld := hH (by decide)
    clear hH
    try simp only [Act.put, List.getElem_toArray, List.getElem_cons_zero, List.getElem_cons_succ, List.setIfInBounds_toArray, List.set_cons_zero, List.set_cons_succ]
    refine wpTop.one 9 rfl (by kernel_rfl) (fun K hK => ?_)
    refine app_step rfl _ _ _ rfl w.heap.size 25 i0 (.agg #[.int .i64 0, .int .i64 0, .int .i64 0]) 3 24 Try.underlying33 hi hz0 hz1 hz2 rfl (by decide) (.slice A6 k c6) k (flat (L.take k)) rfl hown6 (some (ab.add ((k + 1) * 3))) (n - (k + 1)) (c - (k + 1)) (flat (L.drop (k + 1))) rfl (by rw [flat_len, HT2.out]) (.inr ⟨_, rfl, cells_sqs (sqs_drop (HLW.out _ hb6) (k + 1)) _ rfl⟩) (flat_one _) hc3 hc4 hb6.size ?_
    intro v7 w7 hown7 hgr7 _
    rw [HE.out, show k + (n - (k + 1)) = n - 1 by omega] at hown7
    obtain ⟨A7, c7, rfl⟩ := own_val hown7
    have hb7 : Below w.heap.size w w7 := hb6.grown hgr7 hb6.size (fun k hk => (hown6.lt k hk).1)
    refine hK.out _ _ (fun _ => trivial) (fun hH => ?_)
    clear hK K
    have hHeld := hH (by decide)
    clear hH
    try simp only [Act.put, List.getElem_toArray, List.getElem_cons_zero, List.getElem_cons_succ, List.setIfInBounds_toArray, List.set_cons_zero, List.set_cons_succ]
    refine wpTop.one 10 rfl (by kernel_rfl) (fun K hK => ?_)
    go_simp
    refine hK.out _ _ (fun _ => trivial) (fun hH => ?_)
    clear hK K
    have hHeld := hH (by decide)
    clear hH
    try simp only [Act.put, List.getElem_toArray, List.getElem_cons_zero, List.getElem_cons_succ, List.setIfInBounds_toArray, List.set_cons_zero, List.set_cons_succ]
    refine wpTop.all (by kernel_rfl) ?_ _
    go_wp2_with fail
    go_ret
    exact ⟨A7, c7, rfl, hown7, hb7⟩
theorem dc_none {w w2 : World} (hbf : Below w.heap.size w w2) : RetPuzzle w 0 0 [] false (.returned (.tuple #[.agg #[.int .i64 0, .int .i64 0, .slice none 0 0], .bool false])) (((w2.setCell ⟨w.heap.size + 1, 0, none⟩ (.int .i64 0)).setCell ⟨w.heap.size + 1, 1, none⟩ (.int .i64 0)).setCell ⟨w.heap.size + 1, 2, none⟩ (.slice none 0 0)) :=
  RetPuzzle.none_ (((hbf.setCell (p := ⟨w.heap.size + 1, 0, none⟩) (by simp) _).setCell (p := ⟨w.heap.size + 1, 1, none⟩) (by simp) _).setCell (p := ⟨w.heap.size + 1, 2, none⟩) (by simp) _)
theorem dc_some {w w2 : World} {W H : Int} {n c7 b : Nat} {A7 : Option Addr} {R : List Sq} (hl : n = R.length) (hne : w.heap.size + 1 < b) (o9 : w2.ownsRow b 25 3 (.slice A7 n c7) n (flat R)) (hbf : Below w.heap.size w w2) :
    RetPuzzle w W H R true (.returned (.tuple #[.agg #[.int .i64 W, .int .i64 H, .slice A7 n c7], .bool true])) (((w2.setCell ⟨w.heap.size + 1, 0, none⟩ (.int .i64 W)).setCell ⟨w.heap.size + 1, 1, none⟩ (.int .i64 H)).setCell ⟨w.heap.size + 1, 2, none⟩ (.slice A7 n c7)) := by
  have R1 := own_base (ownsRow_setCell_below (ownsRow_setCell_below (ownsRow_setCell_below o9 (a := ⟨w.heap.size + 1, 0, none⟩) hne (.int .i64 W)) (a := ⟨w.heap.size + 1, 1, none⟩) hne (.int .i64 H)) (a := ⟨w.heap.size + 1, 2, none⟩) hne (.slice A7 n c7)) (show w.heap.size ≤ b by omega)
  exact RetPuzzle.mk hl R1 (((hbf.setCell (p := ⟨w.heap.size + 1, 0, none⟩) (by simp) _).setCell (p := ⟨w.heap.size + 1, 1, none⟩) (by simp) _).setCell (p := ⟨w.heap.size + 1, 2, none⟩) (by simp) _)
set_option maxRecDepth 100000 in
set_option maxHeartbeats 8000000 in
theorem implDc_any (W H : Int) (A : Option Addr) (n c : Nat) (L : List Sq) (k : Int) (w : World) (hl : L.length = n) (hc : n ≤ c) (hn9 : n ≤ 1048576) (hc9 : c ≤ 1048576) (hL : SqsAt w w.heap.size A L) :
    Calls Try.prog 23 #[.agg #[.int .i64 W, .int .i64 H, .slice A n c], .int .i64 k] w (RetPuzzle w (dcV W H L k).1 (dcV W H L k).2.1 (dcV W H L k).2.2.1 (dcV W H L k).2.2.2) := by
  obtain ⟨W1, hW1⟩ : ∃ W1, W1 = (w.alloc (.cells #[.int .i64 W, .int .i64 H, .slice A n c] 35)).alloc (.cells #[.int .i64 0, .int .i64 0, .slice none 0 0] 35) := ⟨_, rfl⟩
  have Z1 : DZ w W1 W H A n c := by rw [hW1]; exact DZ.start w W H A n c
  have hL1 := (hL.below Z1.bel).mono Z1.bel.size
  have hI := implIsPuz_any W H A n c L _ hl (by omega) hL1
  by_cases hP : GoodP W H L
  · have C0 := Lib.hid (callB_yes hI hP)
    by_cases hk0 : k < 0
    · rw [dcV_no (fun h => by have := h.2.1; omega)]
      clear hI hP hL hL1 hl
      go_enter Try.func23, Try.ntmps23
      go_wp2_with fail
      rw [← hW1]
      clear hW1
      (with_reducible refine C0.out.mono ?_)
      rintro e w2 ⟨rfl, hb⟩
      have Z2 := Z1.keep hb
      clear hb Z1 C0
      obtain ⟨pl, p0, p1, p2⟩ := id Z2.P
      obtain ⟨rl, r0, r1, r2⟩ := id Z2.R
      have f0 := Z2.fz 0
      have f1 := Z2.fz 1
      have f2 := Z2.fz 2
      have hbf := Z2.bel
      go_wp2_with fail
      refine bodyPost_ret (v := .tuple #[.agg #[.int .i64 0, .int .i64 0, .slice none 0 0], .bool false]) (by simp [results, Try.results23, go_sem, r0, r1, r2]) rfl ?_
      exact dc_none hbf
    · by_cases hk1 : (n : Int) ≤ k
      · rw [dcV_no (fun h => by have := h.2.2; omega)]
        clear hI hP hL hL1 hl
        go_enter Try.func23, Try.ntmps23
        go_wp2_with fail
        rw [← hW1]
        clear hW1
        (with_reducible refine C0.out.mono ?_)
        rintro e w2 ⟨rfl, hb⟩
        have Z2 := Z1.keep hb
        clear hb Z1 C0
        obtain ⟨pl, p0, p1, p2⟩ := id Z2.P
        obtain ⟨rl, r0, r1, r2⟩ := id Z2.R
        have f0 := Z2.fz 0
        have f1 := Z2.fz 1
        have f2 := Z2.fz 2
        have hbf := Z2.bel
        go_wp2_with fail
        refine bodyPost_ret (v := .tuple #[.agg #[.int .i64 0, .int .i64 0, .slice none 0 0], .bool false]) (by simp [results, Try.results23, go_sem, r0, r1, r2]) rfl ?_
        exact dc_none hbf
      · obtain ⟨j, rfl⟩ := Int.eq_ofNat_of_zero_le (show 0 ≤ k by omega)
        have hj : j < n := by omega
        rw [dcV_yes ⟨hP, by omega, by omega⟩, Int.toNat_natCast]
        have hn6 : n ≤ 6 := by have := hP.2.1; omega
        obtain ⟨b, off, rfl, -⟩ := hL j _ (List.getElem?_eq_getElem (by omega))
        have CW := fun (V : World) (hb : Below w.heap.size w V) => without_any W H ⟨b, off, none⟩ n c L j V hl hc (by omega) hc9 hj ((hL.below hb).mono hb.size)
        have HW := Lib.hid CW
        have hE : n - 1 = (L.eraseIdx j).length := by rw [List.length_eraseIdx, if_pos (by omega)]; omega
        have HE := Lib.hid hE
        clear hI hP hL hL1 hl CW hE
        go_enter Try.func23, Try.ntmps23
        go_wp2_with fail
        rw [← hW1]
        clear hW1
        (with_reducible refine C0.out.mono ?_)
        rintro e w2 ⟨rfl, hb⟩
        have Z2 := Z1.keep hb
        clear hb Z1 C0
        obtain ⟨pl, p0, p1, p2⟩ := id Z2.P
        obtain ⟨rl, r0, r1, r2⟩ := id Z2.R
        have f0 := Z2.fz 0
        have f1 := Z2.fz 1
        have f2 := Z2.fz 2
        have hbf := Z2.bel
        go_wp2_with fail
        (with_reducible refine (HW.out w2 hbf).mono ?_)
        rintro e w3 ⟨A7, c7, rfl, o7, hb⟩
        have hs2 := rl
        have Z3 := Z2.keep hb
        clear rl r0 r1 r2 f0 f1 f2 hbf pl p0 p1 p2 Z2 hb
        obtain ⟨rl, r0, r1, r2⟩ := id Z3.R
        have f0 := Z3.fz 0
        have f1 := Z3.fz 1
        have f2 := Z3.fz 2
        have hbf := Z3.bel
        go_wp2_with fail
        refine bodyPost_ret (v := .tuple #[.agg #[.int .i64 W, .int .i64 H, .slice A7 (n - 1) c7], .bool true]) (by simp [results, Try.results23, go_sem, r0, r1, r2]) rfl ?_
        exact dc_some HE.out hs2 o7 hbf
  · have C0 := Lib.hid (callB_no hI hP)
    rw [dcV_no (fun h => hP h.1)]
    clear hI hP hL hL1 hl
    go_enter Try.func23, Try.ntmps23
    go_wp2_with fail
    rw [← hW1]
    clear hW1
    (with_reducible refine C0.out.mono ?_)
    rintro e w2 ⟨rfl, hb⟩
    have Z2 := Z1.keep hb
    clear hb Z1 C0
    obtain ⟨pl, p0, p1, p2⟩ := id Z2.P
    obtain ⟨rl, r0, r1, r2⟩ := id Z2.R
    have f0 := Z2.fz 0
    have f1 := Z2.fz 1
    have f2 := Z2.fz 2
    have hbf := Z2.bel
    go_wp2_with fail
    refine bodyPost_ret (v := .tuple #[.agg #[.int .i64 0, .int .i64 0, .slice none 0 0], .bool false]) (by simp [results, Try.results23, go_sem, r0, r1, r2]) rfl ?_
    exact dc_none hbf
set_option maxRecDepth 100000 in
set_option maxHeartbeats 8000000 in
theorem specDc_any (W H : Int) (A : Option Addr) (n c : Nat) (L : List Sq) (k : Int) (w : World) (hl : L.length = n) (hc : n ≤ c) (hn9 : n ≤ 1048576) (hc9 : c ≤ 1048576) (hL : SqsAt w w.heap.size A L) :
    Calls Try.prog 22 #[.agg #[.int .i64 W, .int .i64 H, .slice A n c], .int .i64 k] w (RetPuzzle w (dcV W H L k).1 (dcV W H L k).2.1 (dcV W H L k).2.2.1 (dcV W H L k).2.2.2) := by
  obtain ⟨W1, hW1⟩ : ∃ W1, W1 = (w.alloc (.cells #[.int .i64 W, .int .i64 H, .slice A n c] 35)).alloc (.cells #[.int .i64 0, .int .i64 0, .slice none 0 0] 35) := ⟨_, rfl⟩
  have Z1 : DZ w W1 W H A n c := by rw [hW1]; exact DZ.start w W H A n c
  have hL1 := (hL.below Z1.bel).mono Z1.bel.size
  have hI := pzGood_any W H A n c L _ hl (by omega) hL1
  by_cases hP : GoodP W H L
  · have C0 := Lib.hid (callB_yes hI hP)
    have e1 : IntKind.i64.wrap ((n : Int) - 1) = (n : Int) - 1 := IntWalk.i64_in _ (by omega)
    by_cases hk : 0 ≤ k ∧ k ≤ (n : Int) - 1
    · obtain ⟨j, rfl⟩ := Int.eq_ofNat_of_zero_le hk.1
      have hj : j < n := by omega
      rw [dcV_yes ⟨hP, by omega, by omega⟩, Int.toNat_natCast]
      have hn6 : n ≤ 6 := by have := hP.2.1; omega
      obtain ⟨b, off, rfl, -⟩ := hL j _ (List.getElem?_eq_getElem (by omega))
      have CW := fun (V : World) (hb : Below w.heap.size w V) => pzWithout_any ⟨b, off, none⟩ n c L j V hl hc (by omega) hc9 hj ((hL.below hb).mono hb.size)
      have HW := Lib.hid CW
      have hE : n - 1 = (L.eraseIdx j).length := by rw [List.length_eraseIdx, if_pos (by omega)]; omega
      have HE := Lib.hid hE
      have d1 := Lib.hid (inB_iff.2 hk)
      clear hI hP hL hL1 hl CW hE
      go_enter Try.func22, Try.ntmps22
      go_wp2_with fail
      rw [← hW1]
      clear hW1
      (with_reducible refine C0.out.mono ?_)
      rintro e w2 ⟨rfl, hb⟩
      have Z2 := Z1.keep hb
      clear hb Z1 C0
      obtain ⟨pl, p0, p1, p2⟩ := id Z2.P
      obtain ⟨rl, r0, r1, r2⟩ := id Z2.R
      have f0 := Z2.fz 0
      have f1 := Z2.fz 1
      have f2 := Z2.fz 2
      have hbf := Z2.bel
      go_wp2_with fail
      refine (l1In_any _ _ _ _).mono ?_
      rw [d1.out]
      rintro e w3 ⟨rfl, rfl⟩
      have HS : ∀ w', Below w2.heap.size w2 w' → w'.cell? ⟨w.heap.size, 0, none⟩ = some (.int .i64 W) ∧ w'.cell? ⟨w.heap.size, 1, none⟩ = some (.int .i64 H) ∧ w'.cell? ⟨w.heap.size, 2, none⟩ = some (.slice (some ⟨b, off, none⟩) n c) := fun w' hb => ⟨(hb.cell (p := ⟨w.heap.size, 0, none⟩) pl).trans p0, (hb.cell (p := ⟨w.heap.size, 1, none⟩) pl).trans p1, (hb.cell (p := ⟨w.heap.size, 2, none⟩) pl).trans p2⟩
      go_wp2_with fail
      refine wp_region_top 6 (fun w' => w'.cell? ⟨w.heap.size, 0, none⟩ = some (.int .i64 W) ∧ w'.cell? ⟨w.heap.size, 1, none⟩ = some (.int .i64 H) ∧ w'.cell? ⟨w.heap.size, 2, none⟩ = some (.slice (some ⟨b, off, none⟩) n c)) (by kernel_rfl) (HS _ ((Below.refl _ _).drew)) (fun hHeld => ?_)
      refine wpTop.take 0 (v := ?_) rfl (by kernel_rfl) (by kernel_rfl) (by kernel_rfl) (by kernel_rfl) (fun _ _ _ h => h) (Or.inl ⟨by rfl, ?_⟩) (by assumption) ?_
      rotate_left
      · intro w hSw; (try dsimp only at hSw); go_simp; try (with_reducible rfl)
      try simp only [Act.put, List.getElem_toArray, List.getElem_cons_zero, List.getElem_cons_succ, List.setIfInBounds_toArray, List.set_cons_zero, List.set_cons_succ]
      refine wpTop.take 1 (v := ?_) rfl (by kernel_rfl) (by kernel_rfl) (by kernel_rfl) (by kernel_rfl) (fun _ _ _ h => h) (Or.inl ⟨by rfl, ?_⟩) (by assumption) ?_
      rotate_left
      · intro w hSw; (try dsimp only at hSw); go_simp; try (with_reducible rfl)
      try simp only [Act.put, List.getElem_toArray, List.getElem_cons_zero, List.getElem_cons_succ, List.setIfInBounds_toArray, List.set_cons_zero, List.set_cons_succ]
      refine wpTop.take 2 (v := ?_) rfl (by kernel_rfl) (by kernel_rfl) (by kernel_rfl) (by kernel_rfl) (fun _ _ _ h => h) (Or.inl ⟨by rfl, ?_⟩) (by assumption) ?_
      rotate_left
      · intro w hSw; (try dsimp only at hSw); go_simp; try (with_reducible rfl)
      try simp only [Act.put, List.getElem_toArray, List.getElem_cons_zero, List.getElem_cons_succ, List.setIfInBounds_toArray, List.set_cons_zero, List.set_cons_succ]
      refine wpTop.take 3 (v := ?_) rfl (by kernel_rfl) (by kernel_rfl) (by kernel_rfl) (by kernel_rfl) (fun _ _ _ h => h) (Or.inl ⟨by rfl, ?_⟩) (by assumption) ?_
      rotate_left
      · intro w hSw; (try dsimp only at hSw); go_simp; try (with_reducible rfl)
      try simp only [Act.put, List.getElem_toArray, List.getElem_cons_zero, List.getElem_cons_succ, List.setIfInBounds_toArray, List.set_cons_zero, List.set_cons_succ]
      have hd : Below w2.heap.size w2 w2.drew := (Below.refl _ _).drew
      refine wpTop.one 4 rfl (by kernel_rfl) (fun K hK => ?_)
      go_simp
      (with_reducible refine (HW.out _ (hbf.trans (hd.mono hbf.size))).mono ?_)
      rintro e w4 ⟨A7, c7, rfl, o7, hb4⟩
      have hb5 := hd.trans (hb4.mono hd.size)
      refine hK.out _ _ (fun _ => HS _ hb5) (fun hH => ?_)
      clear hK K
      have hHeld := hH (by decide)
      clear hH
      try simp only [Act.put, List.getElem_toArray, List.getElem_cons_zero, List.getElem_cons_succ, List.setIfInBounds_toArray, List.set_cons_zero, List.set_cons_succ]
      refine wpTop.one 5 rfl (by kernel_rfl) (fun K hK => ?_)
      go_simp
      (with_reducible refine (pzWith_any _ _ _ _ _ _ _ _ _).mono ?_)
      rintro e w5 ⟨rfl, hb6⟩
      have hb7 := hb5.trans (hb6.mono hb5.size)
      refine hK.out _ _ (fun _ => HS _ hb7) (fun hH => ?_)
      clear hK K
      have hHeld := hH (by decide)
      clear hH
      try simp only [Act.put, List.getElem_toArray, List.getElem_cons_zero, List.getElem_cons_succ, List.setIfInBounds_toArray, List.set_cons_zero, List.set_cons_succ]
      have hs2 := rl
      have o9 := own_keep o7 hb6
      have Z3 := Z2.keep hb7
      clear rl r0 r1 r2 f0 f1 f2 hbf
      obtain ⟨rl, r0, r1, r2⟩ := id Z3.R
      have f0 := Z3.fz 0
      have f1 := Z3.fz 1
      have f2 := Z3.fz 2
      have hbf := Z3.bel
      refine wpTop.one 6 rfl (by kernel_rfl) (fun K hK => ?_)
      go_simp
      refine hK.out _ _ (fun h => absurd h (by decide)) (fun hH => ?_)
      clear hK K
      clear hH
      try simp only [Act.put, List.getElem_toArray, List.getElem_cons_zero, List.getElem_cons_succ, List.setIfInBounds_toArray, List.set_cons_zero, List.set_cons_succ]
      refine wpTop.one 7 rfl (by kernel_rfl) (fun K hK => ?_)
      go_simp
      refine hK.out _ _ (fun h => absurd h (by decide)) (fun hH => ?_)
      clear hK K
      clear hH
      try simp only [Act.put, List.getElem_toArray, List.getElem_cons_zero, List.getElem_cons_succ, List.setIfInBounds_toArray, List.set_cons_zero, List.set_cons_succ]
      refine wpTop.all (by kernel_rfl) ?_ _
      go_wp2_with fail
      refine bodyPost_ret (v := .tuple #[.agg #[.int .i64 W, .int .i64 H, .slice A7 (n - 1) c7], .bool true]) (by simp [results, Try.results22, go_sem, r0, r1, r2]) rfl ?_
      exact dc_some (b := w2.drew.heap.size) HE.out (by simpa using hs2) o9 hbf
    · rw [dcV_no (fun h => hk ⟨h.2.1, by have := h.2.2; omega⟩)]
      have d1 : inB k 0 ((n : Int) - 1) = false := by cases h : inB k 0 ((n : Int) - 1) with | false => rfl | true => exact absurd (inB_iff.1 h) hk
      have d1 := Lib.hid d1
      clear hI hP hL hL1 hl hk
      go_enter Try.func22, Try.ntmps22
      go_wp2_with fail
      rw [← hW1]
      clear hW1
      (with_reducible refine C0.out.mono ?_)
      rintro e w2 ⟨rfl, hb⟩
      have Z2 := Z1.keep hb
      clear hb Z1 C0
      obtain ⟨pl, p0, p1, p2⟩ := id Z2.P
      obtain ⟨rl, r0, r1, r2⟩ := id Z2.R
      have f0 := Z2.fz 0
      have f1 := Z2.fz 1
      have f2 := Z2.fz 2
      have hbf := Z2.bel
      go_wp2_with fail
      refine (l1In_any _ _ _ _).mono ?_
      rw [d1.out]
      rintro e w3 ⟨rfl, rfl⟩
      go_wp2_with fail
      refine bodyPost_ret (v := .tuple #[.agg #[.int .i64 0, .int .i64 0, .slice none 0 0], .bool false]) (by simp [results, Try.results22, go_sem, r0, r1, r2]) rfl ?_
      exact dc_none hbf
  · have C0 := Lib.hid (callB_no hI hP)
    rw [dcV_no (fun h => hP h.1)]
    clear hI hP hL hL1 hl
    go_enter Try.func22, Try.ntmps22
    go_wp2_with fail
    rw [← hW1]
    clear hW1
    (with_reducible refine C0.out.mono ?_)
    rintro e w2 ⟨rfl, hb⟩
    have Z2 := Z1.keep hb
    clear hb Z1 C0
    obtain ⟨pl, p0, p1, p2⟩ := id Z2.P
    obtain ⟨rl, r0, r1, r2⟩ := id Z2.R
    have f0 := Z2.fz 0
    have f1 := Z2.fz 1
    have f2 := Z2.fz 2
    have hbf := Z2.bel
    go_wp2_with fail
    refine bodyPost_ret (v := .tuple #[.agg #[.int .i64 0, .int .i64 0, .slice none 0 0], .bool false]) (by simp [results, Try.results22, go_sem, r0, r1, r2]) rfl ?_
    exact dc_none hbf
end Go.Proofs.Ytpbghalljfcaoaa
