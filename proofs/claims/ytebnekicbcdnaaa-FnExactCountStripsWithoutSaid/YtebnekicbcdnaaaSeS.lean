/- The filler for the squares of one side; countsOfSide; CountStripsWithout. -/
import Derived.Test.YtebnekicbcdnaaaSdSd
import Derived.Test.YtebnekicbcdnaaaSl
set_option linter.all false
namespace Go.Proofs.Ytebnekicbcdnaaa
open Go.RowKit

theorem cf_side (bx : Nat) (sd : Int) (b h H m : Nat) (h1 : 1 ≤ h) (h4 : h ≤ 4) (hH : H ≤ 30) : ∀ (n : Nat) (f : List Int) (E : List (List Int × Value)) (w : World), free h (H : Int) f < n → Fl h (H : Int) f → FQ b h H m (.func (.func 93) #[] #[.pointer (some ⟨bx, 0, none⟩)]) (pS sd) E w → w.cell? ⟨bx, 0, none⟩ = some (.int .i64 sd) → Calls Try.prog 87 #[.pointer (some ⟨b, 0, none⟩), arr (pad4 f)] w (RetQ b h H m (.func (.func 93) #[] #[.pointer (some ⟨bx, 0, none⟩)]) (pS sd) E f w) := by
  intro n
  induction n with
  | zero => intro f E w hn; omega
  | succ n ih => intro f E w hn hf Q hc; exact cf_node_side bx sd b h H m n h1 h4 hH ih f E w (by omega) hf Q hc
set_option maxRecDepth 100000 in
set_option maxHeartbeats 8000000 in
theorem newF_side (bx : Nat) (h H : Nat) (h1 : 1 ≤ h) (h4 : h ≤ 4) (hH1 : 1 ≤ H) (hH : H ≤ 30) (p : Nat → Bool) (w : World) : Calls Try.prog 82 #[.int .i64 h, .int .i64 H, (.func (.func 93) #[] #[.pointer (some ⟨bx, 0, none⟩)])] w fun e w' => ∃ b m E, e = .returned (.tuple #[.pointer (some ⟨b, 0, none⟩), .bool true]) ∧ FQ b h H m (.func (.func 93) #[] #[.pointer (some ⟨bx, 0, none⟩)]) p E w' ∧ Below w.heap.size w w' ∧ w.heap.size ≤ b ∧ w.heap.size ≤ m ∧ (∀ q ∈ E, ∃ k, w.heap.size ≤ k ∧ q.2.ownBlock = some k) := by
  have hmm := @run_makeMap Try.prog
  have k1 : inB (h : Int) 1 4 = true := by simp [inB]; omega
  have k2 : inB (H : Int) 1 30 = true := by simp [inB]; omega
  obtain ⟨N, hN⟩ : ∃ N, w.heap.size = N := ⟨_, rfl⟩
  have C1 := isUpTo_any 4 (h : Int) w
  rw [k1] at C1
  have C2 := isUpTo_any 30 (H : Int) w
  rw [k2] at C2
  rw [hN]
  go_enter Try.func82, Try.ntmps82
  go_wp2_with fail
  refine C1.mono ?_
  rintro e w' ⟨rfl, hw⟩
  subst hw
  clear C1
  go_wp2_with fail
  refine C2.mono ?_
  rintro e w' ⟨rfl, hw⟩
  subst hw
  clear C2
  obtain ⟨W1, hW1⟩ : ∃ W1, W1 = w.alloc (.cells #[.int .i64 h, .int .i64 H, (.func (.func 93) #[] #[.pointer (some ⟨bx, 0, none⟩)]), .map none] 103) := ⟨_, rfl⟩
  go_wp2_with fail
  try simp only [hN]
  rw [← hW1]
  have hs1 : W1.heap.size = N + 1 := by rw [hW1, ← hN]; simp
  obtain ⟨W2, hW2⟩ : ∃ W2, W2 = W1.alloc (.map #[] 0) := ⟨_, rfl⟩
  rw [← hW2]
  have hb1 : Below N w W1 := by rw [hW1, ← hN]; exact (Below.refl _ _).alloc (Nat.le_refl _) _
  have hb2 : Below N w W2 := by rw [hW2]; exact hb1.alloc (by omega) _
  have hs2 : W2.heap.size = N + 2 := by rw [hW2, World.size_alloc, hs1]
  have hbl2 : W2.heap[N]? = some (.cells #[.int .i64 h, .int .i64 H, (.func (.func 93) #[] #[.pointer (some ⟨bx, 0, none⟩)]), .map none] 103 (0, 0)) := by
    have e1 : W1.heap[N]? = some (.cells #[.int .i64 h, .int .i64 H, (.func (.func 93) #[] #[.pointer (some ⟨bx, 0, none⟩)]), .map none] 103 (0, 0)) := by rw [hW1, ← hN]; exact heap_alloc_new w _
    rw [← e1, hW2]
    exact ((Below.refl W1.heap.size W1).alloc (Nat.le_refl _) _).block N (by omega)
  have hml2 : W2.heap[N + 1]? = some (.map #[] 0) := by rw [hW2, ← hs1]; exact heap_alloc_new W1 _
  clear hW1 hW2 hb1 hs1
  have C3 := filledTo_any N h H 0 (.func (.func 93) #[] #[.pointer (some ⟨bx, 0, none⟩)]) (H : Int) h1 h4 (by omega) W2 (by simp [World.cell?, hbl2])
  refine C3.mono ?_
  rintro e w3 ⟨rfl, hb3⟩
  clear C3
  obtain ⟨W4, hW4⟩ : ∃ W4, W4 = w3.alloc (.cells #[.int .i64 1] 3) := ⟨_, rfl⟩
  have hs3 := hb3.size
  have hb4 : Below W2.heap.size W2 W4 := by rw [hW4]; exact hb3.alloc hs3 _
  have hbl4 := (hb4.block N (by omega)).trans hbl2
  have hml4 := (hb4.block (N + 1) (by omega)).trans hml2
  have hrow4 := World.ownsRow_lit (base := N) (size := 1) (e := 3) w3 #[.int .i64 1] 1 (by omega) (by decide) rfl
  rw [← hW4] at hrow4
  obtain ⟨B, hB⟩ : ∃ B, w3.heap.size = B := ⟨_, rfl⟩
  have hs4 : W4.heap.size = B + 1 := by rw [hW4, World.size_alloc, hB]
  rw [hB] at hrow4
  have hBN : N + 2 ≤ B := by omega
  obtain ⟨w5, hrun, hK5, hg5⟩ := update_nil (N + 1) 0 (pad4 (flatC h H)) (.slice (some ⟨B, 0, none⟩) 1 1) (pad4_len (by simp [flatC]; omega)) W4 hml4
  have hbl5 := (hg5.block N (by omega) (by simp)).trans hbl4
  have hrow5 : w5.ownsRow N 3 1 (.slice (some ⟨B, 0, none⟩) 1 1) 1 (nI [1]) := own_blk hrow4 fun k hk => hg5.block k (hrow4.lt k hk).2 (fun e => by simp [Value.ownBlock] at hk; have := Option.some.inj e; omega)
  have hb5 : Below N w w5 := by
    refine ((hb2.trans (hb4.mono (by omega))).grown hg5 (by omega) (fun j hj => ?_))
    simp at hj; omega
  obtain ⟨G, hG⟩ : ∃ G, pad4 (flatC h (H : Int)) = G := ⟨_, rfl⟩
  rw [hG] at hrun hK5 ⊢
  have z0 : w5.cell? ⟨N, 0, none⟩ = some (.int .i64 h) := by simp [World.cell?, hbl5]
  have z1 : w5.cell? ⟨N, 1, none⟩ = some (.int .i64 H) := by simp [World.cell?, hbl5]
  have z2 : w5.cell? ⟨N, 2, none⟩ = some (.func (.func 93) #[] #[.pointer (some ⟨bx, 0, none⟩)]) := by simp [World.cell?, hbl5]
  have z3 : w5.cell? ⟨N, 3, none⟩ = some (.map none) := by simp [World.cell?, hbl5]
  have f3 : w5.frozen? ⟨N, 3, none⟩ = false := by simp [World.frozen?, hbl5]
  clear hmm
  rw [hW4, ← hB] at hrun
  clear hb2 hs2 hbl2 hml2 hs3 hb4 hbl4 hml4 hrow4 hs4 hW4 hb3
  have HB := Lib.hid hB
  have HBN := Lib.hid hBN
  have HK := Lib.hid hK5
  have HR := Lib.hid hrow5
  have HBE := Lib.hid hb5
  have HBL := Lib.hid hbl5
  have HG := Lib.hid hG
  have HN := Lib.hid hN
  clear hB hBN hK5 hrow5 hb5 hbl5 hG hN hg5 k1 k2
  go_wp2_with fail
  go_ret2
  have hs5 := HR.out.lt B rfl
  refine ⟨N, N + 1, _, rfl, ⟨⟨?_, ?_, ?_, ?_⟩, ⟨_, _, heap_setCell_same _ _ _ _ _ _ HBL.out⟩, HK.out.keep (heap_setCell_other _ _ _ _ (by simp)), fun q hq => ?_, ⟨_, List.mem_singleton_self _, HG.out.symm⟩⟩, HBE.out.setCell (p := ⟨N, _, none⟩) (Nat.le_refl _) _, Nat.le_refl _, Nat.le_succ _, fun q hq => ?_⟩
  · simp [World.cell?, heap_setCell_same _ _ _ _ _ _ HBL.out]
  · simp [World.cell?, heap_setCell_same _ _ _ _ _ _ HBL.out]
  · simp [World.cell?, heap_setCell_same _ _ _ _ _ _ HBL.out]
  · simp [World.cell?, heap_setCell_same _ _ _ _ _ _ HBL.out]
  · simp at hq; subst hq
    refine ⟨flatC h H, some ⟨B, 0, none⟩, 1, flat_fl h H, HG.out.symm, by rw [flat_cS h1]; rfl, ?_⟩
    rw [flat_cS h1]
    exact own_base (own_blk HR.out fun k hk => heap_setCell_other _ _ _ _ (by simp [Value.ownBlock] at hk; have := HBN.out; simp; omega)) (Nat.zero_le _)
  · simp at hq; subst hq
    exact ⟨B, by have := HBN.out; omega, rfl⟩
set_option maxRecDepth 100000 in
theorem newF_sbad (bx : Nat) (h H : Int) (hok : (inB h 1 4 && inB H 1 30) = false) (w : World) : Calls Try.prog 82 #[.int .i64 h, .int .i64 H, (.func (.func 93) #[] #[.pointer (some ⟨bx, 0, none⟩)])] w fun e w' => e = .returned (.tuple #[.pointer none, .bool false]) ∧ w = w' := by
  have C1 := isUpTo_any 4 h w
  have C2 := isUpTo_any 30 H w
  cases k1 : inB h 1 4 with
  | false =>
    rw [k1] at C1
    clear hok k1
    go_enter Try.func82, Try.ntmps82
    go_wp2_with fail
    refine C1.mono ?_
    rintro e w' ⟨rfl, rfl⟩
    go_wp2_with fail
    go_ret2
    exact ⟨rfl, rfl⟩
  | true =>
    have k2 : inB H 1 30 = false := by rw [k1] at hok; simpa using hok
    rw [k1] at C1
    rw [k2] at C2
    clear hok k1 k2
    go_enter Try.func82, Try.ntmps82
    go_wp2_with fail
    refine C1.mono ?_
    rintro e w' ⟨rfl, rfl⟩
    go_wp2_with fail
    refine C2.mono ?_
    rintro e w' ⟨rfl, rfl⟩
    go_wp2_with fail
    go_ret2
    exact ⟨rfl, rfl⟩
set_option maxRecDepth 100000 in
set_option maxHeartbeats 4000000 in
theorem ofS_side (bx : Nat) (sd : Int) (h H : Nat) (h1 : 1 ≤ h) (h4 : h ≤ 4) (hH1 : 1 ≤ H) (hH : H ≤ 30) (w : World) (hcx : w.cell? ⟨bx, 0, none⟩ = some (.int .i64 sd)) : Calls Try.prog 53 #[.int .i64 h, .int .i64 H, (.func (.func 93) #[] #[.pointer (some ⟨bx, 0, none⟩)])] w fun e w' => ∃ A c, e = .returned (.tuple #[.slice A (cS (pS sd) h (H : Int) (zeroC h)).length c, .bool true]) ∧ w'.ownsRow w.heap.size 3 1 (.slice A (cS (pS sd) h (H : Int) (zeroC h)).length c) (cS (pS sd) h (H : Int) (zeroC h)).length (nI (cS (pS sd) h (H : Int) (zeroC h))) ∧ Below w.heap.size w w' := by
  obtain ⟨N, hN⟩ : ∃ N, w.heap.size = N := ⟨_, rfl⟩
  have C1 := newF_side bx h H h1 h4 hH1 hH (pS sd) w
  have hfl : Fl h (H : Int) (zeroC h) := Fl.start h (by omega)
  have CFA := fun (b m : Nat) (E : List (List Int × Value)) (V : World) (Q : FQ b h H m (.func (.func 93) #[] #[.pointer (some ⟨bx, 0, none⟩)]) (pS sd) E V) (hV : V.cell? ⟨bx, 0, none⟩ = some (.int .i64 sd)) => cf_side bx sd b h H m h1 h4 hH _ (zeroC h) E V (Nat.lt_succ_self _) hfl Q hV
  rw [zero_pad h4] at CFA
  simp only [arr, ints, List.map_cons, List.map_nil] at CFA
  rw [hN] at C1 ⊢
  obtain ⟨L, hL⟩ : ∃ L, cS (pS sd) h (H : Int) (zeroC h) = L := ⟨_, rfl⟩
  unfold RetQ at CFA
  rw [hL] at CFA ⊢
  have HCX : Hid (∀ V, Below N w V → V.cell? ⟨bx, 0, none⟩ = some (.int .i64 sd)) := Lib.hid fun V hb => (hb.cell (p := ⟨bx, 0, none⟩) (by have := World.block_lt_of_cell? _ _ hcx; rw [← hN]; exact this)).trans hcx
  have HC := Lib.hid C1
  have HF := Lib.hid CFA
  have HN := Lib.hid hN
  clear C1 CFA hfl hL hN hcx
  go_enter Try.func53, Try.ntmps53
  go_wp2_with fail
  refine HC.out.mono ?_
  rintro e w1 ⟨b, m, E, rfl, Q1, hb1, hbN, hmN, hEn⟩
  have HQ := Lib.hid Q1
  have HB1 := Lib.hid hb1
  have HE := Lib.hid hEn
  have HBM := Lib.hid (show N ≤ b ∧ N ≤ m from ⟨hbN, hmN⟩)
  clear Q1 hb1 hEn hbN hmN
  go_wp2_with fail
  (with_reducible refine (HF.out b m E w1 HQ.out (HCX.out w1 HB1.out)).mono ?_)
  rintro e w2 ⟨A, c, E2, rfl, Q2, hrow, _, hv, hg⟩
  have hz := HB1.out.size
  have hNw := HN.out
  have HRW := Lib.hid (own_up (base := N) hrow fun k hk => by
    rcases hv with ⟨q, hq, e⟩ | ⟨k', h1, h2⟩
    · obtain ⟨k2, h3, h4⟩ := HE.out q hq
      rw [e, hk] at h4; cases h4; exact h3
    · rw [hk] at h2; cases h2; omega)
  have HBE := Lib.hid (HB1.out.grown hg (by omega) (fun j hj => by cases hj; exact HBM.out.2))
  clear Q2 hrow hv hg hz hNw
  go_wp2_with fail
  go_ret2
  exact ⟨A, c, rfl, HRW.out, HBE.out⟩
set_option maxRecDepth 100000 in
theorem ofS_sbad (bx : Nat) (h H : Int) (hok : (inB h 1 4 && inB H 1 30) = false) (w : World) : Calls Try.prog 53 #[.int .i64 h, .int .i64 H, (.func (.func 93) #[] #[.pointer (some ⟨bx, 0, none⟩)])] w fun e w' => e = .returned (.tuple #[.slice none 0 0, .bool false]) ∧ w = w' := by
  have C1 := newF_sbad bx h H hok w
  clear hok
  go_enter Try.func53, Try.ntmps53
  go_wp2_with fail
  refine C1.mono ?_
  rintro e w' ⟨rfl, rfl⟩
  go_wp2_with fail
  go_ret2
  exact ⟨rfl, rfl⟩
def okSd (h H sd : Int) : Bool := (inB h 1 4 && inB H 1 30) && inB sd 1 4
set_option maxRecDepth 100000 in
set_option maxHeartbeats 4000000 in
theorem sideOf_good (h H : Nat) (sd : Int) (h1 : 1 ≤ h) (h4 : h ≤ 4) (hH1 : 1 ≤ H) (hH : H ≤ 30) (hs : inB sd 1 4 = true) (w : World) : Calls Try.prog 59 #[.int .i64 h, .int .i64 H, .int .i64 sd] w fun e w' => ∃ A c, e = .returned (.tuple #[.slice A (cS (pS sd) h (H : Int) (zeroC h)).length c, .bool true]) ∧ w'.ownsRow w.heap.size 3 1 (.slice A (cS (pS sd) h (H : Int) (zeroC h)).length c) (cS (pS sd) h (H : Int) (zeroC h)).length (nI (cS (pS sd) h (H : Int) (zeroC h))) ∧ Below w.heap.size w w' := by
  obtain ⟨N, hN⟩ : ∃ N, w.heap.size = N := ⟨_, rfl⟩
  obtain ⟨W1, hW1⟩ : ∃ W1, W1 = w.alloc (.cells #[.int .i64 sd] 3) := ⟨_, rfl⟩
  have hb1 : Below N w W1 := by rw [hW1, ← hN]; exact (Below.refl _ _).alloc (Nat.le_refl _) _
  have hs1 : W1.heap.size = N + 1 := by rw [hW1, ← hN]; simp
  have hc1 : W1.cell? ⟨N, 0, none⟩ = some (.int .i64 sd) := by rw [hW1, ← hN]; simp [go_sem]
  have C := isUpTo_any 4 sd W1
  rw [hs] at C
  have C2 := ofS_side N sd h H h1 h4 hH1 hH W1 hc1
  obtain ⟨L, hL⟩ : ∃ L, cS (pS sd) h (H : Int) (zeroC h) = L := ⟨_, rfl⟩
  rw [hL] at C2 ⊢
  rw [hs1] at C2
  rw [hW1] at C C2
  rw [hN]
  have HC := Lib.hid C
  have HC2 := Lib.hid C2
  have HB := Lib.hid hb1
  have HW := Lib.hid hW1
  have HS := Lib.hid hs1
  clear hs C C2 hL hb1 hs1 hW1 hc1
  go_enter Try.func59, Try.ntmps59
  go_wp2_with fail
  refine HC.out.mono ?_
  rintro e w' ⟨rfl, hw⟩
  rw [← hw]
  clear hw w'
  go_wp2_with fail
  refine HC2.out.mono ?_
  rintro e w2 ⟨A, c, rfl, hrow, hb2⟩
  have hrow2 := own_base hrow (Nat.le_succ N)
  rw [← HW.out] at hb2
  have HR := Lib.hid hrow2
  have HBE := Lib.hid (HB.out.trans (hb2.mono (by omega)))
  clear hrow hrow2 hb2
  go_wp2_with fail
  first
  | (go_ret2; exact ⟨A, c, rfl, HR.out, HBE.out⟩)
  | (go_ret; exact ⟨A, c, rfl, HR.out, HBE.out⟩)
  | (trace_state; sorry)
set_option maxRecDepth 100000 in
set_option maxHeartbeats 4000000 in
theorem sideOf_bad (h H sd : Int) (hok : okSd h H sd = false) (w : World) : Calls Try.prog 59 #[.int .i64 h, .int .i64 H, .int .i64 sd] w fun e w' => e = .returned (.tuple #[.slice none 0 0, .bool false]) ∧ Below w.heap.size w w' := by
  obtain ⟨W1, hW1⟩ : ∃ W1, W1 = w.alloc (.cells #[.int .i64 sd] 3) := ⟨_, rfl⟩
  have hb1 : Below w.heap.size w W1 := by rw [hW1]; exact (Below.refl _ _).alloc (Nat.le_refl _) _
  have C := isUpTo_any 4 sd W1
  cases hs : inB sd 1 4 with
  | false =>
    rw [hs] at C
    rw [hW1] at C
    have HC := Lib.hid C
    have HB := Lib.hid hb1
    have HW := Lib.hid hW1
    clear hok hs C hb1 hW1
    go_enter Try.func59, Try.ntmps59
    go_wp2_with fail
    refine HC.out.mono ?_
    rintro e w' ⟨rfl, hw⟩
    rw [← hw, ← HW.out]
    clear hw w'
    go_wp2_with fail
    go_ret2
    exact ⟨rfl, HB.out⟩
  | true =>
    rw [hs] at C
    have hk : (inB h 1 4 && inB H 1 30) = false := by unfold okSd at hok; rw [hs] at hok; simpa using hok
    have C2 := ofS_sbad w.heap.size h H hk W1
    rw [hW1] at C C2
    have HC := Lib.hid C
    have HC2 := Lib.hid C2
    have HB := Lib.hid hb1
    have HW := Lib.hid hW1
    clear hok hs C C2 hk hb1 hW1
    go_enter Try.func59, Try.ntmps59
    go_wp2_with fail
    refine HC.out.mono ?_
    rintro e w' ⟨rfl, hw⟩
    rw [← hw]
    clear hw w'
    go_wp2_with fail
    refine HC2.out.mono ?_
    rintro e w' ⟨rfl, hw⟩
    rw [← hw, ← HW.out]
    clear hw w'
    go_wp2_with fail
    first
    | (go_ret2; exact ⟨rfl, HB.out⟩)
    | (go_ret; exact ⟨rfl, HB.out⟩)
end Go.Proofs.Ytebnekicbcdnaaa
