/- Contract of the model's LevelsOf. -/
import Derived.Test.YtmjdmedlkcmgiaaLevG
import Derived.Test.YtmjdmedlkcmgiaaCodeI
set_option linter.all false
namespace Go.Proofs.Ytmjdmedlkcmgiaa
open Go.RowKit

set_option maxRecDepth 100000 in
theorem l1Has_any (A : Option Addr) (n c : Nat) (T : List Int) (k : Int) (w : World) (hl : T.length = n) (hn : n ≤ 1000) (hT : IntsAt w w.heap.size A T) :
    Calls Try.prog 76 #[.slice A n c, .int .i64 k] w fun e w' => e = .returned (.bool (dc (k ∈ T))) ∧ w = w' := by
  subst hl
  go_enter Try.func76, Try.ntmps76
  go_wp2_with fail
  go_loop [9] (fun i => ∃ j : Nat, j ≤ T.length ∧ i = .int .i64 j ∧ ∀ (i : Nat) z, i < j → T[i]? = some z → z ≠ k) (fun i => T.length - (intOf i).toNat)
  case atStart => exact ⟨0, Nat.zero_le _, rfl, fun i z h => by omega⟩
  case round =>
    obtain ⟨j, hj, rfl, hno⟩ := hrel
    by_cases hlt : j < T.length
    · obtain ⟨z, hz⟩ : ∃ z, T[j]? = some z := ⟨_, List.getElem?_eq_getElem hlt⟩
      obtain ⟨b, off, rfl, hb, c0⟩ := hT j z hz
      have HZ := Lib.hid hz
      have HN := Lib.hid hno
      have j0 : (0 : Int) ≤ (j : Int) := by omega
      have j1 : (j : Int) < (T.length : Int) := by omega
      clear hz hno hT
      rcases Bool.eq_false_or_eq_true (z == k) with e | e
      · go_wp2_with fail
        go_ret
        refine ⟨ret_bool (dc_true ?_).symm, rfl⟩
        have := List.mem_of_getElem? HZ.out
        rwa [beq_iff_eq.1 e] at this
      · go_wp2_with fail
        go_round
        case rel => exact ⟨j + 1, by omega, by go_num, fun i z' hi hz' => by
          by_cases h : i = j
          · subst h
            obtain rfl := Option.some.inj (HZ.out.symm.trans hz')
            simpa using e
          · exact HN.out i z' (by omega) hz'⟩
        case measure => simp [intOf]; omega
    · obtain rfl : j = T.length := by omega
      have HN := Lib.hid hno
      clear hno
      go_wp2_with fail
      go_ret
      refine ⟨ret_bool (dc_false fun hm => ?_).symm, rfl⟩
      obtain ⟨i, hi⟩ := List.mem_iff_getElem?.1 hm
      exact HN.out i k (List.getElem?_eq_some_iff.1 hi).1 hi rfl

set_option maxRecDepth 100000 in
set_option maxHeartbeats 8000000 in
theorem specLev_any (W H : Int) (A : Option Addr) (n c : Nat) (L : List Sq) (w : World) (hl : L.length = n) (hc : n ≤ c) (hL : SqsAt w w.heap.size A L) :
    Calls Try.prog 38 #[.agg #[.int .i64 W, .int .i64 H, .slice A n c]] w (RetInts w (ifGood W H L (lev L L.length)) (dc (Good W H L))) := by
  subst hl
  obtain ⟨i0, hi, hz0, hz1, hz2⟩ := info_parts infoInt
  have hb0 : ∀ o : Obj, Below w.heap.size w (w.alloc o) := fun o => (Below.refl _ _).alloc (Nat.le_refl _) o
  have Z0 : Box w.heap.size w (w.alloc (.cells #[.int .i64 W, .int .i64 H, .slice A L.length c] 31)) W H A c L := Box.start hL
  by_cases hG : Good W H L
  · rw [ifGood_yes hG, dc_true hG]
    have hg30 := hG.2.2.1.2
    go_enter Try.func38, Try.ntmps38
    go_wp2_with fail
    refine (callB_yes (cuGood_any W H A _ c L _ rfl hc ((hL.below (hb0 _)).mono (hb0 _).size)) hG).mono ?_
    rintro e w1 ⟨rfl, hb1⟩
    have Z1 := Z0.next hb1
    obtain ⟨hB1, hz1', b0, b1, b2, hL1⟩ := id Z1
    clear Z0 hb1 hb0 hG
    go_wp2_with fail
    go_loopw [4, 13] (fun v i wr => ∃ k : Nat, k ≤ L.length ∧ i = .int .i64 k ∧ Below w.heap.size w wr ∧ w.heap.size < wr.heap.size ∧ wr.ownsRow w.heap.size 3 1 v (lev L k).length (ints (lev L k))) (fun _ i _ => L.length - (intOf i).toNat)
    case atStart => exact ⟨0, Nat.zero_le _, rfl, hB1, hz1', World.ownsRow_nil _ _ _ _⟩
    case round =>
      obtain ⟨k, hk, rfl, hbr, hzr, hown⟩ := hrel
      have hll := lev_len L k
      by_cases hlt : k < L.length
      · obtain ⟨s, hs⟩ : ∃ s, L[k]? = some s := ⟨_, List.getElem?_eq_getElem hlt⟩
        obtain ⟨b, off, rfl, hb, c0, c1, c2⟩ := (hL.below hbr) k s hs
        have hsu := lev_succ L k s hs
        obtain ⟨T, hT⟩ : ∃ T, lev L k = T := ⟨_, rfl⟩
        rw [hT] at hsu hown hll
        obtain ⟨A', c', rfl⟩ := own_val hown
        have hownX := hown.alloc (.cells #[.int .i64 s.x, .int .i64 s.y, .int .i64 s.d] 70)
        have hBX := hbr.alloc (by omega : w.heap.size ≤ wr.heap.size) (.cells #[.int .i64 s.x, .int .i64 s.y, .int .i64 s.d] 70)
        have CH := l1Has_any A' T.length c' T s.y _ rfl (by omega) (ints_of_own hownX)
        by_cases hm : s.y ∈ T
        · rw [if_pos hm] at hsu
          rw [dc_true hm] at CH
          have HSU := Lib.hid hsu
          clear hsu hs hT hL hL1 Z1 b0 b1 b2 hm
          go_wp2_with fail
          refine CH.mono ?_
          rintro e w2 ⟨rfl, rfl⟩
          clear CH
          go_wp2_with fail
          go_roundw
          case rel => exact ⟨k + 1, by omega, by go_num, hBX, by simp; omega, by rw [HSU.out]; exact hownX⟩
          case measure => simp [intOf]; omega
        · rw [if_neg hm] at hsu
          rw [dc_false hm] at CH
          have HSU := Lib.hid hsu
          clear hsu hs hT hL hL1 Z1 b0 b1 b2 hm
          go_wp2_with fail
          refine CH.mono ?_
          rintro e w2 ⟨rfl, rfl⟩
          clear CH
          have hbl : T.length + 1 ≤ maxLen := by unfold maxLen; omega
          have hby : (T.length + 1) * 8 ≤ 140737488355328 := by omega
          go_wp2_with (at_builtin; refine app_list rfl _ _ _ rfl w.heap.size 3 i0 (.int .i64 0) 1 8 Try.underlying42 hi hz0 hz1 hz2 rfl (by decide) (.slice A' T.length c') T.length _ rfl (hownX.alloc _) (some ⟨wr.heap.size + 1, 0, none⟩) 1 1 [.int .i64 s.y] rfl rfl (.inr ⟨_, rfl, new1' _ _ _ _⟩) (one1 _ rfl) hbl hby (by simp; omega) ?_; intro v' w6 hown6 hgrow _)
          have hB7 : Below w.heap.size w w6 := (hBX.alloc (by simp; omega) _).grown hgrow (by simp; omega) (fun k hk => (hown.lt k hk).1)
          have hs6 := hgrow.size
          simp only [World.size_alloc] at hs6
          clear hgrow hown hownX hBX
          go_wp2_with fail
          go_roundw
          case rel => exact ⟨k + 1, by omega, by go_num, hB7, by omega, by rw [HSU.out, ints_app, List.length_append]; exact hown6⟩
          case measure => simp [intOf]; omega
      · obtain rfl : k = L.length := by omega
        obtain ⟨A', c', rfl⟩ := own_val hown
        go_wp2_with fail
        go_ret2
        exact RetInts.mk rfl hown hbr
  · rw [ifGood_no hG, dc_false hG]
    go_enter Try.func38, Try.ntmps38
    go_wp2_with fail
    refine (callB_no (cuGood_any W H A _ c L _ rfl hc ((hL.below (hb0 _)).mono (hb0 _).size)) hG).mono ?_
    rintro e w1 ⟨rfl, hb1⟩
    go_wp2_with fail
    go_ret2
    exact RetInts.none_ ((hb0 _).trans (hb1.mono (hb0 _).size))
end Go.Proofs.Ytmjdmedlkcmgiaa
