/- What is a puzzle: both sides. -/
import Derived.Test.YtbkfenhiaedlgaaDoorPzC
set_option linter.all false
namespace Go.Proofs.YtbkfenhiaedlgaaDoor
open Go.RowKit

/-- A puzzle. -/
def GoodP (W H : Int) (L : List Sq) : Prop := okP W H = true ∧ L.length ≤ 6 ∧ ∀ s ∈ L, ClueOk (W * H) s
theorem GoodP.size {W H : Int} {L : List Sq} (h : GoodP W H L) : ((1 ≤ W ∧ W ≤ 6) ∧ 1 ≤ H ∧ H ≤ 6) ∧ 1 ≤ W * H ∧ W * H ≤ 12 := ⟨(okP_iff.1 h.1).1, okP_size h.1⟩
theorem implIsPuz_any (W H : Int) (A : Option Addr) (n c : Nat) (L : List Sq) (w : World) (hl : L.length = n) (hn9 : n ≤ 9223372036854775807) (hL : SqsAt w w.heap.size A L) : Calls Tryd.prog 86 #[.agg #[.int .i64 W, .int .i64 H, .slice A n c]] w (RetB w (GoodP W H L)) := by
  have B0 : Below w.heap.size w (w.alloc (.cells #[.int .i64 W, .int .i64 H, .slice A n c] 65)) := (Below.refl _ _).alloc (Nat.le_refl _) _
  have K0 := Cv3.start w (.int .i64 W) (.int .i64 H) (.slice A n c) 65
  have ha := fun w' => hidSize_any W H w'
  cases hok : okP W H with
  | false =>
    rw [hok] at ha
    obtain ⟨kl, k0, k1, k2⟩ := id K0
    go_enter Tryd.func86, Tryd.ntmps86
    go_wp2_with fail
    refine (ha _).mono ?_
    rintro e w' ⟨rfl, rfl⟩
    go_wp2_with fail
    go_ret
    exact RetB.mk ⟨fun h => (by cases h), fun h => by rw [h.1] at hok; cases hok⟩ B0
  | true =>
    rw [hok] at ha
    obtain ⟨N, hp⟩ : ∃ N, W * H = N := ⟨_, rfl⟩
    have hs := okP_size hok
    by_cases h6 : n ≤ 6
    · have d6 : decide ((n : Int) ≤ 6) = true := by simp; omega
      rw [hp] at hs
      have wa : IntKind.i64.wrap (W * H) = N := by rw [hp]; exact IntWalk.i64_in _ (by omega)
      have HOK := Lib.hid hok
      have HP := Lib.hid hp
      have HL := Lib.hid hl
      have C := Lib.hid (areClues_any N (by omega) A n c L _ hl (by omega) ((hL.below B0).mono B0.size))
      clear hok hp hl hL h6
      obtain ⟨kl, k0, k1, k2⟩ := id K0
      go_enter Tryd.func86, Tryd.ntmps86
      go_wp2_with fail
      refine (ha _).mono ?_
      rintro e w' ⟨rfl, rfl⟩
      go_wp2_with fail
      (with_reducible refine C.out.mono ?_)
      rintro e w' ⟨rfl, hb⟩
      go_wp2_with fail
      go_ret
      refine RetB.mk ?_ (B0.trans (hb.mono B0.size))
      have hL6 : L.length ≤ 6 := by have := HL.out; simp at d6; omega
      simp only [GoodP, HOK.out, HP.out, hL6]
      rw [dc_iff]; simp
    · have d6 : decide ((n : Int) ≤ 6) = false := by simp; omega
      have HOK := Lib.hid hok
      have HL := Lib.hid hl
      have h6' := Lib.hid h6
      clear hok hp hl hL h6 hs
      obtain ⟨kl, k0, k1, k2⟩ := id K0
      go_enter Tryd.func86, Tryd.ntmps86
      go_wp2_with fail
      refine (ha _).mono ?_
      rintro e w' ⟨rfl, rfl⟩
      go_wp2_with fail
      go_ret
      exact RetB.mk ⟨fun h => (by cases h), fun h => by have := h.2.1; have := HL.out; have := h6'.out; omega⟩ B0
set_option maxRecDepth 100000 in
set_option maxHeartbeats 4000000 in
theorem pzGood_any (W H : Int) (A : Option Addr) (n c : Nat) (L : List Sq) (w : World) (hl : L.length = n) (hn9 : n ≤ 9223372036854775807) (hL : SqsAt w w.heap.size A L) : Calls Tryd.prog 83 #[.agg #[.int .i64 W, .int .i64 H, .slice A n c]] w (RetB w (GoodP W H L)) := by
  have B0 : Below w.heap.size w (w.alloc (.cells #[.int .i64 W, .int .i64 H, .slice A n c] 65)) := (Below.refl _ _).alloc (Nat.le_refl _) _
  have K0 := Cv3.start w (.int .i64 W) (.int .i64 H) (.slice A n c) 65
  have ha := fun w' => pzSize_any W H w'
  cases hok : okP W H with
  | false =>
    rw [hok] at ha
    obtain ⟨kl, k0, k1, k2⟩ := id K0
    go_enter Tryd.func83, Tryd.ntmps83
    go_wp2_with fail
    refine (ha _).mono ?_
    rintro e w' ⟨rfl, rfl⟩
    go_wp2_with fail
    go_ret
    exact RetB.mk ⟨fun h => (by cases h), fun h => by rw [h.1] at hok; cases hok⟩ B0
  | true =>
    rw [hok] at ha
    have hs := okP_size hok
    by_cases h6 : n ≤ 6
    · have d6 : decide ((6 : Int) < (n : Int)) = false := by simp; omega
      have HOK := Lib.hid hok
      have h7 := Lib.hid h6
      clear hok h6
      have C := fun s w' => pzClue_any W H (by omega) s w'
      obtain ⟨kl, k0, k1, k2⟩ := id K0
      go_enter Tryd.func83, Tryd.ntmps83
      go_wp2_with fail
      refine (ha _).mono ?_
      rintro e w' ⟨rfl, rfl⟩
      go_wp2_with fail
      clear kl k0 k1 k2
      obtain ⟨W0, hW0⟩ : ∃ W0, W0 = w.alloc (.cells #[.int .i64 W, .int .i64 H, .slice A n c] 65) := ⟨_, rfl⟩
      rw [← hW0] at B0 K0 ⊢
      clear hW0
      go_loopw [20] (fun i wr => ∃ k : Nat, k ≤ n ∧ i = .int .i64 k ∧ (∀ j s, j < k → L[j]? = some s → ClueOk (W * H) s) ∧ Below w.heap.size w wr ∧ Cv3 w.heap.size wr (.int .i64 W) (.int .i64 H) (.slice A n c)) (fun i _ => n - (intOf i).toNat)
      case atStart => exact ⟨0, Nat.zero_le _, rfl, fun j s h => absurd h (Nat.not_lt_zero _), B0, K0⟩
      case round =>
        obtain ⟨k, hk, rfl, hpre, hbr, KR⟩ := hrel
        clear B0 K0
        by_cases hlt : k < n
        · obtain ⟨s, hs'⟩ : ∃ s, L[k]? = some s := ⟨_, List.getElem?_eq_getElem (by rw [hl]; exact hlt)⟩
          obtain ⟨b, off, rfl, hb, c0, c1, c2⟩ := hL k s hs'
          have HP := Lib.hid hpre
          have HS := Lib.hid hs'
          have HL := Lib.hid hl
          have c0' := (hbr.cell (p := ⟨b, off + k * 3, none⟩) hb).trans c0
          have c1' := (hbr.cell (p := ⟨b, off + k * 3 + 1, none⟩) hb).trans c1
          have c2' := (hbr.cell (p := ⟨b, off + k * 3 + 2, none⟩) hb).trans c2
          clear c0 c1 c2 hL hpre hs' hl
          have i0 : (0 : Int) ≤ (k : Int) := by omega
          have i1 : (k : Int) < (n : Int) := by omega
          obtain ⟨kl, k0, k1, k2⟩ := id KR
          by_cases hcl : ClueOk (W * H) s
          · have C1 := fun w' => callB_yes (C s w') hcl
            go_wp2_with fail
            clear kl k0 k1 k2
            obtain ⟨W1, hW1⟩ : ∃ W1, W1 = wr.alloc (.cells #[.int .i64 s.x, .int .i64 s.y, .int .i64 s.d] 122) := ⟨_, rfl⟩
            have hb1 : Below wr.heap.size wr W1 := by rw [hW1]; exact (Below.refl _ _).alloc (Nat.le_refl _) _
            rw [← hW1]
            clear hW1
            refine (C1 W1).mono ?_
            rintro e w2 ⟨rfl, hb2⟩
            have hb3 : Below wr.heap.size wr w2 := hb1.trans (hb2.mono hb1.size)
            clear c0' c1' c2'
            have KN := KR.next hb3
            obtain ⟨kl, k0, k1, k2⟩ := id KN
            go_wp2_with fail
            go_roundw
            case rel =>
              refine ⟨k + 1, by omega, by go_num, fun j t hj ht => ?_, hbr.trans (hb3.mono hbr.size), KN⟩
              rcases (by omega : j < k ∨ j = k) with h | rfl
              · exact HP.out j t h ht
              · rw [HS.out] at ht; cases ht; exact hcl
            case measure => simp [intOf]; omega
          · have C1 := fun w' => callB_no (C s w') hcl
            go_wp2_with fail
            clear kl k0 k1 k2
            obtain ⟨W1, hW1⟩ : ∃ W1, W1 = wr.alloc (.cells #[.int .i64 s.x, .int .i64 s.y, .int .i64 s.d] 122) := ⟨_, rfl⟩
            have hb1 : Below wr.heap.size wr W1 := by rw [hW1]; exact (Below.refl _ _).alloc (Nat.le_refl _) _
            rw [← hW1]
            clear hW1
            refine (C1 W1).mono ?_
            rintro e w2 ⟨rfl, hb2⟩
            have hb3 : Below wr.heap.size wr w2 := hb1.trans (hb2.mono hb1.size)
            clear c0' c1' c2'
            go_wp2_with fail
            go_ret
            exact RetB.mk ⟨fun h => (by cases h), fun h => absurd (h.2.2 s (List.mem_of_getElem? HS.out)) hcl⟩ (hbr.trans (hb3.mono hbr.size))
        · obtain rfl : k = n := by omega
          have HP := Lib.hid hpre
          have HL := Lib.hid hl
          clear hpre hL hl
          go_wp2_with fail
          go_ret
          refine RetB.mk ⟨fun _ => ⟨HOK.out, by have := HL.out; have := h7.out; omega, fun s hs => ?_⟩, fun _ => rfl⟩ hbr
          obtain ⟨j, hj⟩ := List.getElem?_of_mem hs
          have hj' := (List.getElem?_eq_some_iff.1 hj).1
          exact HP.out j s (by have := HL.out; omega) hj
    · have d6 : decide ((6 : Int) < (n : Int)) = true := by simp; omega
      have HL := Lib.hid hl
      have h6' := Lib.hid h6
      clear hok hl hL h6 hs
      obtain ⟨kl, k0, k1, k2⟩ := id K0
      go_enter Tryd.func83, Tryd.ntmps83
      go_wp2_with fail
      refine (ha _).mono ?_
      rintro e w' ⟨rfl, rfl⟩
      go_wp2_with fail
      go_ret
      exact RetB.mk ⟨fun h => (by cases h), fun h => by have := h.2.1; have := HL.out; have := h6'.out; omega⟩ B0
end Go.Proofs.YtbkfenhiaedlgaaDoor
