/- Contracts of SquareAt, the program's and the model's. -/
import Derived.Test.YtgghkimjminbaaaGood
set_option linter.all false
namespace Go.Proofs.Ytgghkimjminbaaa
open Go.RowKit

def InSq (s : Sq) (x y : Int) : Prop := s.x ≤ x ∧ x < s.x + s.d ∧ s.y ≤ y ∧ y < s.y + s.d
/-- The answer (i, ok) of SquareAt. -/
def AtSays (W H : Int) (L : List Sq) (x y i : Int) (ok : Bool) : Prop :=
  (Good W H L ∧ ok = true ∧ ∃ (k : Nat) (s : Sq), L[k]? = some s ∧ InSq s x y ∧ (∀ (j : Nat) (t : Sq), j < k → L[j]? = some t → ¬ InSq t x y) ∧ i = k) ∨
  ((¬ Good W H L ∨ ∀ (j : Nat) (t : Sq), L[j]? = some t → ¬ InSq t x y) ∧ ok = false ∧ i = 0)
theorem AtSays.unique {W H : Int} {L : List Sq} {x y i i' : Int} {ok ok' : Bool} (h : AtSays W H L x y i ok) (h' : AtSays W H L x y i' ok') : i = i' ∧ ok = ok' := by
  rcases h with ⟨hG, rfl, k, s, hk, hin, hfst, rfl⟩ | ⟨hno, rfl, rfl⟩ <;> rcases h' with ⟨hG', rfl, k', s', hk', hin', hfst', rfl⟩ | ⟨hno', rfl, rfl⟩
  · rcases Nat.lt_trichotomy k k' with h | rfl | h
    · exact absurd hin (hfst' k s h hk)
    · exact ⟨rfl, rfl⟩
    · exact absurd hin' (hfst k' s' h hk')
  · rcases hno' with h | h
    · exact absurd hG h
    · exact absurd hin (h k s hk)
  · rcases hno with h | h
    · exact absurd hG' h
    · exact absurd hin' (h k' s' hk')
  · exact ⟨rfl, rfl⟩
def RetAt (w : World) (W H : Int) (L : List Sq) (x y : Int) (e : Ending) (w' : World) : Prop := ∃ i ok, e = .returned (.tuple #[.int .i64 i, .bool ok]) ∧ AtSays W H L x y i ok ∧ Below w.heap.size w w'

set_option maxHeartbeats 1000000 in
theorem implAt_any (W H : Int) (A : Option Addr) (n c : Nat) (L : List Sq) (x y : Int) (w : World) (hl : L.length = n) (hc : n ≤ c) (hL : SqsAt w w.heap.size A L) (hwf : ∀ s ∈ L, wfS s) :
    Calls Try.prog 29 #[.agg #[.int .i64 W, .int .i64 H, .slice A n c], .int .i64 x, .int .i64 y] w (RetAt w W H L x y) := by
  subst hl
  have hb0 : ∀ o : Obj, Below w.heap.size w (w.alloc o) := fun o => (Below.refl _ _).alloc (Nat.le_refl _) o
  by_cases hG : Good W H L
  · go_enter Try.func29, Try.ntmps29
    go_wp2_with fail
    have Z0 : Box w.heap.size w (w.alloc (.cells #[.int .i64 W, .int .i64 H, .slice A L.length c] 24)) W H A c L := Box.start hL
    refine (callB_yes (isCut_good W H A _ c L _ rfl hc ((hL.below (hb0 _)).mono (hb0 _).size) hwf) hG).mono ?_
    rintro e w1 ⟨rfl, hb1⟩
    have Z1 := Z0.next hb1
    obtain ⟨hB1, hz1, b0, b1, b2, hL1⟩ := id Z1
    clear Z0 hb1
    have hg30 := hG.2.2.1.2
    go_wp2_with fail
    go_loopw [16] (fun i wr => ∃ k : Nat, k ≤ L.length ∧ i = .int .i64 k ∧ Below w.heap.size w wr ∧ w.heap.size < wr.heap.size ∧ (∀ (j : Nat) t, j < k → L[j]? = some t → ¬ InSq t x y)) (fun i _ => L.length - (intOf i).toNat)
    case atStart => exact ⟨0, Nat.zero_le _, rfl, hB1, hz1, fun j t h => by omega⟩
    case round =>
      obtain ⟨k, hk, rfl, hbr, hzr, hdone⟩ := hrel
      by_cases hlt : k < L.length
      · obtain ⟨s, hs⟩ : ∃ s, L[k]? = some s := ⟨_, List.getElem?_eq_getElem hlt⟩
        obtain ⟨b, off, rfl, hb, c0, c1, c2⟩ := (hL.below hbr) k s hs
        have hw := (hG.2.2.2.1 k s hs).1
        have hd5 := (hG.2.2.2.1 k s hs).2.1
        have HS := Lib.hid hs
        have HD := Lib.hid hdone
        have HG := Lib.hid hG
        have hW5 := hG.1.2
        have hH5 := hG.2.1.2
        clear hs hdone hL hL1 Z1 b0 b1 b2
        unfold Within at hw
        by_cases hin : InSq s x y
        · obtain ⟨i1, i2, i3, i4⟩ := hin
          go_wp2_with fail
          go_ret2
          exact ⟨k, true, rfl, Or.inl ⟨HG.out, rfl, k, s, HS.out, ⟨i1, i2, i3, i4⟩, HD.out, rfl⟩, hbr.alloc (by omega) _⟩
        · have hcs : ¬ s.x ≤ x ∨ (s.x ≤ x ∧ ¬ x < s.x + s.d) ∨ (s.x ≤ x ∧ x < s.x + s.d ∧ ¬ s.y ≤ y) ∨ (s.x ≤ x ∧ x < s.x + s.d ∧ s.y ≤ y ∧ ¬ y < s.y + s.d) := by
            unfold InSq at hin; omega
          have step : ∀ (j : Nat) t, j < k + 1 → L[j]? = some t → ¬ InSq t x y := by
            intro j t hj ht
            by_cases e : j = k
            · subst e
              obtain rfl := Option.some.inj (HS.out.symm.trans ht)
              exact hin
            · exact HD.out j t (by omega) ht
          have Step := Lib.hid step
          have hBn := Lib.hid (fun o : Obj => hbr.alloc (by omega : w.heap.size ≤ wr.heap.size) o)
          clear step hin
          rcases hcs with c | ⟨c, c3⟩ | ⟨c, c3, c4⟩ | ⟨c, c3, c4, c5⟩
          all_goals
            go_wp2_with fail
            go_roundw
            case rel => exact ⟨k + 1, by omega, by go_num, hBn.out _, by simp; omega, Step.out⟩
            case measure => simp [intOf]; omega
      · obtain rfl : k = L.length := by omega
        have HD := Lib.hid hdone
        clear hdone
        go_wp2_with fail
        go_ret2
        exact ⟨0, false, rfl, Or.inr ⟨Or.inr fun j t ht => HD.out j t (List.getElem?_eq_some_iff.1 ht).1 ht, rfl, rfl⟩, hbr⟩
  · go_enter Try.func29, Try.ntmps29
    go_wp2_with fail
    refine (callB_no (isCut_good W H A _ c L _ rfl hc ((hL.below (hb0 _)).mono (hb0 _).size) hwf) hG).mono ?_
    rintro e w1 ⟨rfl, hb1⟩
    go_wp2_with fail
    go_ret2
    exact ⟨0, false, rfl, Or.inr ⟨Or.inl hG, rfl, rfl⟩, (hb0 _).trans (hb1.mono (hb0 _).size)⟩

set_option maxRecDepth 100000 in
set_option maxHeartbeats 1000000 in
theorem specAt_any (W H : Int) (A : Option Addr) (n c : Nat) (L : List Sq) (x y : Int) (w : World) (hl : L.length = n) (hc : n ≤ c) (hL : SqsAt w w.heap.size A L) :
    Calls Try.prog 37 #[.agg #[.int .i64 W, .int .i64 H, .slice A n c], .int .i64 x, .int .i64 y] w (RetAt w W H L x y) := by
  subst hl
  have hb0 : ∀ o : Obj, Below w.heap.size w (w.alloc o) := fun o => (Below.refl _ _).alloc (Nat.le_refl _) o
  by_cases hG : Good W H L
  · have hW5 := hG.1
    have hH5 := hG.2.1
    have hg30 := hG.2.2.1.2
    by_cases hx : 0 ≤ x ∧ x ≤ W - 1
    · have dx := Lib.hid (inB_iff.2 hx)
      by_cases hy : 0 ≤ y ∧ y ≤ H - 1
      · have dy := Lib.hid (inB_iff.2 hy)
        go_enter Try.func37, Try.ntmps37
        go_wp2_with fail
        have Z0 : Box w.heap.size w (w.alloc (.cells #[.int .i64 W, .int .i64 H, .slice A L.length c] 24)) W H A c L := Box.start hL
        refine (callB_yes (cuGood_any W H A _ c L _ rfl hc ((hL.below (hb0 _)).mono (hb0 _).size)) hG).mono ?_
        rintro e w1 ⟨rfl, hb1⟩
        have Z1 := Z0.next hb1
        obtain ⟨hB1, hz1, b0, b1, b2, hL1⟩ := id Z1
        clear Z0 hb1
        go_wp2_with fail
        refine (l1In_any _ _ _ _).mono ?_
        rw [dx.out]
        rintro e w' ⟨rfl, rfl⟩
        go_wp2_with fail
        refine (l1In_any _ _ _ _).mono ?_
        rw [dy.out]
        rintro e w' ⟨rfl, rfl⟩
        go_wp2_with fail
        go_loopw [32] (fun i wr => ∃ k : Nat, k ≤ L.length ∧ i = .int .i64 k ∧ Below w.heap.size w wr ∧ w.heap.size < wr.heap.size ∧ (∀ (j : Nat) t, j < k → L[j]? = some t → ¬ InSq t x y)) (fun i _ => L.length - (intOf i).toNat)
        case atStart => exact ⟨0, Nat.zero_le _, rfl, hB1, hz1, fun j t h => by omega⟩
        case round =>
          obtain ⟨k, hk, rfl, hbr, hzr, hdone⟩ := hrel
          by_cases hlt : k < L.length
          · obtain ⟨s, hs⟩ : ∃ s, L[k]? = some s := ⟨_, List.getElem?_eq_getElem hlt⟩
            obtain ⟨b, off, rfl, hb, c0, c1, c2⟩ := (hL.below hbr) k s hs
            have hw := (hG.2.2.2.1 k s hs).1
            have hd5 := (hG.2.2.2.1 k s hs).2.1
            have HS := Lib.hid hs
            have HD := Lib.hid hdone
            have HG := Lib.hid hG
            clear hs hdone hL hL1 Z1 b0 b1 b2
            unfold Within at hw
            have hBn := Lib.hid (fun o : Obj => hbr.alloc (by omega : w.heap.size ≤ wr.heap.size) o)
            by_cases ix : s.x ≤ x ∧ x ≤ s.x + s.d - 1
            · have ex := Lib.hid (inB_iff.2 ix)
              by_cases iy : s.y ≤ y ∧ y ≤ s.y + s.d - 1
              · have ey := Lib.hid (inB_iff.2 iy)
                go_wp2_with fail
                refine (l1In_any _ _ _ _).mono ?_
                rw [ex.out]
                rintro e w' ⟨rfl, rfl⟩
                go_wp2_with fail
                refine (l1In_any _ _ _ _).mono ?_
                rw [ey.out]
                rintro e w' ⟨rfl, rfl⟩
                go_wp2_with fail
                go_ret2
                exact ⟨k, true, rfl, Or.inl ⟨HG.out, rfl, k, s, HS.out, ⟨by omega, by omega, by omega, by omega⟩, HD.out, rfl⟩, hBn.out _⟩
              · have ey : Hid (inB y s.y (s.y + s.d - 1) = false) := by show inB _ _ _ = false; simp [inB]; omega
                have step : ∀ (j : Nat) t, j < k + 1 → L[j]? = some t → ¬ InSq t x y := by
                  intro j t hj ht
                  by_cases e : j = k
                  · subst e
                    obtain rfl := Option.some.inj (HS.out.symm.trans ht)
                    unfold InSq; omega
                  · exact HD.out j t (by omega) ht
                have Step := Lib.hid step
                clear step iy
                go_wp2_with fail
                refine (l1In_any _ _ _ _).mono ?_
                rw [ex.out]
                rintro e w' ⟨rfl, rfl⟩
                go_wp2_with fail
                refine (l1In_any _ _ _ _).mono ?_
                rw [ey.out]
                rintro e w' ⟨rfl, rfl⟩
                go_wp2_with fail
                go_roundw
                case rel => exact ⟨k + 1, by omega, by go_num, hBn.out _, by simp; omega, Step.out⟩
                case measure => simp [intOf]; omega
            · have ex : Hid (inB x s.x (s.x + s.d - 1) = false) := by show inB _ _ _ = false; simp [inB]; omega
              have step : ∀ (j : Nat) t, j < k + 1 → L[j]? = some t → ¬ InSq t x y := by
                intro j t hj ht
                by_cases e : j = k
                · subst e
                  obtain rfl := Option.some.inj (HS.out.symm.trans ht)
                  unfold InSq; omega
                · exact HD.out j t (by omega) ht
              have Step := Lib.hid step
              clear step ix
              go_wp2_with fail
              refine (l1In_any _ _ _ _).mono ?_
              rw [ex.out]
              rintro e w' ⟨rfl, rfl⟩
              go_wp2_with fail
              go_roundw
              case rel => exact ⟨k + 1, by omega, by go_num, hBn.out _, by simp; omega, Step.out⟩
              case measure => simp [intOf]; omega
          · obtain rfl : k = L.length := by omega
            have HD := Lib.hid hdone
            clear hdone
            go_wp2_with fail
            go_ret2
            exact ⟨0, false, rfl, Or.inr ⟨Or.inr fun j t ht => HD.out j t (List.getElem?_eq_some_iff.1 ht).1 ht, rfl, rfl⟩, hbr⟩
      · have dy : Hid (inB y 0 (H - 1) = false) := by show inB _ _ _ = false; simp [inB]; omega
        have HG := Lib.hid hG
        have Z0 : Box w.heap.size w (w.alloc (.cells #[.int .i64 W, .int .i64 H, .slice A L.length c] 24)) W H A c L := Box.start hL
        go_enter Try.func37, Try.ntmps37
        go_wp2_with fail
        refine (callB_yes (cuGood_any W H A _ c L _ rfl hc ((hL.below (hb0 _)).mono (hb0 _).size)) hG).mono ?_
        rintro e w1 ⟨rfl, hb1⟩
        obtain ⟨hB1, hz1, b0, b1, b2, hL1⟩ := Z0.next hb1
        clear Z0 hb1
        go_wp2_with fail
        refine (l1In_any _ _ _ _).mono ?_
        rw [dx.out]
        rintro e w' ⟨rfl, rfl⟩
        go_wp2_with fail
        refine (l1In_any _ _ _ _).mono ?_
        rw [dy.out]
        rintro e w' ⟨rfl, rfl⟩
        go_wp2_with fail
        go_ret2
        exact ⟨0, false, rfl, Or.inr ⟨Or.inr fun j t ht => by have := (HG.out.2.2.2.1 j t ht).1; unfold Within at this; unfold InSq; omega, rfl, rfl⟩, hB1⟩
    · have dx : Hid (inB x 0 (W - 1) = false) := by show inB _ _ _ = false; simp [inB]; omega
      have HG := Lib.hid hG
      have Z0 : Box w.heap.size w (w.alloc (.cells #[.int .i64 W, .int .i64 H, .slice A L.length c] 24)) W H A c L := Box.start hL
      go_enter Try.func37, Try.ntmps37
      go_wp2_with fail
      refine (callB_yes (cuGood_any W H A _ c L _ rfl hc ((hL.below (hb0 _)).mono (hb0 _).size)) hG).mono ?_
      rintro e w1 ⟨rfl, hb1⟩
      obtain ⟨hB1, hz1, b0, b1, b2, hL1⟩ := Z0.next hb1
      clear Z0 hb1
      go_wp2_with fail
      refine (l1In_any _ _ _ _).mono ?_
      rw [dx.out]
      rintro e w' ⟨rfl, rfl⟩
      go_wp2_with fail
      go_ret2
      exact ⟨0, false, rfl, Or.inr ⟨Or.inr fun j t ht => by have := (HG.out.2.2.2.1 j t ht).1; unfold Within at this; unfold InSq; omega, rfl, rfl⟩, hB1⟩
  · go_enter Try.func37, Try.ntmps37
    go_wp2_with fail
    refine (callB_no (cuGood_any W H A _ c L _ rfl hc ((hL.below (hb0 _)).mono (hb0 _).size)) hG).mono ?_
    rintro e w1 ⟨rfl, hb1⟩
    go_wp2_with fail
    go_ret2
    exact ⟨0, false, rfl, Or.inr ⟨Or.inl hG, rfl, rfl⟩, (hb0 _).trans (hb1.mono (hb0 _).size)⟩
end Go.Proofs.Ytgghkimjminbaaa
