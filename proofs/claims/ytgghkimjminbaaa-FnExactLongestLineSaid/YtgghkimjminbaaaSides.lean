/- Contracts of SidesOf, the program's and the model's. -/
import Derived.Test.YtgghkimjminbaaaGen
set_option linter.all false
namespace Go.Proofs.Ytgghkimjminbaaa
open Go.RowKit

set_option maxHeartbeats 1000000 in
theorem specSides_any (W H : Int) (A : Option Addr) (n c : Nat) (L : List Sq) (w : World) (hl : L.length = n) (hc : n ≤ c) (hL : SqsAt w w.heap.size A L) :
    Calls Try.prog 17 #[.agg #[.int .i64 W, .int .i64 H, .slice A n c]] w (RetInts w (ifGood W H L (sides L)) (dc (Good W H L))) := by
  subst hl
  obtain ⟨i0, hi, hz0, hz1, hz2⟩ := info_parts infoInt
  have hb0 : ∀ o : Obj, Below w.heap.size w (w.alloc o) := fun o => (Below.refl _ _).alloc (Nat.le_refl _) o
  have Z0 : Box w.heap.size w (w.alloc (.cells #[.int .i64 W, .int .i64 H, .slice A L.length c] 24)) W H A c L := Box.start hL
  by_cases hG : Good W H L
  · rw [ifGood_yes hG, dc_true hG]
    go_enter Try.func17, Try.ntmps17
    go_wp2_with fail
    refine (callB_yes (cuGood_any W H A _ c L _ rfl hc ((hL.below (hb0 _)).mono (hb0 _).size)) hG).mono ?_
    rintro e w1 ⟨rfl, hb1⟩
    have Z1 := Z0.next hb1
    obtain ⟨hB1, hz1', b0, b1, b2, hL1⟩ := id Z1
    have hg30 := hG.2.2.1.2
    clear Z0 hb1 hb0
    go_wp2_with fail
    go_loopw [4, 13] (fun v i wr => ∃ k : Nat, k ≤ L.length ∧ i = .int .i64 k ∧ Below w.heap.size w wr ∧ w.heap.size < wr.heap.size ∧ wr.ownsRow w.heap.size 3 1 v k (ints (sides (L.take k)))) (fun _ i _ => L.length - (intOf i).toNat)
    case atStart => exact ⟨0, Nat.zero_le _, rfl, hB1, hz1', World.ownsRow_nil _ _ _ _⟩
    case round =>
      obtain ⟨k, hk, rfl, hbr, hzr, hown⟩ := hrel
      by_cases hlt : k < L.length
      · obtain ⟨s, hs⟩ : ∃ s, L[k]? = some s := ⟨_, List.getElem?_eq_getElem hlt⟩
        obtain ⟨b, off, rfl, hb, c0, c1, c2⟩ := (hL.below hbr) k s hs
        have HS := Lib.hid hs
        clear hs hL hL1 Z1 b0 b1 b2
        go_wp2_with (at_builtin; refine wpList_append_own _ rfl _ _ 26 rfl w.heap.size 3 i0 (.int .i64 0) 1 8 Try.underlying26 hi hz0 hz1 hz2 rfl (by decide) _ _ _ rfl ((hown.alloc _).alloc _) ⟨wr.heap.size + 1, 0, none⟩ 1 1 [.int .i64 s.d] rfl rfl ?c1 ?c2 ?c3 ?c4 ?c5 ?_)
        case c1 =>
          intro j u hj
          match j, hj with
          | 0, hj => simp at hj; subst hj; simp [Addr.add]
        case c2 => intro u hu; simp at hu; subst hu; rfl
        case c3 => unfold maxLen; omega
        case c4 => omega
        case c5 => simp <;> omega
        intro v' w2 hown2 hgrow _
        have hB2 : Below w.heap.size w w2 := ((hbr.alloc (by omega) _).alloc (by simp <;> omega) _).grown hgrow (by simp <;> omega) (fun k hk => (hown.lt k hk).1)
        have hZ2 : w.heap.size < w2.heap.size := by have := hgrow.size; simp at this; omega
        have HO : Hid (w2.ownsRow w.heap.size 3 1 v' (k + 1) (ints (sides (L.take (k + 1))))) := by
          show w2.ownsRow _ _ _ _ _ _
          rw [sides_take_succ L k s HS.out, ints_app]
          exact hown2
        clear hown hown2 hgrow
        go_wp2_with fail
        go_roundw
        case rel => exact ⟨k + 1, by omega, by go_num, hB2, hZ2, HO.out⟩
        case measure => simp [intOf]; omega
      · obtain rfl : k = L.length := by omega
        rw [List.take_of_length_le (Nat.le_refl _)] at hown
        obtain ⟨A', c', rfl⟩ := own_val hown
        go_wp2_with fail
        go_ret2
        exact RetInts.mk (sides_len L).symm hown hbr
  · rw [ifGood_no hG, dc_false hG]
    go_enter Try.func17, Try.ntmps17
    go_wp2_with fail
    refine (callB_no (cuGood_any W H A _ c L _ rfl hc ((hL.below (hb0 _)).mono (hb0 _).size)) hG).mono ?_
    rintro e w1 ⟨rfl, hb1⟩
    go_wp2_with fail
    go_ret2
    exact RetInts.none_ ((hb0 _).trans (hb1.mono (hb0 _).size))

set_option maxRecDepth 100000 in
set_option maxHeartbeats 1000000 in
theorem implSides_any (W H : Int) (A : Option Addr) (n c : Nat) (L : List Sq) (w : World) (hl : L.length = n) (hc : n ≤ c) (hL : SqsAt w w.heap.size A L) (hwf : ∀ s ∈ L, wfS s) :
    Calls Try.prog 16 #[.agg #[.int .i64 W, .int .i64 H, .slice A n c]] w (RetInts w (ifGood W H L (sides L)) (dc (Good W H L))) := by
  subst hl
  obtain ⟨i0, hi, hz0, hz1, hz2⟩ := info_parts infoInt
  have hb0 : ∀ o : Obj, Below w.heap.size w (w.alloc o) := fun o => (Below.refl _ _).alloc (Nat.le_refl _) o
  have Z0 : Box w.heap.size w (w.alloc (.cells #[.int .i64 W, .int .i64 H, .slice A L.length c] 24)) W H A c L := Box.start hL
  by_cases hG : Good W H L
  · rw [ifGood_yes hG, dc_true hG]
    have hg30 := hG.2.2.1.2
    have hg1 := hG.2.2.1.1
    go_enter Try.func16, Try.ntmps16
    go_wp2_with fail
    refine (callB_yes (isCut_good W H A _ c L _ rfl hc ((hL.below (hb0 _)).mono (hb0 _).size) hwf) hG).mono ?_
    rintro e w1 ⟨rfl, hb1⟩
    have Z1 := Z0.next hb1
    obtain ⟨hB1, hz1', b0, b1, b2, hL1⟩ := id Z1
    clear Z0 hb1 hb0
    go_wp2_with (at_make; refine wpList_make_full _ rfl _ _ 26 rfl w1.heap.size 3 i0 (.int .i64 0) 1 Try.underlying26 hi hz0 hz1 .i64 .i64 L.length L.length L.length rfl rfl rfl rfl (by rw [hz2]; omega) (by unfold maxLen; omega) (Nat.le_refl _) ?_; intro w2 hown hgrow; have hb2 : Below w1.heap.size w1 w2 := (Below.refl _ w1).grown hgrow (Nat.le_refl _) (by simp); have d2 := (hb2.cell (p := ⟨w.heap.size, 2, none⟩) hz1').trans b2)
    have hB2 := hB1.trans (hb2.mono hB1.size)
    have hZ2 := Nat.lt_of_lt_of_le hz1' hb2.size
    obtain ⟨g, hg⟩ : ∃ g, g = w1.heap.size := ⟨_, rfl⟩
    rw [← hg] at hown hz1' ⊢
    have hown := own_base hown (Nat.le_of_lt hz1')
    have HBg := Lib.hid hg
    clear hg hgrow hb2
    go_loopw [17] (fun i wr => ∃ k : Nat, k ≤ L.length ∧ i = .int .i64 k ∧ Below w.heap.size w wr ∧ w.heap.size < wr.heap.size ∧ ∃ xs, wr.ownsRow w.heap.size 3 1 (.slice (some ⟨g, 0, none⟩) L.length L.length) L.length xs ∧ xs.take k = ints (sides (L.take k))) (fun i _ => L.length - (intOf i).toNat)
    case atStart => exact ⟨0, Nat.zero_le _, rfl, hB2, hZ2, _, hown, by simp [ints, sides]⟩
    case round =>
      obtain ⟨k, hk, rfl, hbr, hzr, xs, hown1, htake⟩ := hrel
      by_cases hlt : k < L.length
      · obtain ⟨s, hs⟩ : ∃ s, L[k]? = some s := ⟨_, List.getElem?_eq_getElem hlt⟩
        obtain ⟨b, off, rfl, hb, c0, c1, c2⟩ := (hL.below hbr) k s hs
        have HS := Lib.hid hs
        have HT := Lib.hid htake
        have hgl := (own_lt hown1).2
        have hgb := (own_lt hown1).1
        obtain ⟨v0, e0⟩ := own_some hown1 (j := k) (by omega)
        have f0 := hown1.frozenAt k
        have hx := hown1.1
        clear hs hL hL1 Z1 b0 b1 b2 d2 hown htake
        go_wp2_with fail
        have R := fun o : Obj => (hown1.stored k (.int .i64 s.d)).1.alloc o
        have hB3 := fun o : Obj => (hbr.setCell (p := ⟨g, k, none⟩) hgb (.int .i64 s.d)).alloc (by simp <;> omega) o
        have HR := Lib.hid R
        have HB := Lib.hid hB3
        clear R hB3 hown1
        go_roundw
        case rel => exact ⟨k + 1, by omega, by go_num, HB.out _, by simp; omega, _, HR.out _, by rw [take_set1 _ _ _ (by omega), HT.out, sides_take_succ L k s HS.out, ints_app]; rfl⟩
        case measure => simp [intOf]; omega
      · obtain rfl : k = L.length := by omega
        have hx := hown1.1
        rw [List.take_of_length_le (by omega), List.take_of_length_le (Nat.le_refl _)] at htake
        subst htake
        go_wp2_with fail
        go_ret2
        exact RetInts.mk (sides_len L).symm hown1 hbr
  · rw [ifGood_no hG, dc_false hG]
    go_enter Try.func16, Try.ntmps16
    go_wp2_with fail
    refine (callB_no (isCut_good W H A _ c L _ rfl hc ((hL.below (hb0 _)).mono (hb0 _).size) hwf) hG).mono ?_
    rintro e w1 ⟨rfl, hb1⟩
    go_wp2_with fail
    go_ret2
    exact RetInts.none_ ((hb0 _).trans (hb1.mono (hb0 _).size))
end Go.Proofs.Ytgghkimjminbaaa
