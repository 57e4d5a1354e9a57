/- Contract of the program's LevelsOf. -/
import Derived.Test.YtmjdmedlkcmgiaaLevG
import Derived.Test.YtmjdmedlkcmgiaaCodeI
import Derived.Test.YtmjdmedlkcmgiaaShelf
import Derived.Sort.OwnSortedInts
set_option linter.all false
namespace Go.Proofs.Ytmjdmedlkcmgiaa
open Go.RowKit

theorem own_short {w : World} {base g cap n : Nat} {X Y : List Value} (h : w.ownsRow base 3 1 (.slice (some ⟨g, 0, none⟩) n cap) n (X ++ Y)) : w.ownsRow base 3 1 (.slice (some ⟨g, 0, none⟩) X.length cap) X.length X := by
  have hl := h.1
  rw [List.length_append] at hl
  rcases h.2 with ⟨hv, _⟩ | ⟨g', cap', cur, hv, hb, hh, h1, h2, h3, h4⟩
  · cases hv
  · cases hv
    refine ⟨by omega, .inr ⟨_, _, cur, rfl, hb, hh, by omega, h2, h3, ?_⟩⟩
    have e := congrArg (List.take X.length) h4
    rw [List.take_take, List.take_left, show min X.length (n * 1) = X.length by omega] at e
    rw [Nat.mul_one]
    exact e
theorem compact_ret (g cap base : Nat) (T : List Int) (w : World) (h30 : T.length ≤ 30) (ho : w.ownsRow base 3 1 (.slice (some ⟨g, 0, none⟩) T.length cap) T.length (ints T)) :
    Calls Try.prog 77 #[.slice (some ⟨g, 0, none⟩) T.length cap] w fun e w' => e = .returned (.slice (some ⟨g, 0, none⟩) (Lib.compact T).length cap) ∧ w'.ownsRow base 3 1 (.slice (some ⟨g, 0, none⟩) (Lib.compact T).length cap) (Lib.compact T).length (ints (Lib.compact T)) ∧ w.grownBy w' (some g) := by
  rcases ho.2 with ⟨hv, _⟩ | ⟨g', cap', cur, hv, hb, hh, h1, h2, h3, h4⟩
  · cases hv
  · cases hv
    have hH : Sort.Holds (Value.int .i64) w g 0 T.toArray := holds_of_blockI hh (by simpa [ints] using h4)
    refine (Try.slices_Compact_int g 0 cap T w hH (by omega) h1).mono ?_
    rintro e w' ⟨rfl, q, rfl⟩
    have hcl : (Lib.compact T).length ≤ T.length := by
      unfold Lib.compact Lib.compactUpTo
      rw [List.length_map]
      exact Nat.le_trans (List.length_filter_le _ _) (by simp)
    have g1 := grownBy_sortedI (w := w) (g := g) (n := q) (os := #[]) (Lib.compact T ++ List.replicate (T.length - (Lib.compact T).length) 0).toArray
    have o1 : (Sort.grow (Sort.putRow (Value.int .i64) (Sort.ahead w q) g 0 (Lib.compact T ++ List.replicate (T.length - (Lib.compact T).length) 0).toArray) #[]).ownsRow base 3 1 (.slice (some ⟨g, 0, none⟩) T.length cap) T.length ((Lib.compact T ++ List.replicate (T.length - (Lib.compact T).length) 0).map (Value.int .i64)) := ownsRow_sortedI (by simp; omega) hb hh h1 h2 h3
    refine ⟨rfl, ?_, by simpa using g1⟩
    have o2 : (Sort.putRow (Value.int .i64) (Sort.ahead w q) g 0 (Lib.compact T ++ List.replicate (T.length - (Lib.compact T).length) 0).toArray).ownsRow base 3 1 (.slice (some ⟨g, 0, none⟩) T.length cap) T.length (ints (Lib.compact T) ++ ints (List.replicate (T.length - (Lib.compact T).length) 0)) := by
      rw [← ints_app]; simpa [ints] using o1
    have o3 := own_short o2
    rw [ints_len] at o3
    exact o3

set_option maxRecDepth 100000 in
set_option maxHeartbeats 8000000 in
theorem implLev_any (W H : Int) (A : Option Addr) (n c : Nat) (L : List Sq) (w : World) (hl : L.length = n) (hc : n ≤ c) (hL : SqsAt w w.heap.size A L) (hwf : ∀ s ∈ L, wfS s) :
    Calls Try.prog 39 #[.agg #[.int .i64 W, .int .i64 H, .slice A n c]] w (RetInts w (ifGood W H L (lev L L.length)) (dc (Good W H L))) := by
  subst hl
  have hb0 : ∀ o : Obj, Below w.heap.size w (w.alloc o) := fun o => (Below.refl _ _).alloc (Nat.le_refl _) o
  have Z0 : Box w.heap.size w (w.alloc (.cells #[.int .i64 W, .int .i64 H, .slice A L.length c] 31)) W H A c L := Box.start hL
  by_cases hG : Good W H L
  · rw [ifGood_yes hG, dc_true hG]
    have hg30 := hG.2.2.1.2
    have hfine := good_fine hG
    have hlc := lev_compact L (good_pair hG) L.length (Nat.le_refl _)
    rw [List.take_of_length_le (Nat.le_refl _)] at hlc
    have HLC := Lib.hid hlc
    clear hlc
    go_enter Try.func39, Try.ntmps39
    go_wp2_with fail
    refine (callB_yes (isCut_good W H A _ c L _ rfl hc ((hL.below (hb0 _)).mono (hb0 _).size) hwf) hG).mono ?_
    rintro e w1 ⟨rfl, hb1⟩
    have Z1 := Z0.next hb1
    obtain ⟨hB1, hz1, b0, b1, b2, hL1⟩ := id Z1
    clear Z0 hb1 hb0 hG
    go_wp2_with fail
    refine (groupsOf_any A L.length c L _ rfl hg30 (hL1.mono hB1.size) hfine).mono ?_
    rintro e w2 ⟨A2, c2, G, rfl, hG, hO, hb2⟩
    have hlen : G.length ≤ 30 := by
      have e2 := congrArg List.length hG
      have := (grps_bd L L.length).1
      rw [List.take_of_length_le (Nat.le_refl _)] at this
      simp only [asG, List.length_map] at e2
      omega
    have hT : G.map (fun g => g.s.y) = ys (grps L) := by rw [← hG]; simp [ys, asG]
    have HGG := Lib.hid hG
    clear hG b0 b1 b2 Z1 hL1 hL
    go_wp2_with fail
    refine (eachI_any A2 G.length c2 _ G w2 (by omega) hO).mono ?_
    rintro e w3 ⟨rfl, hown3, hb3⟩
    have hBF := (hB1.trans (hb2.mono hB1.size)).trans (hb3.mono (Nat.le_trans hB1.size hb2.size))
    have hlT : (G.map fun g => g.s.y).length = G.length := by simp
    have hown4 : w3.ownsRow w2.heap.size 3 1 (.slice (some ⟨w2.heap.size, 0, none⟩) (G.map fun g => g.s.y).length G.length) (G.map fun g => g.s.y).length (ints (G.map fun g => g.s.y)) := by
      rw [hlT, show ints (G.map fun g => g.s.y) = G.map fun g => Value.int .i64 g.s.y by simp [ints]]; exact hown3
    have CC := compact_ret w2.heap.size G.length w2.heap.size _ w3 (by rw [hlT]; exact hlen) hown4
    rw [hlT, hT, HLC.out] at CC
    have hws : w.heap.size ≤ w2.heap.size := Nat.le_trans hB1.size hb2.size
    clear hO hown3 hown4 hT hlT hb3
    go_wp2_with fail
    refine CC.mono ?_
    rintro e w4 ⟨rfl, ho4, hg4⟩
    have hBG := hBF.grown hg4 hBF.size (fun k hk => by cases hk; exact hws)
    go_wp2_with fail
    go_ret2
    exact RetInts.mk rfl (own_base ho4 hws) hBG
  · rw [ifGood_no hG, dc_false hG]
    go_enter Try.func39, Try.ntmps39
    go_wp2_with fail
    refine (callB_no (isCut_good W H A _ c L _ rfl hc ((hL.below (hb0 _)).mono (hb0 _).size) hwf) hG).mono ?_
    rintro e w1 ⟨rfl, hb1⟩
    go_wp2_with fail
    go_ret2
    exact RetInts.none_ ((hb0 _).trans (hb1.mono (hb0 _).size))
end Go.Proofs.Ytmjdmedlkcmgiaa
