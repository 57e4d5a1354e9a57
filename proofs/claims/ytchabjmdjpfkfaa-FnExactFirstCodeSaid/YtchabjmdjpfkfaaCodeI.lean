/- Contract of the program's CodeOf. -/
import Derived.Test.YtchabjmdjpfkfaaEach
set_option linter.all false
namespace Go.Proofs.Ytchabjmdjpfkfaa
open Go.RowKit

theorem good_fine {W H : Int} {L : List Sq} (hG : Good W H L) : ∀ s ∈ L, Fine s := fun s hs => by
  obtain ⟨j, hj⟩ := List.mem_iff_getElem?.1 hs
  exact (hG.2.2.2.1 j s hj).1.fine hG.1.2 hG.2.1.2

set_option maxRecDepth 100000 in
set_option maxHeartbeats 4000000 in
theorem implCode_any (W H : Int) (A : Option Addr) (n c : Nat) (L : List Sq) (w : World) (hl : L.length = n) (hc : n ≤ c) (hL : SqsAt w w.heap.size A L) (hwf : ∀ s ∈ L, wfS s) :
    Calls Try.prog 95 #[.agg #[.int .i64 W, .int .i64 H, .slice A n c]] w (RetSS w (ifGood W H L (glists (grps L))) (dc (Good W H L))) := by
  subst hl
  have hb0 : ∀ o : Obj, Below w.heap.size w (w.alloc o) := fun o => (Below.refl _ _).alloc (Nat.le_refl _) o
  have Z0 : Box w.heap.size w (w.alloc (.cells #[.int .i64 W, .int .i64 H, .slice A L.length c] 50)) W H A c L := Box.start hL
  by_cases hG : Good W H L
  · rw [ifGood_yes hG, dc_true hG]
    have hg30 := hG.2.2.1.2
    have hfine := good_fine hG
    go_enter Try.func95, Try.ntmps95
    go_wp2_with fail
    refine (callB_yes (isCut_good W H A _ c L _ rfl hc ((hL.below (hb0 _)).mono (hb0 _).size) hwf) hG).mono ?_
    rintro e w1 ⟨rfl, hb1⟩
    have Z1 := Z0.next hb1
    obtain ⟨hB1, hz1, b0, b1, b2, hL1⟩ := id Z1
    clear Z0 hb1 hb0 hG
    go_wp2_with fail
    refine (groupsOf_any A L.length c L _ rfl hg30 (hL1.mono hB1.size) hfine).mono ?_
    rintro e w2 ⟨A2, c2, G, rfl, hG, hO, hb2⟩
    have hlen : G.length ≤ 30 := by
      have e2 := congrArg List.length hG
      have := (grps_bd L L.length).1
      rw [List.take_of_length_le (Nat.le_refl _)] at this
      simp only [asG, List.length_map] at e2
      omega
    have HGG := Lib.hid hG
    clear hG b0 b1 b2 Z1 hL1 hL
    go_wp2_with fail
    refine (eachL_any A2 G.length c2 _ G w2 (by omega) hO).mono ?_
    rintro e w3 ⟨rfl, hown3, hb3⟩
    have hfin : OwnSS w3 w.heap.size (some ⟨w2.heap.size, 0, none⟩) G.length G.length (rowsG G) :=
      ⟨by simp [rowsG], by rw [show vals (rowsG G) = G.map fun g => Value.slice g.r.A g.r.L.length g.r.c by simp [vals, rowsG, Rw.val]]; exact own_base hown3 (Nat.le_trans hB1.size hb2.size),
        (hO.inner.base hB1.size).below hb3 (Nat.le_refl _), fun r hr k hk e => by simp [Value.ownBlock] at e; have := (hO.inner.lt hr hk).2; omega⟩
    have hBF := (hB1.trans (hb2.mono hB1.size)).trans (hb3.mono (Nat.le_trans hB1.size hb2.size))
    clear hO hown3
    go_wp2_with fail
    go_ret2
    exact RetSS.mk (by rw [rows_asG, HGG.out]) hfin hBF
  · rw [ifGood_no hG, dc_false hG]
    go_enter Try.func95, Try.ntmps95
    go_wp2_with fail
    refine (callB_no (isCut_good W H A _ c L _ rfl hc ((hL.below (hb0 _)).mono (hb0 _).size) hwf) hG).mono ?_
    rintro e w1 ⟨rfl, hb1⟩
    go_wp2_with fail
    go_ret2
    exact RetSS.none_ ((hb0 _).trans (hb1.mono (hb0 _).size))
end Go.Proofs.Ytchabjmdjpfkfaa
