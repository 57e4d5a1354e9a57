/- Currents that are asked of nets: the program's test. -/
import Derived.Test.YthifflekbdeafaaNetH1
import Derived.Test.YthifflekbdeafaaNetQ
import Derived.Test.YthifflekbdeafaaShelf
namespace Go.Proofs.Ythifflekbdeafaa
open Go.RowKit

set_option maxRecDepth 100000 in
set_option maxHeartbeats 2000000 in
theorem areCurrents_any (N : Int) (A : Option Addr) (n c : Nat) (L : List Wi) (Ac : Option Addr) (nc cc : Nat) (cs : List Int) (w : World) (hl : L.length = n) (hlc : cs.length = nc) (hn9 : n ≤ 9223372036854775807) (hnc : nc ≤ 1048576) (hL : WisAt w w.heap.size A L) (hC : IntsAt w w.heap.size Ac cs) (hN : wfI N) :
    Calls Try.prog 59 #[.agg #[.int .i64 N, .slice A n c], .slice Ac nc cc] w (RetB w (Asked N L cs)) := by
  subst hl
  subst hlc
  obtain ⟨W1, hW1⟩ : ∃ W1, W1 = w.alloc (.cells #[.int .i64 N, .slice A L.length c] 31) := ⟨_, rfl⟩
  have q1 : Nx w.heap.size W1 N A L.length c := by rw [hW1]; exact Nx.start _ _ _ _ _ _
  have hB1 : Below w.heap.size w W1 := by rw [hW1]; exact (Below.refl _ _).alloc (Nat.le_refl _) _
  obtain ⟨B, hB⟩ : ∃ B, w.heap.size = B := ⟨_, rfl⟩
  rw [hB] at q1 hL hC hB1
  by_cases hG : NetG N L
  · by_cases h2 : cs.length = L.length
    · have e2 : ((cs.length : Int) == (L.length : Int)) = true := by simp; omega
      have h0 : 0 < cs.length := by have := hG.2.1.1; omega
      obtain ⟨b, off, rfl⟩ := ints_addr hC h0
      obtain ⟨p, hp⟩ : ∃ p, Lib.maxOf (cs.take cs.length) = p := ⟨_, rfl⟩
      obtain ⟨q, hq⟩ : ∃ q, Lib.minOf (cs.take cs.length) = q := ⟨_, rfl⟩
      have hpi := max_le (f := cs) (B := 1000000) h0
      have hqi := min_ge (f := cs) (B := -1000000) h0
      rw [hp] at hpi
      rw [hq] at hqi
      have HMX : Hid (∀ w' : World, Below B w w' → Calls Try.prog 101 #[.slice (some ⟨b, off, none⟩) cs.length cc] w' fun e w'' => e = .returned (.int .i64 p) ∧ w'' = w') := Lib.hid fun w' hb => by
        have := Try.slices_Max_int b off cs.length cc cs w' h0 (Nat.le_refl _) (by omega) (cells_ints (hC.below hb))
        rwa [hp] at this
      have HMN : Hid (∀ w' : World, Below B w w' → Calls Try.prog 102 #[.slice (some ⟨b, off, none⟩) cs.length cc] w' fun e w'' => e = .returned (.int .i64 q) ∧ w'' = w') := Lib.hid fun w' hb => by
        have := Try.slices_Min_int b off cs.length cc cs w' h0 (Nat.le_refl _) (by omega) (cells_ints (hC.below hb))
        rwa [hq] at this
      have HIF : Hid (Asked N L cs ↔ p ≤ 1000000 ∧ -1000000 ≤ q) := Lib.hid (by
        rw [hpi, hqi]
        exact ⟨fun g => ⟨fun x hx => (g.2.2 x hx).2, fun x hx => (g.2.2 x hx).1⟩, fun g => ⟨hG, h2, fun x hx => ⟨g.2 x hx, g.1 x hx⟩⟩⟩)
      clear hp hq hpi hqi h2
      go_enter Try.func59, Try.ntmps59
      go_wp2_with fail
      rw [← hW1]
      clear hW1
      refine (callB_yes (isNet_any N A _ c L _ rfl ((hL.below hB1).mono (Nat.le_of_lt q1.lt)) hN hn9) hG).mono ?_
      rintro e w2 ⟨rfl, hb2⟩
      have q2 := q1.next hb2
      have hB2 := hB1.trans (hb2.mono (Nat.le_of_lt q1.lt))
      obtain ⟨hz, n0, n1⟩ := id q2
      clear q1 hb2 hB1 hG
      go_wp2_with fail
      refine (HMX.out w2 hB2).mono ?_
      rintro e w3 ⟨rfl, rfl⟩
      by_cases h3 : p ≤ 1000000
      · go_wp2_with fail
        refine (HMN.out w3 hB2).mono ?_
        rintro e w4 ⟨rfl, rfl⟩
        go_wp2_with fail
        go_ret
        refine RetB.mk ?_ (by rw [hB]; exact hB2)
        rw [HIF.out]
        simp
        omega
      · have HNO : Hid (¬ Asked N L cs) := Lib.hid fun g => h3 (HIF.out.1 g).1
        go_wp2_with fail
        go_ret
        exact RetB.no HNO.out (by rw [hB]; exact hB2)
    · have HNO : Hid (¬ Asked N L cs) := Lib.hid (asked_no2 h2)
      have e2 : ((cs.length : Int) == (L.length : Int)) = false := by simp; omega
      clear h2
      go_enter Try.func59, Try.ntmps59
      go_wp2_with fail
      rw [← hW1]
      clear hW1
      refine (callB_yes (isNet_any N A _ c L _ rfl ((hL.below hB1).mono (Nat.le_of_lt q1.lt)) hN hn9) hG).mono ?_
      rintro e w2 ⟨rfl, hb2⟩
      have q2 := q1.next hb2
      have hB2 := hB1.trans (hb2.mono (Nat.le_of_lt q1.lt))
      obtain ⟨hz, n0, n1⟩ := id q2
      clear q1 hb2 hB1 hG
      go_wp2_with fail
      go_ret
      exact RetB.no HNO.out (by rw [hB]; exact hB2)
  · have HNO : Hid (¬ Asked N L cs) := Lib.hid (asked_no1 hG)
    go_enter Try.func59, Try.ntmps59
    go_wp2_with fail
    rw [← hW1]
    clear hW1
    refine (callB_no (isNet_any N A _ c L _ rfl ((hL.below hB1).mono (Nat.le_of_lt q1.lt)) hN hn9) hG).mono ?_
    rintro e w2 ⟨rfl, hb2⟩
    have hB2 := hB1.trans (hb2.mono (Nat.le_of_lt q1.lt))
    clear hG
    go_wp2_with fail
    go_ret
    exact RetB.no HNO.out (by rw [hB]; exact hB2)
end Go.Proofs.Ythifflekbdeafaa
