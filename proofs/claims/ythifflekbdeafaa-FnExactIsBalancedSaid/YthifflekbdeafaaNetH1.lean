/- Currents that are asked of nets: the program's and the model's tests. -/
import Derived.Test.YthifflekbdeafaaNetF
import Derived.Test.YthifflekbdeafaaNetK
import Derived.Test.YthifflekbdeafaaFillS
namespace Go.Proofs.Ythifflekbdeafaa
open Go.RowKit

theorem cells_ints {w : World} {B b off : Nat} {f : List Int} (h : IntsAt w B (some ⟨b, off, none⟩) f) : ∀ j, j < f.length → w.cell? ⟨b, off + j, none⟩ = some (.int .i64 (f.getD j 0)) := by
  intro j hj
  obtain ⟨b', off', e, _, c⟩ := h j _ (List.getElem?_eq_getElem hj)
  cases e
  rw [c]
  simp [List.getD, List.getElem?_eq_getElem hj]
theorem ints_addr {w : World} {B : Nat} {A : Option Addr} {f : List Int} (h : IntsAt w B A f) (h0 : 0 < f.length) : ∃ b off, A = some ⟨b, off, none⟩ := by
  obtain ⟨b, off, e, _⟩ := h 0 _ (List.getElem?_eq_getElem h0)
  exact ⟨b, off, e⟩
theorem asked_no1 {N : Int} {L : List Wi} {cs : List Int} (h : ¬ NetG N L) : ¬ Asked N L cs := fun g => h g.1
theorem asked_no2 {N : Int} {L : List Wi} {cs : List Int} (h : ¬ cs.length = L.length) : ¬ Asked N L cs := fun g => h g.2.1
set_option maxRecDepth 100000 in
set_option maxHeartbeats 2000000 in
theorem neAsked_any (N : Int) (A : Option Addr) (n c : Nat) (L : List Wi) (Ac : Option Addr) (nc cc : Nat) (cs : List Int) (w : World) (hl : L.length = n) (hlc : cs.length = nc) (hn : n ≤ 1048576) (hnc : nc ≤ 1048576) (hL : WisAt w w.heap.size A L) (hC : IntsAt w w.heap.size Ac cs) :
    Calls Try.prog 57 #[.agg #[.int .i64 N, .slice A n c], .slice Ac nc cc] w (RetB w (Asked N L cs)) := by
  subst hl
  subst hlc
  obtain ⟨W1, hW1⟩ : ∃ W1, W1 = w.alloc (.cells #[.int .i64 N, .slice A L.length c] 31) := ⟨_, rfl⟩
  have q1 : Nx w.heap.size W1 N A L.length c := by rw [hW1]; exact Nx.start _ _ _ _ _ _
  have hB1 : Below w.heap.size w W1 := by rw [hW1]; exact (Below.refl _ _).alloc (Nat.le_refl _) _
  obtain ⟨B, hB⟩ : ∃ B, w.heap.size = B := ⟨_, rfl⟩
  rw [hB] at q1 hL hC hB1
  by_cases hG : NetG N L
  · by_cases h2 : cs.length = L.length
    · have e2 : ((cs.length : Int) == (L.length : Int)) = true := by simp; omega
      have H2 := Lib.hid h2
      clear h2
      go_enter Try.func57, Try.ntmps57
      go_wp2_with fail
      rw [← hW1]
      clear hW1
      refine (callB_yes (neGood_any N A _ c L _ rfl hn ((hL.below hB1).mono (Nat.le_of_lt q1.lt))) hG).mono ?_
      rintro e w2 ⟨rfl, hb2⟩
      have q2 := q1.next hb2
      have hB2 := hB1.trans (hb2.mono (Nat.le_of_lt q1.lt))
      obtain ⟨hz, n0, n1⟩ := id q2
      clear q1 hb2 hB1
      go_wp2_with fail
      by_cases h3 : ∀ x ∈ cs, -1000000 ≤ x ∧ x ≤ 1000000
      · have HY : Hid (Asked N L cs) := Lib.hid ⟨hG, H2.out, h3⟩
        refine (callB_yes (l1All_any Ac _ cc cs (-1000000) 1000000 w2 rfl hnc ((hC.below hB2).mono (Nat.le_of_lt hz))) h3).mono ?_
        rintro e w3 ⟨rfl, hb3⟩
        have hB3 := hB2.trans (hb3.mono (Nat.le_of_lt hz))
        clear h3 hG
        go_wp2_with fail
        go_ret
        exact RetB.mk ⟨fun _ => HY.out, fun _ => rfl⟩ (by rw [hB]; exact hB3)
      · have HNO : Hid (¬ Asked N L cs) := Lib.hid fun g => h3 g.2.2
        refine (callB_no (l1All_any Ac _ cc cs (-1000000) 1000000 w2 rfl hnc ((hC.below hB2).mono (Nat.le_of_lt hz))) h3).mono ?_
        rintro e w3 ⟨rfl, hb3⟩
        have hB3 := hB2.trans (hb3.mono (Nat.le_of_lt hz))
        clear h3 hG
        go_wp2_with fail
        go_ret
        exact RetB.no HNO.out (by rw [hB]; exact hB3)
    · have HNO : Hid (¬ Asked N L cs) := Lib.hid (asked_no2 h2)
      have e2 : ((cs.length : Int) == (L.length : Int)) = false := by simp; omega
      clear h2
      go_enter Try.func57, Try.ntmps57
      go_wp2_with fail
      rw [← hW1]
      clear hW1
      refine (callB_yes (neGood_any N A _ c L _ rfl hn ((hL.below hB1).mono (Nat.le_of_lt q1.lt))) hG).mono ?_
      rintro e w2 ⟨rfl, hb2⟩
      have q2 := q1.next hb2
      have hB2 := hB1.trans (hb2.mono (Nat.le_of_lt q1.lt))
      obtain ⟨hz, n0, n1⟩ := id q2
      clear q1 hb2 hB1 hG
      go_wp2_with fail
      go_ret
      exact RetB.no HNO.out (by rw [hB]; exact hB2)
  · have HNO : Hid (¬ Asked N L cs) := Lib.hid (asked_no1 hG)
    go_enter Try.func57, Try.ntmps57
    go_wp2_with fail
    rw [← hW1]
    clear hW1
    refine (callB_no (neGood_any N A _ c L _ rfl hn ((hL.below hB1).mono (Nat.le_of_lt q1.lt))) hG).mono ?_
    rintro e w2 ⟨rfl, hb2⟩
    have hB2 := hB1.trans (hb2.mono (Nat.le_of_lt q1.lt))
    clear hG
    go_wp2_with fail
    go_ret
    exact RetB.no HNO.out (by rw [hB]; exact hB2)
end Go.Proofs.Ythifflekbdeafaa
