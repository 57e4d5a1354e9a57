/- LinesOf, the program's and the model's. -/
import Derived.Test.YtnnhgblgbbfmpaaLnP
set_option linter.all false
namespace Go.Proofs.Ytnnhgblgbbfmpaa
open Go.RowKit

namespace M
def leLn (r t : Ln) : Bool := decide (r.y < t.y) || (decide (r.y = t.y) && decide (r.a ≤ t.a))
theorem leLn_iff {r t : Ln} : leLn r t = true ↔ r.y < t.y ∨ r.y = t.y ∧ r.a ≤ t.a := by simp [leLn]
theorem mg_ex {T : List Ln} (hne : ∀ t ∈ T, t.a < t.b) (hT : T.Pairwise fun r t => r.y < t.y ∨ r.y = t.y ∧ r.b ≤ t.a) (k : Nat) (hk : k ≤ T.length) : ∃ R, Mg T k R ∧ R.length ≤ k := by
  induction k with
  | zero => exact ⟨[], Mg.start T, Nat.le_refl _⟩
  | succ k ih =>
    obtain ⟨R, hR, hl⟩ := ih (by omega)
    obtain ⟨t, ht⟩ : ∃ t, T[k]? = some t := ⟨_, List.getElem?_eq_getElem (by omega)⟩
    by_cases h : ∃ R1 l, R = R1 ++ [l] ∧ l.y = t.y ∧ l.b = t.a
    · obtain ⟨R1, l, rfl, h1, h2⟩ := h
      exact ⟨_, hR.merge hne ht h1 h2, by simp at hl ⊢; omega⟩
    · exact ⟨_, hR.add hne hT ht fun R1 l e q => h ⟨R1, l, e, q⟩, by simp; omega⟩
theorem lines_ex {L : List Sq} {W H : Nat} (hC : Cut L W H) (hW : 1 ≤ W) (hH : 1 ≤ H) (hL : L.length ≤ 30) : ∃ R, IsLines (Side L) R ∧ R.length ≤ 31 := by
  have hp : ((sidesOf W L).mergeSort leLn).Perm (sidesOf W L) := List.mergeSort_perm _ _
  have hs : ((sidesOf W L).mergeSort leLn).Pairwise fun r t => r.y < t.y ∨ r.y = t.y ∧ r.a ≤ t.a :=
    (List.pairwise_mergeSort (le := leLn) (fun a b c h1 h2 => by rw [leLn_iff] at *; omega) (fun a b => by rw [Bool.or_eq_true, leLn_iff, leLn_iff]; omega) _).imp fun h => leLn_iff.1 h
  obtain ⟨R, hR, hl⟩ := mg_ex (fun t ht => sides_ne hC hW t (hp.mem_iff.1 ht)) (sides_sorted hC hW hp hs) _ (Nat.le_refl _)
  refine ⟨R, hR.done fun y x => ?_, ?_⟩
  · rw [side_iff hC hH y x]
    constructor
    · rintro ⟨q, hq, h⟩
      exact ⟨q, hp.mem_iff.2 hq, h⟩
    · rintro ⟨q, hq, h⟩
      exact ⟨q, hp.mem_iff.1 hq, h⟩
  · have e : (sidesOf W L).length = L.length + 1 := by simp [sidesOf]
    rw [hp.length_eq, e] at hl
    omega
/-- The lines. -/
noncomputable def linesC (L : List Sq) : List Ln := Classical.epsilon (IsLines (Side L))
theorem lines_is {L : List Sq} {R : List Ln} (h : IsLines (Side L) R) : R = linesC L := h.uniq (Classical.epsilon_spec (p := IsLines (Side L)) ⟨R, h⟩)
end M
theorem lines_room {W H : Int} {L : List Sq} (hG : Good W H L) : (M.linesC L).length ≤ 31 := by
  obtain ⟨a, b, ha, hb, hC⟩ := cut_of_good hG
  have h1 := hG.1.1
  have h2 := hG.2.1.1
  obtain ⟨R, hR, hl⟩ := M.lines_ex hC (by omega) (by omega) hG.2.2.1.2
  rw [← M.lines_is hR]
  exact hl
theorem lines_room2 {W H : Int} {L : List Sq} (hG : Good W H L) : (lnL (M.linesC L)).length + tot (lnL (M.linesC L)) ≤ 1048576 := by
  have := lines_room hG
  rw [lnL_len, lnL_tot]
  omega

set_option maxRecDepth 100000 in
set_option maxHeartbeats 4000000 in
theorem implLines_any (W H : Int) (A : Option Addr) (n c : Nat) (L : List Sq) (w : World) (hl : L.length = n) (hc : n ≤ c) (hL : SqsAt w w.heap.size A L) (hwf : ∀ s ∈ L, wfS s) :
    Calls Try.prog 38 #[.agg #[.int .i64 W, .int .i64 H, .slice A n c]] w (RetSS w (ifGood W H L (lnL (M.linesC L))) (dc (Good W H L))) := by
  have hb0 : ∀ o : Obj, Below w.heap.size w (w.alloc o) := fun o => (Below.refl _ _).alloc (Nat.le_refl _) o
  by_cases hG : Good W H L
  · rw [ifGood_yes hG, dc_true hG]
    obtain ⟨a, b, rfl, rfl, hC⟩ := cut_of_good hG
    refine (implLines_good a b A n c L w hl hc hL hwf hG hC).mono ?_
    rintro e w' ⟨R, hR, _, hret⟩
    rw [← M.lines_is hR]
    exact hret
  · subst hl
    rw [ifGood_no hG, dc_false hG]
    go_enter Try.func38, Try.ntmps38
    go_wp2_with fail
    refine (callB_no (isCut_good W H A _ c L _ rfl hc ((hL.below (hb0 _)).mono (hb0 _).size) hwf) hG).mono ?_
    rintro e w1 ⟨rfl, hb1⟩
    go_wp2_with fail
    go_ret2
    exact RetSS.none_ ((hb0 _).trans (hb1.mono (hb0 _).size))

set_option maxRecDepth 100000 in
set_option maxHeartbeats 4000000 in
theorem specLines_any (W H : Int) (A : Option Addr) (n c : Nat) (L : List Sq) (w : World) (hl : L.length = n) (hc : n ≤ c) (hL : SqsAt w w.heap.size A L) :
    Calls Try.prog 37 #[.agg #[.int .i64 W, .int .i64 H, .slice A n c]] w (RetSS w (ifGood W H L (lnL (M.linesC L))) (dc (Good W H L))) := by
  subst hl
  have hb0 : ∀ o : Obj, Below w.heap.size w (w.alloc o) := fun o => (Below.refl _ _).alloc (Nat.le_refl _) o
  have Z0 : Box w.heap.size w (w.alloc (.cells #[.int .i64 W, .int .i64 H, .slice A L.length c] 28)) W H A c L := Box.start hL
  by_cases hG : Good W H L
  · rw [ifGood_yes hG, dc_true hG]
    obtain ⟨a, b, rfl, rfl, hC⟩ := cut_of_good hG
    have HC := Lib.hid hC
    have HG := Lib.hid hG
    go_enter Try.func37, Try.ntmps37
    go_wp2_with fail
    refine (callB_yes (cuGood_any a b A _ c L _ rfl hc ((hL.below (hb0 _)).mono (hb0 _).size)) hG).mono ?_
    rintro e w1 ⟨rfl, hb1⟩
    have Z1 := Z0.next hb1
    obtain ⟨hB1, hz1, b0, b1, b2, hL1⟩ := id Z1
    have CN := neLines_any a b A L.length c L w1 rfl hc HG.out HC.out (hL1.mono hB1.size)
    clear Z0 hb1 hb0 hG hC hL hL1
    go_wp2_with fail
    (with_reducible refine CN.mono ?_)
    rintro e w2 ⟨R, hR, _, A2, c2, RW, rfl, hM, hS, hb2⟩
    have e := M.lines_is hR
    have HE := Lib.hid e
    have HM := Lib.hid hM
    have hB2 := hB1.trans (hb2.mono hB1.size)
    clear e hR CN hM hb2 b0 b1 b2
    go_wp2_with fail
    go_ret2
    exact RetSS.mk (by rw [HM.out, HE.out]) (hS.based hB1.size) hB2
  · rw [ifGood_no hG, dc_false hG]
    go_enter Try.func37, Try.ntmps37
    go_wp2_with fail
    refine (callB_no (cuGood_any W H A _ c L _ rfl hc ((hL.below (hb0 _)).mono (hb0 _).size)) hG).mono ?_
    rintro e w1 ⟨rfl, hb1⟩
    go_wp2_with fail
    go_ret2
    exact RetSS.none_ ((hb0 _).trans (hb1.mono (hb0 _).size))
end Go.Proofs.Ytnnhgblgbbfmpaa
