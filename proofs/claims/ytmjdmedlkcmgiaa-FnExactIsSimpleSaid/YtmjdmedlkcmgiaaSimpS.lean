/- Contract of the model's IsSimple. -/
import Derived.Test.YtmjdmedlkcmgiaaPartsS
import Derived.Test.YtmjdmedlkcmgiaaSimpI
set_option linter.all false
namespace Go.Proofs.Ytmjdmedlkcmgiaa
open Go.RowKit

set_option maxRecDepth 100000 in
set_option maxHeartbeats 4000000 in
theorem specSimp_any (W H : Int) (A : Option Addr) (n c : Nat) (L : List Sq) (w : World) (hl : L.length = n) (hc : n ≤ c) (hL : SqsAt w w.heap.size A L) :
    Calls Try.prog 47 #[.agg #[.int .i64 W, .int .i64 H, .slice A n c]] w (RetSimp w W H L) := by
  subst hl
  have hb0 : ∀ o : Obj, Below w.heap.size w (w.alloc o) := fun o => (Below.refl _ _).alloc (Nat.le_refl _) o
  have Z0 : Box w.heap.size w (w.alloc (.cells #[.int .i64 W, .int .i64 H, .slice A L.length c] 31)) W H A c L := Box.start hL
  by_cases hG : Good W H L
  · have hN := noPart_iff hG
    have hlen := allP_len W H L L.length
    have h900 : L.length * L.length ≤ 900 := Nat.le_trans (Nat.mul_le_mul hG.2.2.1.2 hG.2.2.1.2) (by decide)
    go_enter Try.func47, Try.ntmps47
    go_wp2_with fail
    refine (callB_yes (cuGood_any W H A _ c L _ rfl hc ((hL.below (hb0 _)).mono (hb0 _).size)) hG).mono ?_
    rintro e w1 ⟨rfl, hb1⟩
    have Z1 := Z0.next hb1
    obtain ⟨hB1, hz1, b0, b1, b2, hL1⟩ := id Z1
    go_wp2_with fail
    refine (cuParts_any W H A _ c L _ rfl hc (hL1.mono hB1.size) hG).mono ?_
    rintro e w2 ⟨A2, c2, R2, rfl, hM, hS, hb2⟩
    have HG := Lib.hid hG
    have HN := Lib.hid hN
    obtain ⟨m, hm⟩ : ∃ m, (allP W H L L.length).length = m := ⟨_, rfl⟩
    have hB2 := Z1.below.trans (hb2.mono Z1.below.size)
    have HM := Lib.hid hm
    rw [hm] at hlen ⊢
    clear hG hN hM hS hm Z0 Z1 hb0 hL hL1 b0 b1 b2 hb1 hb2
    by_cases h0 : m = 0
    · have e1 : ((m : Int) == 0) = true := by first | omega | (simp; done) | (simp; omega)
      go_wp2_with fail
      go_ret2
      exact ⟨ret_tb (dc_true ⟨HG.out, HN.out.2 (List.eq_nil_of_length_eq_zero (HM.out.trans h0))⟩).symm (dc_true HG.out).symm, hB2⟩
    · have e1 : ((m : Int) == 0) = false := by first | omega | (simp; done) | (simp; omega)
      go_wp2_with fail
      go_ret2
      exact ⟨ret_tb (dc_false fun h => h0 (by rw [← HM.out, HN.out.1 h.2]; rfl)).symm (dc_true HG.out).symm, hB2⟩
  · go_enter Try.func47, Try.ntmps47
    go_wp2_with fail
    refine (callB_no (cuGood_any W H A _ c L _ rfl hc ((hL.below (hb0 _)).mono (hb0 _).size)) hG).mono ?_
    rintro e w1 ⟨rfl, hb1⟩
    go_wp2_with fail
    go_ret2
    exact ⟨ret_tb (dc_false fun h => hG h.1).symm (dc_false hG).symm, (hb0 _).trans (hb1.mono (hb0 _).size)⟩

end Go.Proofs.Ytmjdmedlkcmgiaa
