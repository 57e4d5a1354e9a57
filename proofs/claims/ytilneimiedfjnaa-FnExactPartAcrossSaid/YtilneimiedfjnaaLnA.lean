/- LinesAcross of the program. -/
import Derived.Test.YtilneimiedfjnaaLnD
import Derived.Test.YtilneimiedfjnaaExch
set_option linter.all false
namespace Go.Proofs.Ytilneimiedfjnaa
open Go.RowKit Go.Shelf Go.Lib

set_option maxRecDepth 100000 in
set_option maxHeartbeats 2000000 in
theorem implAcross_any (W H : Int) (A : Option Addr) (n c : Nat) (L : List Sq) (w : World) (hl : L.length = n) (hc : n ≤ c) (hL : SqsAt w w.heap.size A L) (hwf : ∀ s ∈ L, wfS s) :
    Calls Try.prog 31 #[.agg #[.int .i64 W, .int .i64 H, .slice A n c]] w (RetInts w (ifGood W H L (J.lnD (J.swL L) H.toNat)) (dc (Good W H L))) := by
  subst hl
  have Z0 : Box w.heap.size w (w.alloc (.cells #[.int .i64 W, .int .i64 H, .slice A L.length c] 29)) W H A c L := Box.start hL
  obtain ⟨W1, hW1⟩ : ∃ W1, W1 = w.alloc (.cells #[.int .i64 W, .int .i64 H, .slice A L.length c] 29) := ⟨_, rfl⟩
  rw [← hW1] at Z0
  obtain ⟨hB1, hz1', b0, b1, b2, hL1⟩ := id Z0
  by_cases hG : Good W H L
  · rw [ifGood_yes hG, dc_true hG]
    have hg1 := J.good_sw hG
    have hll : (srt (J.swL L)).length = L.length := by rw [srt_len, J.swL_len]
    have hf1 : ∀ s ∈ srt (J.swL L), wfS s := fun s hs => by have h1 := (good_fill hg1).within s hs; have h2 := hg1.1; have h3 := hg1.2.1; unfold Within at h1; exact wf_small (m := 500) (by decide) (by omega)
    have hln := J.lnD_perm (srt_perm (J.swL L)) H.toNat
    go_enter Try.func31, Try.ntmps31
    go_wp2_with fail
    rw [← hW1]
    refine (callB_yes (isCut_good W H A _ c L _ rfl hc (hL1.mono hB1.size) hwf) hG).mono ?_
    rintro e w2 ⟨rfl, hb2⟩
    have Z2 := Z0.next hb2
    clear b0 b1 b2 hL1 hB1 hz1' Z0 hb2 hW1
    obtain ⟨hB2, hz2', b0, b1, b2, hL2⟩ := id Z2
    go_wp2_with fail
    refine (exchanged_any W H A _ c L w2 rfl hc (hL2.mono (by omega)) hG).mono ?_
    rintro e w3 ⟨A3, c3, rfl, ho3, hb3⟩
    rw [hll] at ho3 ⊢
    have hB3 := hB2.trans (hb3.mono hB2.size)
    have hcap := own_cap ho3
    clear b0 b1 b2 hL2
    go_wp2_with fail
    refine (implLines_any H W A3 _ c3 (srt (J.swL L)) w3 hll hcap (sqs_of_own ho3) hf1).mono ?_
    rw [ifGood_yes hg1, dc_true hg1, hln]
    rintro e w4 ⟨A4, c4, rfl, ho4, hb4⟩
    have hB4 := hB3.trans (hb4.mono hB3.size)
    have ho4 := own_base (base' := w.heap.size) ho4 hB3.size
    go_wp2_with fail
    go_ret2
    exact RetInts.mk rfl ho4 hB4
  · rw [ifGood_no hG, dc_false hG]
    go_enter Try.func31, Try.ntmps31
    go_wp2_with fail
    rw [← hW1]
    refine (callB_no (isCut_good W H A _ c L _ rfl hc (hL1.mono hB1.size) hwf) hG).mono ?_
    rintro e w2 ⟨rfl, hb2⟩
    go_wp2_with fail
    go_ret2
    exact RetInts.none_ (hB1.trans (hb2.mono hB1.size))
end Go.Proofs.Ytilneimiedfjnaa
