/- FillSides: the program's and the model's. -/
import Derived.Test.YtohajmbgdapnhaaSt
import Derived.Test.YtohajmbgdapnhaaFsi
import Derived.Test.YtohajmbgdapnhaaExch
set_option linter.all false
namespace Go.Proofs.Ytohajmbgdapnhaa
open Go.RowKit Go.Shelf

noncomputable def ifStrip (W H : Int) (L : List Sq) (R : List Int) : List Int := if dc (Strip W H L) then R else []
theorem ifStrip_yes {W H : Int} {L : List Sq} {R : List Int} (h : Strip W H L) : ifStrip W H L R = R := by unfold ifStrip; rw [if_pos (dc_true h)]
theorem ifStrip_no {W H : Int} {L : List Sq} {R : List Int} (h : ¬ Strip W H L) : ifStrip W H L R = [] := by unfold ifStrip; rw [if_neg (by rw [dc_false h]; decide)]
theorem ifStrip_bd {W H : Int} {L : List Sq} : (ifStrip W H L (sides (srt (J.swL L)))).length ≤ 1048576 := by
  by_cases h : Strip W H L
  · rw [ifStrip_yes h, sides_len, srt_len, J.swL_len]
    have := h.1.2.2.1.2
    omega
  · rw [ifStrip_no h]; decide
set_option maxRecDepth 100000 in
set_option maxHeartbeats 2000000 in
theorem implFill_any (W H : Int) (A : Option Addr) (n c : Nat) (L : List Sq) (w : World) (hl : L.length = n) (hc : n ≤ c) (hL : SqsAt w w.heap.size A L) (hwf : ∀ s ∈ L, wfS s) :
    Calls Try.prog 40 #[.agg #[.int .i64 W, .int .i64 H, .slice A n c]] w (RetInts w (ifStrip W H L (sides (srt (J.swL L)))) (dc (Strip W H L))) := by
  subst hl
  obtain ⟨w1, hw1⟩ : ∃ w1, w1 = w.alloc (.cells #[.int .i64 W, .int .i64 H, .slice A L.length c] 30) := ⟨_, rfl⟩
  have hb1 : Below w.heap.size w w1 := by rw [hw1]; exact (Below.refl _ _).alloc (Nat.le_refl _) _
  have hz : w.heap.size < w1.heap.size := by rw [hw1]; simp
  have x0 : w1.cell? ⟨w.heap.size, 0, none⟩ = some (.int .i64 W) := by rw [hw1]; simp
  have x1 : w1.cell? ⟨w.heap.size, 1, none⟩ = some (.int .i64 H) := by rw [hw1]; simp
  have x2 : w1.cell? ⟨w.heap.size, 2, none⟩ = some (.slice A L.length c) := by rw [hw1]; simp
  have hL1 := (hL.below hb1).mono hb1.size
  have C := isStrip_any W H A L.length c L w1 rfl hc hL1 hwf
  have HC := Lib.hid C
  have HL1 := Lib.hid hL1
  clear C hL hL1
  by_cases hG : Strip W H L
  · have HG := Lib.hid hG
    rw [dc_true hG, ifStrip_yes hG]
    have hs := J.good_sw hG.1
    have HS := Lib.hid hs
    clear hG hs
    go_enter Try.func40, Try.ntmps40
    go_wp2_with fail
    rw [← hw1]
    clear hw1
    go_wp2_with fail
    (with_reducible refine (callB_yes HC.out HG.out).mono ?_)
    rintro e w2 ⟨rfl, hb2⟩
    have x0 := (hb2.cell (p := ⟨w.heap.size, 0, none⟩) hz).trans x0
    have x1 := (hb2.cell (p := ⟨w.heap.size, 1, none⟩) hz).trans x1
    have x2 := (hb2.cell (p := ⟨w.heap.size, 2, none⟩) hz).trans x2
    have hL2 := (HL1.out.below hb2).mono hb2.size
    have hB2 := hb1.trans (hb2.mono hb1.size)
    have CX := exchanged_any W H A L.length c L w2 rfl hc hL2 HG.out.1
    have HCX := Lib.hid CX
    clear hL2 CX hb2
    go_wp2_with fail
    (with_reducible refine HCX.out.mono ?_)
    rintro e w3 ⟨A3, c3, rfl, ho3, hb3⟩
    have hB3 := hB2.trans (hb3.mono hB2.size)
    have CS := implSides_any H W A3 (srt (J.swL L)).length c3 (srt (J.swL L)) w3 rfl (own_cap ho3) (sqs_of_own ho3) (fun s hs => by
      have h1 := (good_fill HS.out).within s hs
      have h2 := HS.out.1
      have h3 := HS.out.2.1
      unfold Within at h1
      unfold wfS wfI
      omega)
    rw [ifGood_yes HS.out, dc_true HS.out] at CS
    have HCS := Lib.hid CS
    clear CS ho3 x0 x1 x2 hb3
    go_wp2_with fail
    (with_reducible refine HCS.out.mono ?_)
    rintro e w4 ⟨A4, c4, rfl, ho4, hb4⟩
    go_wp2_with fail
    go_ret2
    exact ⟨A4, c4, rfl, own_base ho4 hB3.size, hB3.trans (hb4.mono hB3.size)⟩
  · have HG := Lib.hid hG
    rw [dc_false hG, ifStrip_no hG]
    clear hG
    go_enter Try.func40, Try.ntmps40
    go_wp2_with fail
    rw [← hw1]
    clear hw1
    go_wp2_with fail
    (with_reducible refine (callB_no HC.out HG.out).mono ?_)
    rintro e w2 ⟨rfl, hb2⟩
    go_wp2_with fail
    go_ret2
    exact RetInts.none_ (hb1.trans (hb2.mono hb1.size))
set_option maxRecDepth 100000 in
set_option maxHeartbeats 2000000 in
theorem specFill_any (W H : Int) (A : Option Addr) (n c : Nat) (L : List Sq) (w : World) (hl : L.length = n) (hc : n ≤ c) (hL : SqsAt w w.heap.size A L) :
    Calls Try.prog 39 #[.agg #[.int .i64 W, .int .i64 H, .slice A n c]] w (RetInts w (ifStrip W H L (sides (srt (J.swL L)))) (dc (Strip W H L))) := by
  subst hl
  obtain ⟨w1, hw1⟩ : ∃ w1, w1 = w.alloc (.cells #[.int .i64 W, .int .i64 H, .slice A L.length c] 30) := ⟨_, rfl⟩
  have hb1 : Below w.heap.size w w1 := by rw [hw1]; exact (Below.refl _ _).alloc (Nat.le_refl _) _
  have hz : w.heap.size < w1.heap.size := by rw [hw1]; simp
  have x0 : w1.cell? ⟨w.heap.size, 0, none⟩ = some (.int .i64 W) := by rw [hw1]; simp
  have x1 : w1.cell? ⟨w.heap.size, 1, none⟩ = some (.int .i64 H) := by rw [hw1]; simp
  have x2 : w1.cell? ⟨w.heap.size, 2, none⟩ = some (.slice A L.length c) := by rw [hw1]; simp
  have hL1 := (hL.below hb1).mono hb1.size
  have C := stGood_any W H A L.length c L w1 rfl hc hL1
  have HC := Lib.hid C
  have HL1 := Lib.hid hL1
  clear C hL hL1
  by_cases hG : Strip W H L
  · have HG := Lib.hid hG
    rw [dc_true hG, ifStrip_yes hG]
    clear hG
    go_enter Try.func39, Try.ntmps39
    go_wp2_with fail
    rw [← hw1]
    clear hw1
    go_wp2_with fail
    (with_reducible refine (callB_yes HC.out HG.out).mono ?_)
    rintro e w2 ⟨rfl, hb2⟩
    have x0 := (hb2.cell (p := ⟨w.heap.size, 0, none⟩) hz).trans x0
    have x1 := (hb2.cell (p := ⟨w.heap.size, 1, none⟩) hz).trans x1
    have x2 := (hb2.cell (p := ⟨w.heap.size, 2, none⟩) hz).trans x2
    have hL2 := (HL1.out.below hb2).mono hb2.size
    have hB2 := hb1.trans (hb2.mono hb1.size)
    have CX := stSides_any W H A L.length c L w2 rfl hL2 (good_fill HG.out.1)
    have HCX := Lib.hid CX
    clear hL2 CX hb2
    go_wp2_with fail
    (with_reducible refine HCX.out.mono ?_)
    rintro e w3 ⟨A3, c3, rfl, ho3, hb3⟩
    go_wp2_with fail
    go_ret2
    exact ⟨A3, c3, rfl, own_base ho3 hB2.size, hB2.trans (hb3.mono hB2.size)⟩
  · have HG := Lib.hid hG
    rw [dc_false hG, ifStrip_no hG]
    clear hG
    go_enter Try.func39, Try.ntmps39
    go_wp2_with fail
    rw [← hw1]
    clear hw1
    go_wp2_with fail
    (with_reducible refine (callB_no HC.out HG.out).mono ?_)
    rintro e w2 ⟨rfl, hb2⟩
    go_wp2_with fail
    go_ret2
    exact RetInts.none_ (hb1.trans (hb2.mono hb1.size))
end Go.Proofs.Ytohajmbgdapnhaa
