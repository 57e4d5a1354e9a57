/- Strips: which cuts are some; whole ones. -/
import Derived.Test.YtohajmbgdapnhaaLnE
set_option linter.all false
namespace Go.Proofs.Ytohajmbgdapnhaa
open Go.RowKit Go.Shelf

/-- A cut that is a strip. -/
def Strip (W H : Int) (L : List Sq) : Prop := Good W H L ∧ H ≤ 4 ∧ W ≤ 30
set_option maxHeartbeats 2000000 in
theorem isStrip_any (W H : Int) (A : Option Addr) (n c : Nat) (L : List Sq) (w : World) (hl : L.length = n) (hc : n ≤ c) (hL : SqsAt w w.heap.size A L) (hwf : ∀ s ∈ L, wfS s) :
    Calls Try.prog 92 #[.agg #[.int .i64 W, .int .i64 H, .slice A n c]] w (RetB w (Strip W H L)) := by
  subst hl
  obtain ⟨w1, hw1⟩ : ∃ w1, w1 = w.alloc (.cells #[.int .i64 W, .int .i64 H, .slice A L.length c] 30) := ⟨_, rfl⟩
  have hb1 : Below w.heap.size w w1 := by rw [hw1]; exact (Below.refl _ _).alloc (Nat.le_refl _) _
  have hz : w.heap.size < w1.heap.size := by rw [hw1]; simp
  have x0 : w1.cell? ⟨w.heap.size, 0, none⟩ = some (.int .i64 W) := by rw [hw1]; simp
  have x1 : w1.cell? ⟨w.heap.size, 1, none⟩ = some (.int .i64 H) := by rw [hw1]; simp
  have x2 : w1.cell? ⟨w.heap.size, 2, none⟩ = some (.slice A L.length c) := by rw [hw1]; simp
  have hL1 := (hL.below hb1).mono hb1.size
  have C := isCut_good W H A L.length c L w1 rfl hc hL1 hwf
  have HC := Lib.hid C
  clear C hL hwf hL1
  by_cases hG : Good W H L
  · have HG := Lib.hid hG
    by_cases h4 : H ≤ 4
    · by_cases h30 : W ≤ 30
      · clear hG
        go_enter Try.func92, Try.ntmps92
        go_wp2_with fail
        rw [← hw1]
        clear hw1
        go_wp2_with fail
        (with_reducible refine (callB_yes HC.out HG.out).mono ?_)
        rintro e w2 ⟨rfl, hb2⟩
        have x0 := (hb2.cell (p := ⟨w.heap.size, 0, none⟩) hz).trans x0
        have x1 := (hb2.cell (p := ⟨w.heap.size, 1, none⟩) hz).trans x1
        have x2 := (hb2.cell (p := ⟨w.heap.size, 2, none⟩) hz).trans x2
        go_wp2_with fail
        go_ret
        exact ⟨ret_dc (by first | exact ⟨fun _ => ⟨HG.out, by omega, by omega⟩, fun _ => rfl⟩ | exact ⟨fun _ => ⟨HG.out, by omega, by omega⟩, fun _ => by simp; omega⟩), hb1.trans (hb2.mono hb1.size)⟩
      · clear hG
        have d30 : decide (W ≤ 30) = false := by rw [decide_eq_false_iff_not]; exact h30
        go_enter Try.func92, Try.ntmps92
        go_wp2_with fail
        rw [← hw1]
        clear hw1
        go_wp2_with fail
        (with_reducible refine (callB_yes HC.out HG.out).mono ?_)
        rintro e w2 ⟨rfl, hb2⟩
        have x0 := (hb2.cell (p := ⟨w.heap.size, 0, none⟩) hz).trans x0
        have x1 := (hb2.cell (p := ⟨w.heap.size, 1, none⟩) hz).trans x1
        have x2 := (hb2.cell (p := ⟨w.heap.size, 2, none⟩) hz).trans x2
        go_wp2_with fail
        go_ret
        exact ⟨ret_dc (by simp only [Bool.false_eq_true, false_iff]; exact fun h => by have := h.2.2; omega), hb1.trans (hb2.mono hb1.size)⟩
    · clear hG
      go_enter Try.func92, Try.ntmps92
      go_wp2_with fail
      rw [← hw1]
      clear hw1
      go_wp2_with fail
      (with_reducible refine (callB_yes HC.out HG.out).mono ?_)
      rintro e w2 ⟨rfl, hb2⟩
      have x0 := (hb2.cell (p := ⟨w.heap.size, 0, none⟩) hz).trans x0
      have x1 := (hb2.cell (p := ⟨w.heap.size, 1, none⟩) hz).trans x1
      have x2 := (hb2.cell (p := ⟨w.heap.size, 2, none⟩) hz).trans x2
      go_wp2_with fail
      go_ret
      exact ⟨ret_dc (by simp only [Bool.false_eq_true, false_iff]; exact fun h => by have := h.2.1; omega), hb1.trans (hb2.mono hb1.size)⟩
  · have HG := Lib.hid hG
    clear hG
    go_enter Try.func92, Try.ntmps92
    go_wp2_with fail
    rw [← hw1]
    clear hw1
    go_wp2_with fail
    (with_reducible refine (callB_no HC.out HG.out).mono ?_)
    rintro e w2 ⟨rfl, hb2⟩
    have x0 := (hb2.cell (p := ⟨w.heap.size, 0, none⟩) hz).trans x0
    have x1 := (hb2.cell (p := ⟨w.heap.size, 1, none⟩) hz).trans x1
    have x2 := (hb2.cell (p := ⟨w.heap.size, 2, none⟩) hz).trans x2
    go_wp2_with fail
    go_ret
    exact ⟨ret_dc (by simp only [Bool.false_eq_true, false_iff]; exact fun h => HG.out h.1), hb1.trans (hb2.mono hb1.size)⟩
theorem stSize_any (h l : Int) (w : World) : Calls Try.prog 84 #[.int .i64 h, .int .i64 l] w fun e w' => e = .returned (.bool (inB h 1 4 && inB l 1 30)) ∧ w = w' := by
  have C := l1In_any h 1 4 w
  cases ha : inB h 1 4 with
  | false =>
    rw [ha] at C
    go_enter Try.func84, Try.ntmps84
    go_wp2_with fail
    refine C.mono ?_
    rintro e w' ⟨rfl, rfl⟩
    go_wp2_with fail
    go_ret
    exact ⟨rfl, rfl⟩
  | true =>
    rw [ha] at C
    go_enter Try.func84, Try.ntmps84
    go_wp2_with fail
    refine C.mono ?_
    rintro e w' ⟨rfl, rfl⟩
    go_wp2_with fail
    refine (l1In_any l 1 30 _).mono ?_
    rintro e w' ⟨rfl, rfl⟩
    go_wp2_with fail
    go_ret
    exact ⟨by simp, rfl⟩
set_option maxHeartbeats 2000000 in
theorem stGood_any (W H : Int) (A : Option Addr) (n c : Nat) (L : List Sq) (w : World) (hl : L.length = n) (hc : n ≤ c) (hL : SqsAt w w.heap.size A L) :
    Calls Try.prog 90 #[.agg #[.int .i64 W, .int .i64 H, .slice A n c]] w (RetB w (Strip W H L)) := by
  subst hl
  obtain ⟨w1, hw1⟩ : ∃ w1, w1 = w.alloc (.cells #[.int .i64 W, .int .i64 H, .slice A L.length c] 30) := ⟨_, rfl⟩
  have hb1 : Below w.heap.size w w1 := by rw [hw1]; exact (Below.refl _ _).alloc (Nat.le_refl _) _
  have hz : w.heap.size < w1.heap.size := by rw [hw1]; simp
  have x0 : w1.cell? ⟨w.heap.size, 0, none⟩ = some (.int .i64 W) := by rw [hw1]; simp
  have x1 : w1.cell? ⟨w.heap.size, 1, none⟩ = some (.int .i64 H) := by rw [hw1]; simp
  have x2 : w1.cell? ⟨w.heap.size, 2, none⟩ = some (.slice A L.length c) := by rw [hw1]; simp
  have hL1 := (hL.below hb1).mono hb1.size
  have C := cuGood_any W H A L.length c L w1 rfl hc hL1
  have HC := Lib.hid C
  clear C hL hL1
  by_cases hG : Good W H L
  · have HG := Lib.hid hG
    have hw := hG.1
    have hh := hG.2.1
    have CS := fun w => stSize_any H W w
    obtain ⟨v, hv⟩ : ∃ v, (inB H 1 4 && inB W 1 30) = v := ⟨_, rfl⟩
    simp only [hv] at CS
    have HCS := Lib.hid CS
    have hiff : v = true ↔ Strip W H L := by
      rw [← hv, Bool.and_eq_true, inB_iff, inB_iff]
      unfold Strip
      constructor
      · exact fun h => ⟨hG, by omega, by omega⟩
      · exact fun h => ⟨by omega, by omega⟩
    have HI := Lib.hid hiff
    clear hG CS hv hiff
    go_enter Try.func90, Try.ntmps90
    go_wp2_with fail
    rw [← hw1]
    clear hw1
    go_wp2_with fail
    (with_reducible refine (callB_yes HC.out HG.out).mono ?_)
    rintro e w2 ⟨rfl, hb2⟩
    have x0 := (hb2.cell (p := ⟨w.heap.size, 0, none⟩) hz).trans x0
    have x1 := (hb2.cell (p := ⟨w.heap.size, 1, none⟩) hz).trans x1
    have x2 := (hb2.cell (p := ⟨w.heap.size, 2, none⟩) hz).trans x2
    go_wp2_with fail
    (with_reducible refine (HCS.out _).mono ?_)
    rintro e w' ⟨rfl, rfl⟩
    go_wp2_with fail
    go_ret
    exact ⟨ret_dc (by simpa using HI.out), hb1.trans (hb2.mono hb1.size)⟩
  · have HG := Lib.hid hG
    clear hG
    go_enter Try.func90, Try.ntmps90
    go_wp2_with fail
    rw [← hw1]
    clear hw1
    go_wp2_with fail
    (with_reducible refine (callB_no HC.out HG.out).mono ?_)
    rintro e w2 ⟨rfl, hb2⟩
    have x0 := (hb2.cell (p := ⟨w.heap.size, 0, none⟩) hz).trans x0
    have x1 := (hb2.cell (p := ⟨w.heap.size, 1, none⟩) hz).trans x1
    have x2 := (hb2.cell (p := ⟨w.heap.size, 2, none⟩) hz).trans x2
    go_wp2_with fail
    go_ret
    exact ⟨ret_dc (by simp only [Bool.false_eq_true, false_iff]; exact fun h => HG.out h.1), hb1.trans (hb2.mono hb1.size)⟩
/-- No line down. -/
noncomputable def whole (W : Int) (L : List Sq) : Bool := (J.lnD L W.toNat).length == 0
def RetWh (w : World) (W H : Int) (L : List Sq) (e : Ending) (w' : World) : Prop := e = .returned (.tuple #[.bool (dc (Strip W H L) && whole W L), .bool (dc (Strip W H L))]) ∧ Below w.heap.size w w'
set_option maxRecDepth 100000 in
set_option maxHeartbeats 2000000 in
theorem implWhole_any (W H : Int) (A : Option Addr) (n c : Nat) (L : List Sq) (w : World) (hl : L.length = n) (hc : n ≤ c) (hL : SqsAt w w.heap.size A L) (hwf : ∀ s ∈ L, wfS s) :
    Calls Try.prog 48 #[.agg #[.int .i64 W, .int .i64 H, .slice A n c]] w (RetWh w W H L) := by
  subst hl
  obtain ⟨w1, hw1⟩ : ∃ w1, w1 = w.alloc (.cells #[.int .i64 W, .int .i64 H, .slice A L.length c] 30) := ⟨_, rfl⟩
  have hb1 : Below w.heap.size w w1 := by rw [hw1]; exact (Below.refl _ _).alloc (Nat.le_refl _) _
  have hz : w.heap.size < w1.heap.size := by rw [hw1]; simp
  have x0 : w1.cell? ⟨w.heap.size, 0, none⟩ = some (.int .i64 W) := by rw [hw1]; simp
  have x1 : w1.cell? ⟨w.heap.size, 1, none⟩ = some (.int .i64 H) := by rw [hw1]; simp
  have x2 : w1.cell? ⟨w.heap.size, 2, none⟩ = some (.slice A L.length c) := by rw [hw1]; simp
  have hL1 := (hL.below hb1).mono hb1.size
  have C := isStrip_any W H A L.length c L w1 rfl hc hL1 hwf
  have HC := Lib.hid C
  have HL1 := Lib.hid hL1
  clear C hL hL1
  unfold RetWh
  by_cases hG : Strip W H L
  · have HG := Lib.hid hG
    rw [dc_true hG, Bool.true_and]
    have h30 := hG.2.2
    have h1 := hG.1.1
    have hbd : (J.lnD L W.toNat).length ≤ 1000 := by have := J.lnD_len L W.toNat; omega
    have hwh : whole W L = ((J.lnD L W.toNat).length == 0) := rfl
    obtain ⟨m, hm⟩ : ∃ m, (J.lnD L W.toNat).length = m := ⟨_, rfl⟩
    rw [hm] at hwh hbd
    have HWH := Lib.hid hwh
    have HM := Lib.hid hm
    clear hG hwh hm
    go_enter Try.func48, Try.ntmps48
    go_wp2_with fail
    rw [← hw1]
    clear hw1
    go_wp2_with fail
    (with_reducible refine (callB_yes HC.out HG.out).mono ?_)
    rintro e w2 ⟨rfl, hb2⟩
    have x0 := (hb2.cell (p := ⟨w.heap.size, 0, none⟩) hz).trans x0
    have x1 := (hb2.cell (p := ⟨w.heap.size, 1, none⟩) hz).trans x1
    have x2 := (hb2.cell (p := ⟨w.heap.size, 2, none⟩) hz).trans x2
    have hL2 := (HL1.out.below hb2).mono hb2.size
    have hB2 := hb1.trans (hb2.mono hb1.size)
    have CC := implLines_any W H A L.length c L w2 rfl hc hL2 hwf
    rw [ifGood_yes HG.out.1, dc_true HG.out.1] at CC
    have HCC := Lib.hid CC
    clear hL2 CC hb2
    go_wp2_with fail
    (with_reducible refine HCC.out.mono ?_)
    rintro e w3 ⟨A3, c3, rfl, ho3, hb3⟩
    have hB3 := hB2.trans (hb3.mono hB2.size)
    have hlm := HM.out
    rw [hlm]
    clear hlm ho3 x0 x1 x2 hb3
    by_cases h0 : m = 0
    · have e1 : ((m : Int) == 0) = true := by first | omega | (simp; done) | (simp; omega)
      have e2 : (m == 0) = true := by simpa using h0
      have HE := Lib.hid e2
      clear e2
      go_wp2_with fail
      go_ret2
      exact ⟨by rw [HWH.out, HE.out]; rfl, hB3⟩
    · have e1 : ((m : Int) == 0) = false := by first | omega | (simp; done) | (simp; omega)
      have e2 : (m == 0) = false := by simpa using h0
      have HE := Lib.hid e2
      clear e2
      go_wp2_with fail
      go_ret2
      exact ⟨by rw [HWH.out, HE.out]; rfl, hB3⟩
  · have HG := Lib.hid hG
    rw [dc_false hG, Bool.false_and]
    clear hG
    go_enter Try.func48, Try.ntmps48
    go_wp2_with fail
    rw [← hw1]
    clear hw1
    go_wp2_with fail
    (with_reducible refine (callB_no HC.out HG.out).mono ?_)
    rintro e w2 ⟨rfl, hb2⟩
    go_wp2_with fail
    go_ret2
    exact ⟨rfl, hb1.trans (hb2.mono hb1.size)⟩
set_option maxRecDepth 100000 in
set_option maxHeartbeats 2000000 in
theorem specWhole_any (W H : Int) (A : Option Addr) (n c : Nat) (L : List Sq) (w : World) (hl : L.length = n) (hc : n ≤ c) (hL : SqsAt w w.heap.size A L) :
    Calls Try.prog 47 #[.agg #[.int .i64 W, .int .i64 H, .slice A n c]] w (RetWh w W H L) := by
  subst hl
  obtain ⟨w1, hw1⟩ : ∃ w1, w1 = w.alloc (.cells #[.int .i64 W, .int .i64 H, .slice A L.length c] 30) := ⟨_, rfl⟩
  have hb1 : Below w.heap.size w w1 := by rw [hw1]; exact (Below.refl _ _).alloc (Nat.le_refl _) _
  have hz : w.heap.size < w1.heap.size := by rw [hw1]; simp
  have x0 : w1.cell? ⟨w.heap.size, 0, none⟩ = some (.int .i64 W) := by rw [hw1]; simp
  have x1 : w1.cell? ⟨w.heap.size, 1, none⟩ = some (.int .i64 H) := by rw [hw1]; simp
  have x2 : w1.cell? ⟨w.heap.size, 2, none⟩ = some (.slice A L.length c) := by rw [hw1]; simp
  have hL1 := (hL.below hb1).mono hb1.size
  have C := stGood_any W H A L.length c L w1 rfl hc hL1
  have HC := Lib.hid C
  have HL1 := Lib.hid hL1
  clear C hL hL1
  unfold RetWh
  by_cases hG : Strip W H L
  · have HG := Lib.hid hG
    rw [dc_true hG, Bool.true_and]
    have h30 := hG.2.2
    have h1 := hG.1.1
    have hbd : (J.lnD L W.toNat).length ≤ 1000 := by have := J.lnD_len L W.toNat; omega
    have hwh : whole W L = ((J.lnD L W.toNat).length == 0) := rfl
    obtain ⟨m, hm⟩ : ∃ m, (J.lnD L W.toNat).length = m := ⟨_, rfl⟩
    rw [hm] at hwh hbd
    have HWH := Lib.hid hwh
    have HM := Lib.hid hm
    clear hG hwh hm
    go_enter Try.func47, Try.ntmps47
    go_wp2_with fail
    rw [← hw1]
    clear hw1
    go_wp2_with fail
    (with_reducible refine (callB_yes HC.out HG.out).mono ?_)
    rintro e w2 ⟨rfl, hb2⟩
    have x0 := (hb2.cell (p := ⟨w.heap.size, 0, none⟩) hz).trans x0
    have x1 := (hb2.cell (p := ⟨w.heap.size, 1, none⟩) hz).trans x1
    have x2 := (hb2.cell (p := ⟨w.heap.size, 2, none⟩) hz).trans x2
    have hL2 := (HL1.out.below hb2).mono hb2.size
    have hB2 := hb1.trans (hb2.mono hb1.size)
    have CC := joLinesDown_any W H A L.length c L w2 rfl hL2 HG.out.1
    skip
    have HCC := Lib.hid CC
    clear hL2 CC hb2
    go_wp2_with fail
    (with_reducible refine HCC.out.mono ?_)
    rintro e w3 ⟨A3, c3, rfl, ho3, hb3⟩
    have hB3 := hB2.trans (hb3.mono hB2.size)
    have hlm := HM.out
    rw [hlm]
    clear hlm ho3 x0 x1 x2 hb3
    by_cases h0 : m = 0
    · have e1 : ((m : Int) == 0) = true := by first | omega | (simp; done) | (simp; omega)
      have e2 : (m == 0) = true := by simpa using h0
      have HE := Lib.hid e2
      clear e2
      go_wp2_with fail
      go_ret2
      exact ⟨by rw [HWH.out, HE.out]; rfl, hB3⟩
    · have e1 : ((m : Int) == 0) = false := by first | omega | (simp; done) | (simp; omega)
      have e2 : (m == 0) = false := by simpa using h0
      have HE := Lib.hid e2
      clear e2
      go_wp2_with fail
      go_ret2
      exact ⟨by rw [HWH.out, HE.out]; rfl, hB3⟩
  · have HG := Lib.hid hG
    rw [dc_false hG, Bool.false_and]
    clear hG
    go_enter Try.func47, Try.ntmps47
    go_wp2_with fail
    rw [← hw1]
    clear hw1
    go_wp2_with fail
    (with_reducible refine (callB_no HC.out HG.out).mono ?_)
    rintro e w2 ⟨rfl, hb2⟩
    go_wp2_with fail
    go_ret2
    exact ⟨rfl, hb1.trans (hb2.mono hb1.size)⟩
end Go.Proofs.Ytohajmbgdapnhaa
