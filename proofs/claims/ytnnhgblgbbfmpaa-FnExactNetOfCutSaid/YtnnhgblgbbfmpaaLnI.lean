/- The line that a point is on: the program's and the model's. -/
import Derived.Test.YtnnhgblgbbfmpaaLnQ
set_option linter.all false
namespace Go.Proofs.Ytnnhgblgbbfmpaa
open Go.RowKit

/-- Line k is the one that a place of side 1 is on. -/
def AtLn (R : List M.Ln) (y x : Int) (k : Nat) : Prop := ∃ r, R[k]? = some r ∧ r.y = y ∧ r.a ≤ x ∧ x < r.b
theorem atLn_other {P : Int → Int → Prop} {R : List M.Ln} (h : M.IsLines P R) {y x : Int} {k j : Nat} (hk : AtLn R y x k) {r : M.Ln} (hr : R[j]? = some r) (hj : j ≠ k) : ¬ (r.y = y ∧ r.a ≤ x ∧ x ≤ r.b) := by
  obtain ⟨t, ht, t1, t2, t3⟩ := hk
  intro ⟨r1, r2, r3⟩
  have lj := (List.getElem?_eq_some_iff.1 hr).1
  have lk := (List.getElem?_eq_some_iff.1 ht).1
  have ej := (List.getElem?_eq_some_iff.1 hr).2
  have ek := (List.getElem?_eq_some_iff.1 ht).2
  rcases Nat.lt_or_gt_of_ne hj with h1 | h1
  · have := List.pairwise_iff_getElem.1 h.ord j k lj lk h1
    rw [ej, ek] at this
    omega
  · have := List.pairwise_iff_getElem.1 h.ord k j lk lj h1
    rw [ej, ek] at this
    omega

set_option maxRecDepth 100000 in
set_option maxHeartbeats 4000000 in
theorem at1_any (Ar : Option Addr) (cr : Nat) (r : M.Ln) (By Bx : Nat) (y x : Int) (w : World) (hI : IntsAt w w.heap.size Ar [r.y, r.a, r.b]) (hy : w.cell? ⟨By, 0, none⟩ = some (.int .i64 y)) (hx : w.cell? ⟨Bx, 0, none⟩ = some (.int .i64 x)) (hBy : By < w.heap.size) (hBx : Bx < w.heap.size) :
    Calls Try.prog 124 #[.slice Ar 3 cr, .pointer (some ⟨By, 0, none⟩), .pointer (some ⟨Bx, 0, none⟩)] w (RetB w (r.y = y ∧ r.a ≤ x ∧ x ≤ r.b)) := by
  obtain ⟨g, o, rfl, hg, i0⟩ := hI 0 r.y rfl
  obtain ⟨g1, o1, e1, _, i1⟩ := hI 1 r.a rfl
  cases e1
  obtain ⟨g2, o2, e2, _, i2⟩ := hI 2 r.b rfl
  cases e2
  simp only [Nat.add_zero] at i0
  have C : ∀ b o v, b < w.heap.size → w.cell? ⟨b, o, none⟩ = some v → ∀ u : Later w.heap.size w, u.val.cell? ⟨b, o, none⟩ = some v := fun b o v hb h u => (u.ok.cell (p := ⟨b, o, none⟩) hb).trans h
  have I0 := C _ _ _ hg i0
  have I1 := C _ _ _ hg i1
  have I2 := C _ _ _ hg i2
  have Y := C _ _ _ hBy hy
  have X := C _ _ _ hBx hx
  clear hI
  by_cases h1 : r.y = y
  · have q1 : (r.y == y) = true := by simpa using h1
    by_cases h2 : r.a ≤ x
    · have q2 : decide (r.a ≤ x) = true := decide_eq_true h2
      go_enter Try.func124, Try.ntmps124
      go_wp2_with fail
      refine wp_region_sub w.heap.size (by kernel_rfl) (by kernel_rfl) ?_
      repeat (first | go_big_quiet_step (fail) | quiet_step (fail))
      refine wpQuiet_nil ?_
      rintro w4 ⟨uu, hu⟩; have hb4 := uu.ok; rw [← hu] at hb4; clear hu uu
      clear I0 I1 I2 Y X C
      go_wp2_with fail
      go_ret
      exact RetB.mk (by rw [decide_eq_true_iff]; omega) hb4
    · have q2 : decide (r.a ≤ x) = false := decide_eq_false h2
      go_enter Try.func124, Try.ntmps124
      go_wp2_with fail
      refine wp_region_sub w.heap.size (by kernel_rfl) (by kernel_rfl) ?_
      repeat (first | go_big_quiet_step (fail) | quiet_step (fail))
      refine wpQuiet_nil ?_
      rintro w4 ⟨uu, hu⟩; have hb4 := uu.ok; rw [← hu] at hb4; clear hu uu
      clear I0 I1 I2 Y X C
      go_wp2_with fail
      go_ret
      exact RetB.mk (by constructor <;> intro h <;> first | (cases h; done) | (exfalso; omega)) hb4
  · have q1 : (r.y == y) = false := by simpa using h1
    go_enter Try.func124, Try.ntmps124
    go_wp2_with fail
    refine wp_region_sub w.heap.size (by kernel_rfl) (by kernel_rfl) ?_
    repeat (first | go_big_quiet_step (fail) | quiet_step (fail))
    refine wpQuiet_nil ?_
    rintro w4 ⟨uu, hu⟩; have hb4 := uu.ok; rw [← hu] at hb4; clear hu uu
    clear I0 I1 I2 Y X C
    go_wp2_with fail
    go_ret
    exact RetB.mk (by constructor <;> intro h <;> first | (cases h; done) | (exfalso; omega)) hb4

set_option maxRecDepth 100000 in
set_option maxHeartbeats 4000000 in
theorem indexLn_any (A : Option Addr) (n c : Nat) (R : List M.Ln) (By Bx : Nat) (y x : Int) (k : Nat) (w : World) (hl : R.length = n) (hn : n ≤ 1048576) (hR : RowsAt w w.heap.size A (lnL R)) {P : Int → Int → Prop} (hL : M.IsLines P R) (hk : AtLn R y x k)
    (hy : w.cell? ⟨By, 0, none⟩ = some (.int .i64 y)) (hx : w.cell? ⟨Bx, 0, none⟩ = some (.int .i64 x)) (hBy : By < w.heap.size) (hBx : Bx < w.heap.size) :
    Calls Try.prog 123 #[.slice A n c, .func (.func 124) #[] #[.pointer (some ⟨By, 0, none⟩), .pointer (some ⟨Bx, 0, none⟩)]] w fun e w' => e = .returned (.int .i64 k) ∧ Below w.heap.size w w' := by
  subst hl
  have hkl : k < R.length := by
    obtain ⟨t, ht, _⟩ := hk
    exact (List.getElem?_eq_some_iff.1 ht).1
  have HK := Lib.hid hk
  have HL := Lib.hid hL
  clear hk hL
  go_enter Try.func123, Try.ntmps123
  go_wp2_with fail
  go_loopw [8] (fun i wr => ∃ j : Nat, j ≤ k ∧ i = .int .i64 j ∧ Below w.heap.size w wr) (fun i _ => R.length - (intOf i).toNat)
  case atStart => exact ⟨0, Nat.zero_le _, rfl, Below.refl _ _⟩
  case round =>
    obtain ⟨j, hj, rfl, hbr⟩ := hrel
    have hzr := hbr.size
    have hlt : j < R.length := by omega
    obtain ⟨r, hr⟩ : ∃ r, R[j]? = some r := ⟨_, List.getElem?_eq_getElem hlt⟩
    obtain ⟨g, off, Ar, cr, rfl, hg, c0, _, hI⟩ := (hR.below hbr) j [r.y, r.a, r.b] (ln_get hr)
    have k0 : (0 : Int) ≤ (j : Int) := by omega
    have k1 : (j : Int) < (R.length : Int) := by omega
    have hgz : g < wr.heap.size := by omega
    have CA := at1_any Ar cr r By Bx y x wr (hI.mono hzr) ((hbr.cell (p := ⟨By, 0, none⟩) hBy).trans hy) ((hbr.cell (p := ⟨Bx, 0, none⟩) hBx).trans hx) (by omega) (by omega)
    have hlen3 : ([r.y, r.a, r.b] : List Int).length = 3 := rfl
    rw [hlen3] at c0
    by_cases e : j = k
    · have hin : r.y = y ∧ r.a ≤ x ∧ x ≤ r.b := by
        obtain ⟨t, ht, t1, t2, t3⟩ := HK.out
        rw [e, ht] at hr
        obtain rfl := Option.some.inj hr
        exact ⟨t1, t2, by omega⟩
      have CA' := callB_yes CA hin
      have HE := Lib.hid e
      clear CA hin hr hI hR e
      go_wp2_with fail
      (with_reducible refine CA'.mono ?_)
      rintro e' w2 ⟨rfl, hb2⟩
      have hB := hbr.trans (hb2.mono hzr)
      clear CA' hb2
      go_wp2_with fail
      go_ret
      exact ⟨by rw [HE.out]; rfl, hB⟩
    · have hout := atLn_other HL.out HK.out hr e
      have CA' := callB_no CA hout
      clear CA hout hr hI hR
      go_wp2_with fail
      (with_reducible refine CA'.mono ?_)
      rintro e' w2 ⟨rfl, hb2⟩
      have hB := hbr.trans (hb2.mono hzr)
      clear CA' hb2
      go_wp2_with fail
      go_roundw
      case rel => exact ⟨j + 1, by omega, by go_num, hB⟩
      case measure => simp [intOf]; omega

set_option maxRecDepth 100000 in
theorem lineAt_any (A : Option Addr) (n c : Nat) (R : List M.Ln) (y x : Int) (k : Nat) (w : World) (hl : R.length = n) (hn : n ≤ 1048576) (hR : RowsAt w w.heap.size A (lnL R)) {P : Int → Int → Prop} (hL : M.IsLines P R) (hk : AtLn R y x k) :
    Calls Try.prog 81 #[.slice A n c, .int .i64 x, .int .i64 y] w fun e w' => e = .returned (.int .i64 k) ∧ Below w.heap.size w w' := by
  obtain ⟨W1, hW1⟩ : ∃ W1, W1 = (w.alloc (.cells #[.int .i64 x] 3)).alloc (.cells #[.int .i64 y] 3) := ⟨_, rfl⟩
  have hB1 : Below w.heap.size w W1 := by rw [hW1]; exact ((Below.refl _ _).alloc (Nat.le_refl _) _).alloc (by simp) _
  have hz1 : W1.heap.size = w.heap.size + 2 := by rw [hW1]; simp
  have hx : W1.cell? ⟨w.heap.size, 0, none⟩ = some (.int .i64 x) := by rw [hW1]; simp [go_sem]
  have hy : W1.cell? ⟨w.heap.size + 1, 0, none⟩ = some (.int .i64 y) := by rw [hW1]; simp [go_sem]
  have CI := indexLn_any A n c R (w.heap.size + 1) w.heap.size y x k W1 hl hn ((hR.below hB1).mono hB1.size) hL hk hy hx (by omega) (by omega)
  go_enter Try.func81, Try.ntmps81
  go_wp2_with fail
  rw [← hW1]
  clear hW1
  (with_reducible refine CI.mono ?_)
  rintro e w2 ⟨rfl, hb2⟩
  have hB := hB1.trans (hb2.mono hB1.size)
  clear CI hb2
  go_wp2_with fail
  go_ret
  exact ⟨rfl, hB⟩

set_option maxRecDepth 100000 in
set_option maxHeartbeats 4000000 in
theorem neLine_any (A : Option Addr) (n c : Nat) (R : List M.Ln) (y x : Int) (k : Nat) (w : World) (hl : R.length = n) (hn : n ≤ 1048576) (hR : RowsAt w w.heap.size A (lnL R)) {P : Int → Int → Prop} (hL : M.IsLines P R) (hk : AtLn R y x k) (hbd : ∀ r ∈ R, 0 ≤ r.b ∧ r.b ≤ 1000) :
    Calls Try.prog 122 #[.slice A n c, .int .i64 y, .int .i64 x] w fun e w' => e = .returned (.int .i64 k) ∧ Below w.heap.size w w' := by
  subst hl
  have hkl : k < R.length := by
    obtain ⟨t, ht, _⟩ := hk
    exact (List.getElem?_eq_some_iff.1 ht).1
  have HK := Lib.hid hk
  have HL := Lib.hid hL
  clear hk hL
  go_enter Try.func122, Try.ntmps122
  go_wp2_with fail
  go_loopw [11] (fun i wr => ∃ j : Nat, j ≤ k ∧ i = .int .i64 j ∧ Below w.heap.size w wr) (fun i _ => R.length - (intOf i).toNat)
  case atStart => exact ⟨0, Nat.zero_le _, rfl, Below.refl _ _⟩
  case round =>
    obtain ⟨j, hj, rfl, hbr⟩ := hrel
    have hzr := hbr.size
    have hlt : j < R.length := by omega
    obtain ⟨r, hr⟩ : ∃ r, R[j]? = some r := ⟨_, List.getElem?_eq_getElem hlt⟩
    obtain ⟨g, off, Ar, cr, rfl, hg, c0, _, hI⟩ := (hR.below hbr) j [r.y, r.a, r.b] (ln_get hr)
    have hrb := hbd r (List.mem_of_getElem? hr)
    have k0 : (0 : Int) ≤ (j : Int) := by omega
    have k1 : (j : Int) < (R.length : Int) := by omega
    have hgz : g < wr.heap.size := by omega
    have hlen3 : ([r.y, r.a, r.b] : List Int).length = 3 := rfl
    rw [hlen3] at c0
    obtain ⟨h, o, rfl, hh, i0⟩ := hI 0 r.y rfl
    obtain ⟨h1, o1, e1, _, i1⟩ := hI 1 r.a rfl
    cases e1
    obtain ⟨h2, o2, e2, _, i2⟩ := hI 2 r.b rfl
    cases e2
    simp only [Nat.add_zero] at i0
    have hhz : h < wr.heap.size := by omega
    have C : ∀ b o v, b < wr.heap.size → wr.cell? ⟨b, o, none⟩ = some v → ∀ u : Later wr.heap.size wr, u.val.cell? ⟨b, o, none⟩ = some v := fun b o v hb h u => (u.ok.cell (p := ⟨b, o, none⟩) hb).trans h
    have I0 := C _ _ _ hhz i0
    have I1 := C _ _ _ hhz i1
    have I2 := C _ _ _ hhz i2
    by_cases e : j = k
    · have hin : r.y = y ∧ r.a ≤ x ∧ x ≤ r.b - 1 := by
        obtain ⟨t, ht, t1, t2, t3⟩ := HK.out
        rw [e, ht] at hr
        obtain rfl := Option.some.inj hr
        exact ⟨t1, t2, by omega⟩
      have q1 : (r.y == y) = true := by simpa using hin.1
      have q2 : inB x r.a (r.b - 1) = true := inB_iff.2 hin.2
      have CI : ∀ w : World, Calls Try.prog 64 #[.int .i64 x, .int .i64 r.a, .int .i64 (r.b - 1)] w fun e w' => e = .returned (.bool true) ∧ w = w' := fun w => by
        have := l1In_any x r.a (r.b - 1) w
        rwa [q2] at this
      have HE := Lib.hid e
      clear hin hr hI hR q2 hbd e
      go_wp2_with fail
      refine wp_region_sub wr.heap.size (by kernel_rfl) (by kernel_rfl) ?_
      repeat (first | go_big_quiet_step ((go_at_call 64; exact sub_same _ (CI _))) | quiet_step ((go_at_call 64; exact sub_same _ (CI _))))
      refine wpQuiet_nil ?_
      rintro w4 ⟨uu, hu⟩; have hb4 := uu.ok; rw [← hu] at hb4; clear hu uu
      have hB := hbr.trans (hb4.mono hzr)
      clear I0 I1 I2 C CI hb4
      go_wp2_with fail
      go_ret
      exact ⟨by rw [HE.out]; rfl, hB⟩
    · have hout := atLn_other HL.out HK.out hr e
      by_cases hy : r.y = y
      · have q1 : (r.y == y) = true := by simpa using hy
        have q2 : inB x r.a (r.b - 1) = false := by
          rw [← Bool.not_eq_true]
          intro q
          have := inB_iff.1 q
          exact hout ⟨hy, this.1, by omega⟩
        have CI : ∀ w : World, Calls Try.prog 64 #[.int .i64 x, .int .i64 r.a, .int .i64 (r.b - 1)] w fun e w' => e = .returned (.bool false) ∧ w = w' := fun w => by
          have := l1In_any x r.a (r.b - 1) w
          rwa [q2] at this
        clear hout hr hI hR q2 hy hbd
        go_wp2_with fail
        refine wp_region_sub wr.heap.size (by kernel_rfl) (by kernel_rfl) ?_
        repeat (first | go_big_quiet_step ((go_at_call 64; exact sub_same _ (CI _))) | quiet_step ((go_at_call 64; exact sub_same _ (CI _))))
        refine wpQuiet_nil ?_
        rintro w4 ⟨uu, hu⟩; have hb4 := uu.ok; rw [← hu] at hb4; clear hu uu
        have hB := hbr.trans (hb4.mono hzr)
        clear I0 I1 I2 C CI hb4
        go_wp2_with fail
        go_roundw
        case rel => exact ⟨j + 1, by omega, by go_num, hB⟩
        case measure => simp [intOf]; omega
      · have q1 : (r.y == y) = false := by simpa using hy
        clear hout hr hI hR hy hbd
        go_wp2_with fail
        refine wp_region_sub wr.heap.size (by kernel_rfl) (by kernel_rfl) ?_
        repeat (first | go_big_quiet_step (fail) | quiet_step (fail))
        refine wpQuiet_nil ?_
        rintro w4 ⟨uu, hu⟩; have hb4 := uu.ok; rw [← hu] at hb4; clear hu uu
        have hB := hbr.trans (hb4.mono hzr)
        clear I0 I1 I2 C hb4
        go_wp2_with fail
        go_roundw
        case rel => exact ⟨j + 1, by omega, by go_num, hB⟩
        case measure => simp [intOf]; omega
end Go.Proofs.Ytnnhgblgbbfmpaa
