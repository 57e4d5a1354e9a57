/- Contracts of the program's squaresBetween and isPart. -/
import Derived.Test.YtmjdmedlkcmgiaaPartG
import Derived.Test.YtmjdmedlkcmgiaaApp
set_option linter.all false
namespace Go.Proofs.Ytmjdmedlkcmgiaa
open Go.RowKit

theorem isWithin_small (x y d W H : Int) (hW : -1000000 ≤ W) (hW' : W ≤ 1000000) (hH : -1000000 ≤ H) (hH' : H ≤ 1000000) (hd0 : -1000000 ≤ d) (hd : d ≤ 1000000) (w : World) :
    Calls Try.prog 75 #[.agg #[.int .i64 x, .int .i64 y, .int .i64 d], .int .i64 W, .int .i64 H] w (RetB w (1 ≤ d ∧ 0 ≤ x ∧ x ≤ W - d ∧ 0 ≤ y ∧ y ≤ H - d)) := by
  by_cases h1 : 1 ≤ d
  · by_cases h2 : 0 ≤ x
    · by_cases h3 : x ≤ W - d
      · by_cases h4 : 0 ≤ y
        · by_cases h5 : y ≤ H - d
          · go_enter Try.func75, Try.ntmps75
            go_wp2
            go_ret; exact RetB.mk (by simp [h1, h2, h3, h4, h5]) ((Below.refl _ _).alloc (Nat.le_refl _) _)
          · go_enter Try.func75, Try.ntmps75
            go_wp2
            go_ret; exact RetB.mk (by simp; omega) ((Below.refl _ _).alloc (Nat.le_refl _) _)
        · go_enter Try.func75, Try.ntmps75
          go_wp2
          go_ret; exact RetB.mk (by simp; omega) ((Below.refl _ _).alloc (Nat.le_refl _) _)
      · go_enter Try.func75, Try.ntmps75
        go_wp2
        go_ret; exact RetB.mk (by simp; omega) ((Below.refl _ _).alloc (Nat.le_refl _) _)
    · go_enter Try.func75, Try.ntmps75
      go_wp2
      go_ret; exact RetB.mk (by simp; omega) ((Below.refl _ _).alloc (Nat.le_refl _) _)
  · go_enter Try.func75, Try.ntmps75
    go_wp2
    go_ret; exact RetB.mk (by simp; omega) ((Below.refl _ _).alloc (Nat.le_refl _) _)

/-- It returns a list of numbers in memory of the call's own. -/
def RetL (w : World) (R : List Int) (e : Ending) (w' : World) : Prop :=
  ∃ A c, e = .returned (.slice A R.length c) ∧ w'.ownsRow w.heap.size 3 1 (.slice A R.length c) R.length (ints R) ∧ Below w.heap.size w w'
theorem RetL.mk {w w' : World} {A : Option Addr} {n c : Nat} {R : List Int} (hn : n = R.length) (ho : w'.ownsRow w.heap.size 3 1 (.slice A n c) n (ints R)) (hb : Below w.heap.size w w') : RetL w R (.returned (.slice A n c)) w' := by
  subst hn; exact ⟨A, c, rfl, ho, hb⟩
theorem RetL.none_ {w w' : World} (hb : Below w.heap.size w w') : RetL w [] (.returned (.slice none 0 0)) w' := ⟨none, 0, rfl, World.ownsRow_nil _ _ _ _, hb⟩

/-- The squares of the rectangle from f to q, or none if they don't fill it. -/
def btw (L : List Sq) (f q : Sq) : List Int := if wX f q * hY f q - inA f (wX f q) (hY f q) L L.length = 0 then inL f (wX f q) (hY f q) L L.length else []
theorem btw_len (L : List Sq) (f q : Sq) : (btw L f q).length ≤ L.length := by
  unfold btw
  split
  · exact inL_len _ _ _ _ _
  · simp
theorem btw_part {L : List Sq} {f q : Sq} : (2 ≤ (btw L f q).length ∧ (btw L f q).length < L.length) ↔ PartI L f q := by
  unfold btw PartI
  split <;> simp [*]
theorem within_in {f s : Sq} {X Y : Int} (h : 1 ≤ s.d) : (1 ≤ s.d ∧ 0 ≤ s.x - f.x ∧ s.x - f.x ≤ X - s.d ∧ 0 ≤ s.y - f.y ∧ s.y - f.y ≤ Y - s.d) ↔ (f.x ≤ s.x ∧ f.y ≤ s.y ∧ s.x + s.d ≤ f.x + X ∧ s.y + s.d ≤ f.y + Y) := by
  constructor <;> (intro k; omega)
theorem inA_bd {W H : Int} {L : List Sq} (hall : ∀ s ∈ L, Within s W H) (hW : W ≤ 500) (hH : H ≤ 500) (f : Sq) (X Y : Int) (k : Nat) : 0 ≤ inA f X Y L k ∧ inA f X Y L k ≤ 250000 * k := by
  induction k with
  | zero => simp [inA_zero]
  | succ k ih =>
    rcases Nat.lt_or_ge k L.length with h | h
    · have hg := List.getElem?_eq_getElem h
      rw [inA_succ f X Y L k _ hg]
      have hw := hall _ (List.getElem_mem h)
      unfold Within at hw
      have := sq_bound hw.1 (show L[k].d ≤ 500 by omega)
      split <;> omega
    · have e : inA f X Y L (k + 1) = inA f X Y L k := by unfold inA; rw [List.take_of_length_le (by omega), List.take_of_length_le (by omega)]
      rw [e]; omega

set_option maxRecDepth 100000 in
set_option maxHeartbeats 4000000 in
theorem between_any (W H : Int) (A : Option Addr) (n c : Nat) (L : List Sq) (f q : Sq) (w : World) (hl : L.length = n) (hc : n ≤ c) (hL : SqsAt w w.heap.size A L) (hG : Good W H L) (hf : f ∈ L) (hq : q ∈ L) :
    Calls Try.prog 89 #[.agg #[.int .i64 W, .int .i64 H, .slice A n c], .agg #[.int .i64 f.x, .int .i64 f.y, .int .i64 f.d], .agg #[.int .i64 q.x, .int .i64 q.y, .int .i64 q.d]] w (RetL w (btw L f q)) := by
  subst hl
  obtain ⟨i0, hi, hz0, hz1, hz2⟩ := info_parts infoInt
  have hg30 := hG.2.2.1.2
  have hW := hG.1
  have hH := hG.2.1
  have hall : ∀ s ∈ L, Within s W H := fun s hs => by
    obtain ⟨j, hj⟩ := List.mem_iff_getElem?.1 hs
    exact (hG.2.2.2.1 j s hj).1
  have wf := hall f hf
  have wq := hall q hq
  unfold Within at wf wq
  have hbd := inA_bd hall hW.2 hH.2 f (wX f q) (hY f q)
  have HG := Lib.hid hall
  clear hG hall hf hq
  obtain ⟨X, hX⟩ : ∃ X, wX f q = X := ⟨_, rfl⟩
  obtain ⟨Y, hYY⟩ : ∃ Y, hY f q = Y := ⟨_, rfl⟩
  have x0 : -500 ≤ X ∧ X ≤ 500 := by unfold wX at hX; omega
  have y0 : -500 ≤ Y ∧ Y ≤ 500 := by unfold hY at hYY; omega
  have m0 : -250000 ≤ X * Y ∧ X * Y ≤ 250000 := by
    rcases Int.le_total 0 X with h | h <;> rcases Int.le_total 0 Y with k | k
    · have a := Int.mul_le_mul x0.2 y0.2 k (by decide); have b := Int.mul_nonneg h k; omega
    · have a := Int.mul_le_mul x0.2 (show -Y ≤ 500 by omega) (by omega) (by decide); have b := Int.mul_nonneg h (show 0 ≤ -Y by omega); rw [Int.mul_neg] at a b; omega
    · have a := Int.mul_le_mul (show -X ≤ 500 by omega) y0.2 k (by decide); have b := Int.mul_nonneg (show 0 ≤ -X by omega) k; rw [Int.neg_mul] at a b; omega
    · have a := Int.mul_le_mul (show -X ≤ 500 by omega) (show -Y ≤ 500 by omega) (by omega) (by decide); have b := Int.mul_nonneg (show 0 ≤ -X by omega) (show 0 ≤ -Y by omega); rw [Int.neg_mul_neg] at a b; omega
  rw [hX, hYY] at hbd
  have e1 : IntKind.i64.wrap (q.x + q.d) = q.x + q.d := IntWalk.i64_in _ (by omega)
  have e2 : IntKind.i64.wrap (q.y + q.d) = q.y + q.d := IntWalk.i64_in _ (by omega)
  have e3 : q.x + q.d - f.x = X := hX
  have e4 : q.y + q.d - f.y = Y := hYY
  have e5 : IntKind.i64.wrap X = X := IntWalk.i64_in _ (by omega)
  have e6 : IntKind.i64.wrap Y = Y := IntWalk.i64_in _ (by omega)
  have HX := Lib.hid hX
  have HY := Lib.hid hYY
  have HB := Lib.hid hbd
  clear hX hYY hbd
  obtain ⟨W3, hW3⟩ : ∃ W3, W3 = ((w.alloc (.cells #[.int .i64 W, .int .i64 H, .slice A L.length c] 31)).alloc (.cells #[.int .i64 f.x, .int .i64 f.y, .int .i64 f.d] 70)).alloc (.cells #[.int .i64 q.x, .int .i64 q.y, .int .i64 q.d] 70) := ⟨_, rfl⟩
  have hz3 : W3.heap.size = w.heap.size + 3 := by rw [hW3]; simp
  have hB3 : Below w.heap.size w W3 := by rw [hW3]; exact (((Below.refl _ _).alloc (Nat.le_refl _) _).alloc (by simp) _).alloc (by simp; omega) _
  have b2 : W3.cell? ⟨w.heap.size, 2, none⟩ = some (.slice A L.length c) := by rw [hW3]; simp [go_sem]
  have f0 : W3.cell? ⟨w.heap.size + 1, 0, none⟩ = some (.int .i64 f.x) := by rw [hW3]; simp [go_sem]
  have f1 : W3.cell? ⟨w.heap.size + 1, 1, none⟩ = some (.int .i64 f.y) := by rw [hW3]; simp [go_sem]
  have g0 : W3.cell? ⟨w.heap.size + 2, 0, none⟩ = some (.int .i64 q.x) := by rw [hW3]; simp [go_sem]
  have g1 : W3.cell? ⟨w.heap.size + 2, 1, none⟩ = some (.int .i64 q.y) := by rw [hW3]; simp [go_sem]
  have g2 : W3.cell? ⟨w.heap.size + 2, 2, none⟩ = some (.int .i64 q.d) := by rw [hW3]; simp [go_sem]
  go_enter Try.func89, Try.ntmps89
  go_wp2_with fail
  rw [← hW3]
  clear hW3
  have C : ∀ b o v, b < w.heap.size + 3 → W3.cell? ⟨b, o, none⟩ = some v → ∀ u : Later (w.heap.size + 3) W3, u.val.cell? ⟨b, o, none⟩ = some v := fun b o v hb h u => (u.ok.cell (p := ⟨b, o, none⟩) hb).trans h
  have F0 := C _ _ _ (by omega) f0
  have F1 := C _ _ _ (by omega) f1
  have G0 := C _ _ _ (by omega) g0
  have G1 := C _ _ _ (by omega) g1
  have G2 := C _ _ _ (by omega) g2
  refine wp_region_sub (w.heap.size + 3) (by kernel_rfl) (by kernel_rfl) ?_
  repeat (first | go_big_quiet_step (fail) | quiet_step (fail))
  refine wpQuiet_nil ?_
  rintro w4 ⟨uu, hu⟩; have hb4 := uu.ok; rw [← hu] at hb4; clear hu uu
  clear F0 F1 G0 G1 G2 C e1 e2 e3 e4 e5 e6
  have hz4 : w.heap.size + 3 ≤ w4.heap.size := by have := hb4.size; omega
  have b2' := (hb4.cell (p := ⟨w.heap.size, 2, none⟩) (by simp)).trans b2
  go_wp2_with fail
  go_loopw [9, 10, 35] (fun fr v i wr => ∃ k : Nat, k ≤ L.length ∧ i = .int .i64 k ∧ fr = .int .i64 (X * Y - inA f X Y L k) ∧ Below (w.heap.size + 3) W3 wr ∧ w.heap.size + 3 ≤ wr.heap.size ∧ wr.ownsRow (w.heap.size + 3) 3 1 v (inL f X Y L k).length (ints (inL f X Y L k))) (fun _ _ i _ => L.length - (intOf i).toNat)
  case atStart => exact ⟨0, Nat.zero_le _, rfl, by rw [inA_zero]; simp, hb4, hz4, World.ownsRow_nil _ _ _ _⟩
  case round =>
    obtain ⟨k, hk, rfl, rfl, hbr, hzr, hown⟩ := hrel
    have hLk := inL_len f X Y L k
    by_cases hlt : k < L.length
    · obtain ⟨s, hs⟩ : ∃ s, L[k]? = some s := ⟨_, List.getElem?_eq_getElem hlt⟩
      obtain ⟨b, off, rfl, hb, c0, c1, c2⟩ := (hL.below (hB3.trans (hbr.mono (by omega)))) k s hs
      have ws := HG.out s (List.mem_of_getElem? hs)
      unfold Within at ws
      have a0 := HB.out k
      have a1 := HB.out (k + 1)
      have d0 := sq_bound ws.1 (show s.d ≤ 500 by omega)
      have f0' := (hbr.cell (p := ⟨w.heap.size + 1, 0, none⟩) (by simp)).trans f0
      have f1' := (hbr.cell (p := ⟨w.heap.size + 1, 1, none⟩) (by simp)).trans f1
      have hsuc := inL_succ f X Y L k s hs
      have hsua := inA_succ f X Y L k s hs
      have k0 : (0 : Int) ≤ (k : Int) := by omega
      have k1 : (k : Int) < (L.length : Int) := by omega
      obtain ⟨IL, hIL⟩ : ∃ x, inL f X Y L k = x := ⟨_, rfl⟩
      obtain ⟨IA, hIA⟩ : ∃ x, inA f X Y L k = x := ⟨_, rfl⟩
      rw [hIL] at hsuc hLk hown
      rw [hIA] at hsua a0 ⊢
      have hw1 : (w.heap.size + 1) < wr.heap.size := by omega
      obtain ⟨A', c', rfl⟩ := own_val hown
      by_cases hin : InR f X Y s = true
      · rw [if_pos hin] at hsuc hsua
        have HSL := Lib.hid hsuc
        have HSA := Lib.hid hsua
        have hwin := (within_in ws.1).2 (inR_iff.1 hin)
        clear hsuc hsua hL hs f0 f1 g0 g1 g2 b2 b2' hIL hIA hin HB HX HY HG wf wq
        go_wp2_with fail
        refine (callB_yes (isWithin_small (s.x - f.x) (s.y - f.y) s.d X Y (by omega) (by omega) (by omega) (by omega) (by omega) (by omega) _) hwin).mono ?_
        rintro e w5 ⟨rfl, hb5⟩
        obtain ⟨hc5, _⟩ := bcell hb5
        have hz5 := hb5.size
        simp only [World.size_alloc, World.size_setCell] at hc5 hz5
        have m2 : w5.cell? ⟨wr.heap.size, 2, none⟩ = some (.int .i64 s.d) := by rw [hc5 _ _ (by omega)]; simp [go_sem]
        have hbx : Below wr.heap.size wr w5 := ((Below.refl wr.heap.size wr).alloc (Nat.le_refl _) (.cells #[.int .i64 (s.x - f.x), .int .i64 (s.y - f.y), .int .i64 s.d] 70)).trans (hb5.mono (show wr.heap.size ≤ _ by simp))
        have hown5 := own_keep hown hbx
        have hne : ∀ k, (Value.slice A' IL.length c').ownBlock = some k → k < wr.heap.size := fun k hk => (hown.lt k hk).2
        have hB5 := hbr.trans (hbx.mono hzr)
        clear hc5 hb5 hbx c0 c1 c2
        go_wp2_with (at_builtin; refine wpList_append_own _ rfl _ _ 42 rfl (w.heap.size + 3) 3 i0 (.int .i64 0) 1 8 Try.underlying42 hi hz0 hz1 hz2 rfl (by decide) _ _ _ rfl (hown5.alloc _) ⟨w5.heap.size, 0, none⟩ 1 1 [.int .i64 k] rfl rfl ?c1 ?c2 ?c3 ?c4 ?c5 ?_)
        case c1 =>
          intro j u hj
          match j, hj with
          | 0, hj => simp at hj; subst hj; simp [Addr.add]
        case c2 => intro u hu; simp at hu; subst hu; rfl
        case c3 => unfold maxLen; omega
        case c4 => omega
        case c5 => simp <;> omega
        intro v' w6 hown6 hgrow _
        have m2' := (hgrow.cell_far ⟨wr.heap.size, 2, none⟩ (by simp; omega) (fun e => by have h : wr.heap.size < wr.heap.size := hne _ e.symm; omega)).trans ((World.cell?_alloc_lt w5 _ ⟨wr.heap.size, 2, none⟩ (show wr.heap.size < w5.heap.size by omega)).trans m2)
        have hB6 : Below (w.heap.size + 3) W3 w6 := (hB5.alloc (by omega) _).grown hgrow (by simp; omega) (fun k hk => (hown.lt k hk).1)
        have hs6 := hgrow.size
        simp only [World.size_alloc] at hs6
        clear hgrow m2
        go_wp2_with fail
        go_roundw
        case rel => exact ⟨k + 1, by omega, by go_num, by rw [HSA.out]; congr 1; omega, hB6, by omega, by rw [HSL.out, ints_app, List.length_append]; exact hown6⟩
        case measure => simp [intOf]; omega
      · rw [if_neg hin] at hsuc hsua
        have HSL := Lib.hid hsuc
        have HSA := Lib.hid hsua
        have hwin : ¬ (1 ≤ s.d ∧ 0 ≤ s.x - f.x ∧ s.x - f.x ≤ X - s.d ∧ 0 ≤ s.y - f.y ∧ s.y - f.y ≤ Y - s.d) := fun h => hin (inR_iff.2 ((within_in ws.1).1 h))
        have HW := Lib.hid hwin
        clear hwin
        clear hsuc hsua hL hs f0 f1 g0 g1 g2 b2 b2' hIL hIA hin HB HX HY HG wq
        go_wp2_with fail
        refine (callB_no (isWithin_small (s.x - f.x) (s.y - f.y) s.d X Y (by omega) (by omega) (by omega) (by omega) (by omega) (by omega) _) HW.out).mono ?_
        rintro e w5 ⟨rfl, hb5⟩
        have hbx : Below wr.heap.size wr w5 := ((Below.refl wr.heap.size wr).alloc (Nat.le_refl _) (.cells #[.int .i64 (s.x - f.x), .int .i64 (s.y - f.y), .int .i64 s.d] 70)).trans (hb5.mono (show wr.heap.size ≤ _ by simp))
        have hown5 := own_keep hown hbx
        have hB5 := hbr.trans (hbx.mono hzr)
        have hz5 := hbx.size
        clear hb5 hbx c0 c1 c2
        go_wp2_with fail
        go_roundw
        case rel => exact ⟨k + 1, by omega, by go_num, by rw [HSA.out]; simp, hB5, by omega, by rw [HSL.out]; simpa using hown5⟩
        case measure => simp [intOf]; omega
    · obtain rfl : k = L.length := by omega
      have hR : btw L f q = if X * Y - inA f X Y L L.length = 0 then inL f X Y L L.length else [] := by unfold btw; rw [HX.out, HY.out]
      have HR := Lib.hid hR
      obtain ⟨IA, hIA⟩ : ∃ x, inA f X Y L L.length = x := ⟨_, rfl⟩
      have a0 := HB.out L.length
      rw [hIA] at a0 HR ⊢
      clear hR hIA HX HY HB
      obtain ⟨A', c', rfl⟩ := own_val hown
      by_cases hq : X * Y - IA = 0
      · go_wp2_with fail
        go_ret
        rw [HR.out, if_pos hq]
        exact RetL.mk rfl (own_base hown (by omega)) (hB3.trans (hbr.mono (by omega)))
      · have hq' : (X * Y - IA != 0) = true := by simpa using hq
        go_wp2_with fail
        go_ret
        rw [HR.out, if_neg hq]
        exact RetL.none_ (hB3.trans (hbr.mono (by omega)))
end Go.Proofs.Ytmjdmedlkcmgiaa
