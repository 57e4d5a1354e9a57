/- The walk of FnExactNetText. -/
import Derived.Test.YtmlnjmjemhbodaaDoorNy
import Derived.Test.YtmlnjmjemhbodaaDoorGen
set_option linter.all false
namespace Go.Proofs.YtmlnjmjemhbodaaDoor
open Go.RowKit

set_option maxRecDepth 100000 in
theorem lawNetText (W : Int) (A : Option Addr) (n c : Nat) (L : List Wi) (w : World) (hl : L.length = n) (hc : n ≤ c) (hn : n ≤ 1048576) (hL : WisAt w w.heap.size A L) (hwf : ∀ s ∈ L, wfW s) (hwfW : wfI W) (hT : TabOk w) :
    Calls Tryd.prog 6 #[.agg #[.int .i64 W, .slice A n c]] w fun e w' => e = .returned (.bool true) ∧ Below w.heap.size w w' := by
  subst hl
  have Z0 := NBox.start (W := W) (c := c) (t := 46) hL
  go_enter Tryd.func6, Tryd.ntmps6
  go_wp2_with fail
  refine (szNet_ok W A L.length c _ hn).mono ?_
  rintro e w1 ⟨rfl, hb1⟩
  have h' : ¬ (1048576 : Int) - L.length < 0 := by omega
  have Z1 := Z0.next hb1
  obtain ⟨hB1, hz1, b0, b1, hL1⟩ := id Z1
  clear Z0 hb1
  go_wp2_with fail
  refine (toNet_any W A L.length c L _ rfl hc hn (hL1.mono hB1.size)).mono ?_
  rintro e w2 ⟨g2, rfl, hb2, ho2⟩
  go_wp2_with fail
  refine ((specNt_any W _ _ _ L _ rfl hn (wis_of_own ho2))).mono ?_
  rintro e w3 ⟨rfl, hb3⟩
  have Z3 := (Z1.next hb2).next hb3
  obtain ⟨hB3, hz3, c0, c1, hL3⟩ := id Z3
  clear b0 b1 hL1 hb2 hb3 ho2 hB1 hz1 Z1
  go_wp2_with fail
  refine (toNet_any W A L.length c L _ rfl hc hn (hL3.mono hB3.size)).mono ?_
  rintro e w4 ⟨g4, rfl, hb4, ho4⟩
  have Z4 := Z3.next hb4
  clear c0 c1 hL3 hb4 hB3 hz3 Z3
  go_wp2_with fail
  obtain ⟨W5, hW5⟩ : ∃ W5, W5 = w4.alloc (.cells #[.int .i64 W, .slice (some ⟨g4, 0, none⟩) L.length L.length] 51) := ⟨_, rfl⟩
  have hb5 : Below w4.heap.size w4 W5 := by rw [hW5]; exact (Below.refl _ _).alloc (Nat.le_refl _) _
  have x0 : W5.cell? ⟨w4.heap.size, 0, none⟩ = some (.int .i64 W) := by rw [hW5]; simp
  have x1 : W5.cell? ⟨w4.heap.size, 1, none⟩ = some (.slice (some ⟨g4, 0, none⟩) L.length L.length) := by rw [hW5]; simp
  have hz5 : w4.heap.size < W5.heap.size := by rw [hW5]; simp
  have ho5 := own_keep ho4 hb5
  have Z5 := Z4.next hb5
  rw [← hW5]
  clear hW5 Z4 ho4 hb5
  refine ((implNt_any W _ _ _ L _ rfl hn (wis_of_own ho5) hwfW (hT.below Z5.1))).mono ?_
  rintro e w6 ⟨rfl, hb6⟩
  generalize bas (ntV W L) = r1
  generalize dc (NetG W L) = r2
  have q2 : (r2 != r2) = false := by simp
  have Z6 := Z5.next hb6
  obtain ⟨hB6, hz6, c0, c1, hL6⟩ := id Z6
  have y0 := (hb6.cell (p := ⟨w4.heap.size, 0, none⟩) hz5).trans x0
  have y1 := (hb6.cell (p := ⟨w4.heap.size, 1, none⟩) hz5).trans x1
  have hx6 := Nat.lt_of_lt_of_le hz5 hb6.size
  have ho6 := own_keep ho5 hb6
  have hX6 := wis_of_own ho6
  have hT6 := hL6.mono hB6.size
  clear x0 x1 Z5 Z6 ho5 ho6 hz5 hb6
  go_wp2_with fail
  go_region_held3 (fun w' => Below w6.heap.size w6 w' ∧ w6.heap.size ≤ w'.heap.size ∧ ∀ b o, b < w6.heap.size → w'.cell? ⟨b, o, none⟩ = w6.cell? ⟨b, o, none⟩)
    (first | exact keepS (by assumption) (by assumption) | exact ⟨(Below.refl _ _).drew, Nat.le_refl _, fun _ _ _ => rfl⟩)
    (first
      | (go_at_call 27; refine (toNet_any W A L.length c L _ rfl hc hn (wisS hT6 (by assumption))).mono ?_; rintro e w7 ⟨g7, rfl, hb7, ho7⟩)
      | (go_at_call 29; refine (eqNet_same W _ _ _ _ _ L _ rfl hn (Nat.le_refl _) (Nat.le_refl _) (wisS hX6 (by assumption)) (wis_of_own (by assumption))).mono ?_; rintro e w8 ⟨rfl, hb8⟩))
  go_wp2_with fail
  go_ret
  exact ⟨rfl, hB6.trans ((belowS (B := w6.heap.size) (by assumption)).mono hB6.size)⟩

theorem lawNetText_over (W : Int) (A : Option Addr) (n c : Nat) (w : World) (h : 1048576 < n) (hn : n ≤ 9223372036854775807) :
    Calls Tryd.prog 6 #[.agg #[.int .i64 W, .slice A n c]] w fun e w' => e = .returned (.bool true) ∧ Below w.heap.size w w' := by
  have hb0 : ∀ o : Obj, Below w.heap.size w (w.alloc o) := fun o => (Below.refl _ _).alloc (Nat.le_refl _) o
  go_enter Tryd.func6, Tryd.ntmps6
  go_wp2_with fail
  refine (szNet_over W A n c _ h hn).mono ?_
  rintro e w1 ⟨rfl, hb1⟩
  go_wp2_with fail
  go_ret
  exact ⟨rfl, (hb0 _).trans (hb1.mono (hb0 _).size)⟩
end Go.Proofs.YtmlnjmjemhbodaaDoor
