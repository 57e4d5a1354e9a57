/- The walk of FnExactIsBalanced. -/
import Derived.Test.YthifflekbdeafaaNetY
import Derived.Test.YthifflekbdeafaaNetL
import Derived.Test.YthifflekbdeafaaFillJ
namespace Go.Proofs.Ythifflekbdeafaa
open Go.RowKit

set_option maxRecDepth 100000 in
set_option maxHeartbeats 4000000 in
theorem lawIsBalanced (W : Int) (A : Option Addr) (n c : Nat) (L : List Wi) (Ac : Option Addr) (nc cc : Nat) (cs : List Int) (w : World) (hl : L.length = n) (hlc : cs.length = nc) (hc : n ≤ c) (hcc : nc ≤ cc) (hn : n ≤ 1048576) (hnc : nc ≤ 1048576) (hL : WisAt w w.heap.size A L) (hC : IntsAt w w.heap.size Ac cs) (hwfW : wfI W) :
    Calls Try.prog 4 #[.agg #[.int .i64 W, .slice A n c], .slice Ac nc cc] w fun e w' => e = .returned (.bool true) ∧ Below w.heap.size w w' := by
  subst hl
  subst hlc
  obtain ⟨p, hp⟩ : ∃ p, dc (Asked W L cs ∧ IsBl (resS W.toNat (L.zip cs)) (L.zip cs)) = p := ⟨_, rfl⟩
  obtain ⟨q, hq⟩ : ∃ q, dc (Asked W L cs) = q := ⟨_, rfl⟩
  have HP := Lib.hid hp
  have HQ := Lib.hid hq
  clear hp hq
  have e1 : (p != p) = false := by simp
  have e2 : (q != q) = false := by simp
  have hgt : ¬ (1048576 : Int) < (cs.length : Int) := by omega
  have Z0 := NBox.start (W := W) (c := c) (t := 24) hL
  have hbz := (Below.refl w.heap.size w).alloc (Nat.le_refl _) (.cells #[.int .i64 W, .slice A L.length c] 24)
  have hC0 := hC.below hbz
  go_enter Try.func4, Try.ntmps4
  go_wp2_with fail
  refine (szNet_ok W A L.length c _ hn).mono ?_
  rintro e w1 ⟨rfl, hb1⟩
  have h' : ¬ (1048576 : Int) - L.length < 0 := by omega
  have Z1 := Z0.next hb1
  obtain ⟨hB1, hz1, b0, b1, hL1⟩ := id Z1
  clear Z0 hb1 hbz hC0
  go_wp2_with fail
  refine (toNet_any W A L.length c L _ rfl hc hn (hL1.mono hB1.size)).mono ?_
  rintro e w2 ⟨g2, rfl, hb2, ho2⟩
  have Z2 := Z1.next hb2
  obtain ⟨hB2, hz2, c0, c1, hL2⟩ := id Z2
  clear Z1 hb2 b0 b1 hL1 hB1 hz1
  go_wp2_with fail
  refine (toIntS_any Ac cs.length cc cs w2 rfl hnc ((hC.below hB2).mono hB2.size)).mono ?_
  rintro e w3 ⟨g3, rfl, hb3, ho3⟩
  have ho2 := own_keep ho2 hb3
  have Z3 := Z2.next hb3
  clear Z2 hb3 c0 c1 hL2 hB2 hz2
  go_wp2_with fail
  refine (specBal_any W _ _ _ L _ _ _ cs _ rfl rfl hn hnc (wis_of_own ho2) (ints_of_own ho3)).mono ?_
  rintro e w4 hret
  unfold RetBB at hret
  rw [HP.out, HQ.out] at hret
  obtain ⟨rfl, hb4⟩ := hret
  have Z4 := Z3.next hb4
  obtain ⟨hB4, hz4, c0, c1, hL4⟩ := id Z4
  clear Z3 hb4 ho2 ho3
  go_wp2_with fail
  refine (toNet_any W A L.length c L _ rfl hc hn (hL4.mono hB4.size)).mono ?_
  rintro e w5 ⟨g5, rfl, hb5, ho5⟩
  have Z5 := Z4.next hb5
  clear Z4 hb5 c0 c1 hL4 hB4 hz4
  go_wp2_with fail
  obtain ⟨W6, hW6⟩ : ∃ W6, W6 = w5.alloc (.cells #[.int .i64 W, .slice (some ⟨g5, 0, none⟩) L.length L.length] 31) := ⟨_, rfl⟩
  have bx : Nx w5.heap.size W6 W (some ⟨g5, 0, none⟩) L.length L.length := by rw [hW6]; exact Nx.start _ _ _ _ _ _
  have hb6 : Below w5.heap.size w5 W6 := by rw [hW6]; exact (Below.refl _ _).alloc (Nat.le_refl _) _
  have ox := own_keep ho5 hb6
  have Z6 := Z5.next hb6
  rw [← hW6]
  obtain ⟨V, hV⟩ : ∃ V, w5.heap.size = V := ⟨_, rfl⟩
  rw [hV] at bx ⊢
  clear hW6 Z5 ho5 hb6 hV
  have hB6 := Z6.below
  refine (toIntS_any Ac cs.length cc cs W6 rfl hnc ((hC.below hB6).mono hB6.size)).mono ?_
  rintro e w7 ⟨g7, rfl, hb7, oi⟩
  have ox := own_keep ox hb7
  have bx := bx.next hb7
  have Z7 := Z6.next hb7
  clear Z6 hb7 hB6
  obtain ⟨hx7, x0, x1⟩ := id bx
  go_wp2_with fail
  refine (implBal_any W _ _ _ L _ _ _ cs _ rfl rfl hn hnc (wis_of_own ox) (ints_of_own oi) hwfW).mono ?_
  rintro e w8 hret
  unfold RetBB at hret
  rw [HP.out, HQ.out] at hret
  obtain ⟨rfl, hb8⟩ := hret
  have Z8 := Z7.next hb8
  have bx := bx.next hb8
  have ox := own_keep ox hb8
  have oi := own_keep oi hb8
  clear Z7 hb8 x0 x1 hx7
  obtain ⟨hB8, hz8, c0, c1, hL8⟩ := id Z8
  obtain ⟨hx8, x0, x1⟩ := id bx
  have hX8 := wis_of_own ox
  have hT8 := hL8.mono hB8.size
  go_wp2_with fail
  go_region_held3 (fun w' => Below w8.heap.size w8 w' ∧ w8.heap.size ≤ w'.heap.size ∧ ∀ b o, b < w8.heap.size → w'.cell? ⟨b, o, none⟩ = w8.cell? ⟨b, o, none⟩)
    (first | exact keepS (by assumption) (by assumption) | exact ⟨(Below.refl _ _).drew, Nat.le_refl _, fun _ _ _ => rfl⟩)
    (first
      | (go_at_call 17; refine (toNet_any W A L.length c L _ rfl hc hn (wisS hT8 (by assumption))).mono ?_; rintro e w9 ⟨g9, rfl, hb9, ho9⟩)
      | (go_at_call 20; refine (eqNet_same W _ _ _ _ _ L _ rfl hn (Nat.le_refl _) (Nat.le_refl _) (wisS hX8 (by assumption)) (wis_of_own (by assumption))).mono ?_; rintro e w10 ⟨rfl, hb10⟩))
  have hb810 := belowS (B := w8.heap.size) (wp := w10) (by assumption)
  have oi := own_keep oi hb810
  have hB10 := hB8.trans (hb810.mono hB8.size)
  clear hX8 hT8 hL8 c0 c1 x0 x1 hb810 bx ox Z8
  go_wp2_with fail
  refine (toIntS_any Ac cs.length cc cs w10 rfl hnc ((hC.below hB10).mono hB10.size)).mono ?_
  rintro e w11 ⟨g11, rfl, hb11, oj⟩
  have oi := own_keep oi hb11
  have hB11 := hB10.trans (hb11.mono hB10.size)
  clear hb11
  go_wp2_with fail
  refine (eqIntS_same _ _ cs.length _ _ cs w11 rfl hnc (own_cap oi) (own_cap oj) (ints_of_own oi) (ints_of_own oj)).mono ?_
  rintro e w12 ⟨rfl, hb12⟩
  have hB12 := hB11.trans (hb12.mono hB11.size)
  go_wp2_with fail
  go_ret
  exact ⟨rfl, hB12⟩

theorem lawIsBalanced_over (W : Int) (A : Option Addr) (n c : Nat) (Ac : Option Addr) (nc cc : Nat) (w : World) (h : 1048576 < n) (hn : n ≤ 9223372036854775807) (hnc : nc ≤ 1048576) :
    Calls Try.prog 4 #[.agg #[.int .i64 W, .slice A n c], .slice Ac nc cc] w fun e w' => e = .returned (.bool true) ∧ Below w.heap.size w w' := by
  have hb0 : ∀ o : Obj, Below w.heap.size w (w.alloc o) := fun o => (Below.refl _ _).alloc (Nat.le_refl _) o
  have hgt : ¬ (1048576 : Int) < (nc : Int) := by omega
  go_enter Try.func4, Try.ntmps4
  go_wp2_with fail
  refine (szNet_over W A n c _ h hn).mono ?_
  rintro e w1 ⟨rfl, hb1⟩
  go_wp2_with fail
  go_ret
  exact ⟨rfl, (hb0 _).trans (hb1.mono (hb0 _).size)⟩
theorem lawIsBalanced_many (W : Int) (A : Option Addr) (n c : Nat) (Ac : Option Addr) (nc cc : Nat) (w : World) (h : 1048576 < nc) :
    Calls Try.prog 4 #[.agg #[.int .i64 W, .slice A n c], .slice Ac nc cc] w fun e w' => e = .returned (.bool true) ∧ Below w.heap.size w w' := by
  have hgt : (1048576 : Int) < (nc : Int) := by omega
  go_enter Try.func4, Try.ntmps4
  go_wp2_with fail
  go_ret
  exact ⟨rfl, (Below.refl _ _).alloc (Nat.le_refl _) _⟩
end Go.Proofs.Ythifflekbdeafaa
