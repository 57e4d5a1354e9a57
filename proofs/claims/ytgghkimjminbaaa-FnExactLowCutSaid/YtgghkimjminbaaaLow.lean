/- Contracts of LowCut, the program's and the model's. -/
import Derived.Test.YtgghkimjminbaaaGcd
import Derived.Test.YtgghkimjminbaaaCutTail
set_option linter.all false
namespace Go.Proofs.Ytgghkimjminbaaa
open Go.RowKit

/-- The greatest common divisor of all sides. -/
def gL (L : List Sq) : Nat := L.foldl (fun a s => Nat.gcd a s.d.toNat) 0
theorem gL_take_succ (L : List Sq) (k : Nat) (s : Sq) (h : L[k]? = some s) : gL (L.take (k + 1)) = Nat.gcd (gL (L.take k)) s.d.toNat := by
  rw [List.take_add_one, h]; simp [gL]
theorem gL_bound (L : List Sq) (hd : ∀ (j : Nat) s, L[j]? = some s → 1 ≤ s.d ∧ s.d ≤ 500) : ∀ k, k ≤ L.length → gL (L.take k) ≤ 500 ∧ (1 ≤ k → 1 ≤ gL (L.take k))
  | 0, _ => by simp [gL]
  | k + 1, hk => by
    obtain ⟨s, hs⟩ : ∃ s, L[k]? = some s := ⟨_, List.getElem?_eq_getElem (by omega)⟩
    have h := hd k s hs
    rw [gL_take_succ L k s hs]
    have hp : 0 < s.d.toNat := by omega
    have := Nat.gcd_le_right (gL (L.take k)) hp
    have := Nat.gcd_pos_of_pos_right (gL (L.take k)) hp
    omega
def divS (g : Nat) (s : Sq) : Sq := ⟨s.x / (g : Int), s.y / (g : Int), s.d / (g : Int)⟩
def divL (g : Nat) (L : List Sq) : List Sq := L.map (divS g)
theorem divL_len (g : Nat) (L : List Sq) : (divL g L).length = L.length := by simp [divL]
theorem flat_div_succ (g : Nat) (L : List Sq) (k : Nat) (s : Sq) (h : L[k]? = some s) : flat (divL g (L.take (k + 1))) = flat (divL g (L.take k)) ++ [.int .i64 (s.x / (g : Int)), .int .i64 (s.y / (g : Int)), .int .i64 (s.d / (g : Int))] := by
  rw [List.take_add_one, h]; simp [divL, flat_app]; rfl
theorem div_small {x : Int} {g : Nat} (h0 : 0 ≤ x) (h : x ≤ 500) : 0 ≤ x / (g : Int) ∧ x / (g : Int) ≤ 500 :=
  ⟨Int.ediv_nonneg h0 (by omega), Int.le_trans (Int.ediv_le_self _ h0) h⟩

set_option maxRecDepth 100000 in
set_option maxHeartbeats 1000000 in
theorem implScaled_any (W H : Int) (A : Option Addr) (n c : Nat) (L : List Sq) (g0 : Nat) (w : World) (hl : L.length = n) (hc : n ≤ c) (hL : SqsAt w w.heap.size A L) (hG : Good W H L) (hg1 : 1 ≤ g0) (hg2 : g0 ≤ 500) :
    Calls Try.prog 84 #[.agg #[.int .i64 W, .int .i64 H, .slice A n c], .int .i64 1, .int .i64 g0] w fun e w' =>
      ∃ A' c', e = .returned (.agg #[.int .i64 (W / (g0 : Int)), .int .i64 (H / (g0 : Int)), .slice A' L.length c']) ∧ w'.ownsRow w.heap.size 39 3 (.slice A' L.length c') L.length (flat (divL g0 L)) ∧ Below w.heap.size w w' := by
  subst hl
  obtain ⟨i0, hi, hz0, hz1, hz2⟩ := info_parts infoSq
  have hb0 : ∀ o : Obj, Below w.heap.size w (w.alloc o) := fun o => (Below.refl _ _).alloc (Nat.le_refl _) o
  have Z0 : Box w.heap.size w (w.alloc (.cells #[.int .i64 W, .int .i64 H, .slice A L.length c] 24)) W H A c L := Box.start hL
  have hg30 := hG.2.2.1.2
  have hW := hG.1
  have hH := hG.2.1
  have Z1 := Z0.next ((Below.refl _ _).alloc (Nat.le_refl _) (.cells #[.int .i64 0, .int .i64 0, .slice none 0 0] 24))
  have q1 : Bx (w.heap.size + 1) ((w.alloc (.cells #[.int .i64 W, .int .i64 H, .slice A L.length c] 24)).alloc (.cells #[.int .i64 0, .int .i64 0, .slice none 0 0] 24)) 0 0 none 0 0 := by simpa using Bx.start (w.alloc (.cells #[.int .i64 W, .int .i64 H, .slice A L.length c] 24)) 0 0 none 0 0 24
  obtain ⟨W1, hW1⟩ : ∃ W1, W1 = ((w.alloc (.cells #[.int .i64 W, .int .i64 H, .slice A L.length c] 24)).alloc (.cells #[.int .i64 0, .int .i64 0, .slice none 0 0] 24)) := ⟨_, rfl⟩
  have hz : W1.heap.size = w.heap.size + 2 := by rw [hW1]; simp
  rw [← hW1] at Z1 q1
  have qf : ∀ o, W1.frozen? ⟨w.heap.size + 1, o, none⟩ = false := by intro o; rw [hW1]; exact World.frozen?_alloc_at _ _ _ _ (by simp)
  obtain ⟨hB1, hz1', b0, b1, b2, hL1⟩ := id Z1
  go_enter Try.func84, Try.ntmps84
  go_wp2_with (at_make; rw [← hW1]; refine wpList_make_full _ rfl _ _ 22 rfl (w.heap.size + 2) 39 i0 (.agg #[.int .i64 0, .int .i64 0, .int .i64 0]) 3 Try.underlying22 hi hz0 hz1 .i64 .i64 L.length L.length L.length rfl rfl rfl rfl (by rw [hz2]; omega) (by unfold maxLen; omega) (Nat.le_of_eq hz.symm) ?_; rw [hz]; intro w2 hown hgrow; have hb2 : Below W1.heap.size W1 w2 := (Below.refl _ _).grown hgrow (Nat.le_refl _) (by simp); have d2 := (hb2.cell (p := ⟨w.heap.size, 2, none⟩) hz1').trans b2)
  have hb2 : Below (w.heap.size + 2) W1 w2 := hb2.mono (Nat.le_of_eq hz.symm)
  have hs2 : w.heap.size + 2 < w2.heap.size := (own_lt hown).2
  clear d2 hgrow b0 b1 b2 hL1 Z0 hW1
  have Z2 : Box w.heap.size w w2 W H A c L := Z1.keep hb2 (by omega) (by omega)
  go_loopw [17] (fun i wr => ∃ k : Nat, k ≤ L.length ∧ i = .int .i64 k ∧ Below (w.heap.size + 2) W1 wr ∧ w.heap.size + 2 < wr.heap.size ∧ ∃ xs, wr.ownsRow (w.heap.size + 2) 39 3 (.slice (some ⟨w.heap.size + 2, 0, none⟩) L.length L.length) L.length xs ∧ xs.take (k * 3) = flat (divL g0 (L.take k))) (fun i _ => L.length - (intOf i).toNat)
  case atStart => exact ⟨0, Nat.zero_le _, rfl, hb2, hs2, _, hown, by simp [flat, divL]⟩
  case round =>
    obtain ⟨k, hk, rfl, hbr, hzr, xs, hown1, htake⟩ := hrel
    by_cases hlt : k < L.length
    · obtain ⟨s, hs⟩ : ∃ s, L[k]? = some s := ⟨_, List.getElem?_eq_getElem hlt⟩
      obtain ⟨b, off, rfl, hb, c0, c1, c2⟩ := (hL.below (hB1.trans (hbr.mono (by omega)))) k s hs
      have hok := (hG.2.2.2.1 k s hs)
      have hin : Within s W H := hok.1
      unfold Within at hin
      have HS := Lib.hid hs
      have HT := Lib.hid htake
      clear hs hL Z1 Z2 hown htake hok q1 hG
      go_wp2_with fail
      obtain ⟨w3, hw3⟩ : ∃ w3, w3 = wr.alloc (.cells #[.int .i64 s.x, .int .i64 s.y, .int .i64 s.d] 39) := ⟨_, rfl⟩
      have hb3 : Below wr.heap.size wr w3 := by rw [hw3]; exact (Below.refl _ _).alloc (Nat.le_refl _) _
      have x0 : w3.cell? ⟨wr.heap.size, 0, none⟩ = some (.int .i64 s.x) := by rw [hw3]; simp
      have x1 : w3.cell? ⟨wr.heap.size, 1, none⟩ = some (.int .i64 s.y) := by rw [hw3]; simp
      have x2 : w3.cell? ⟨wr.heap.size, 2, none⟩ = some (.int .i64 s.d) := by rw [hw3]; simp
      have hown2 := own_keep hown1 hb3
      obtain ⟨v0, e0⟩ := own_some hown2 (j := k * 3) (by omega)
      obtain ⟨v1, e1⟩ := own_some hown2 (j := k * 3 + 1) (by omega)
      obtain ⟨v2, e2⟩ := own_some hown2 (j := k * 3 + 2) (by omega)
      have f0 := hown2.frozenAt (k * 3)
      have f1 := hown2.frozenAt (k * 3 + 1)
      have f2 := hown2.frozenAt (k * 3 + 2)
      have g0' : (g0 : Int) ≠ 0 := by omega
      have k0 : (0 : Int) ≤ (k : Int) := by omega
      have k1 : (k : Int) < (L.length : Int) := by omega
      rw [← hw3]
      clear hw3 c0 c1 c2
      go_region
      go_wp2_with fail
      have hx := hown1.1
      have R := ((((hown2.stored (k * 3) (.int .i64 (s.x / (g0 : Int)))).1).stored (k * 3 + 1) (.int .i64 (s.y / (g0 : Int)))).1.stored (k * 3 + 2) (.int .i64 (s.d / (g0 : Int)))).1
      have hB := ((((hbr.trans (hb3.mono (by omega))).setCell (p := ⟨w.heap.size + 2, k * 3, none⟩) (Nat.le_refl _) (.int .i64 (s.x / (g0 : Int)))).setCell (p := ⟨w.heap.size + 2, k * 3 + 1, none⟩) (Nat.le_refl _) (.int .i64 (s.y / (g0 : Int)))).setCell (p := ⟨w.heap.size + 2, k * 3 + 2, none⟩) (Nat.le_refl _) (.int .i64 (s.d / (g0 : Int)))).drew
      have hs3 := hb3.size
      exact ⟨⟨k + 1, by omega, rfl, hB, by simp; omega, _, own_keep R (Below.refl _ _).drew, by rw [take_set3 _ _ _ _ _ (by omega), HT.out, flat_div_succ g0 L k s HS.out]⟩, by simp [intOf]; omega⟩
    · obtain rfl : k = L.length := by omega
      have hx := hown1.1
      rw [List.take_of_length_le (by omega), List.take_of_length_le (Nat.le_refl _)] at htake
      subst htake
      have Zr := Z1.keep hbr (by omega) (by omega)
      obtain ⟨_, _, b0, b1, _, _⟩ := id Zr
      have r0 := (hbr.cell (p := ⟨w.heap.size + 1, 0, none⟩) (by simp)).trans q1.c0
      have r1 := (hbr.cell (p := ⟨w.heap.size + 1, 1, none⟩) (by simp)).trans q1.c1
      have r2 := (hbr.cell (p := ⟨w.heap.size + 1, 2, none⟩) (by simp)).trans q1.c2
      have t0 := (hbr.frozen (p := ⟨w.heap.size + 1, 0, none⟩) (by simp)).trans (qf 0)
      have t1 := (hbr.frozen (p := ⟨w.heap.size + 1, 1, none⟩) (by simp)).trans (qf 1)
      have t2 := (hbr.frozen (p := ⟨w.heap.size + 1, 2, none⟩) (by simp)).trans (qf 2)
      have g0' : (g0 : Int) ≠ 0 := by omega
      clear hL Zr Z1 Z2 hG hown hb0 q1
      go_wp2_with fail
      go_region
      go_wp2_with fail
      have hB := (((((hbr.mono (B' := w.heap.size + 1) (by omega)).setCell (p := ⟨w.heap.size + 1, 0, none⟩) (Nat.le_refl _) (.int .i64 (W / (g0 : Int)))).setCell (p := ⟨w.heap.size + 1, 1, none⟩) (Nat.le_refl _) (.int .i64 (H / (g0 : Int)))).setCell (p := ⟨w.heap.size + 1, 2, none⟩) (Nat.le_refl _) (.slice (some ⟨w.heap.size + 2, 0, none⟩) L.length L.length))).drew
      have R := ownsRow_setCell_below (ownsRow_setCell_below (ownsRow_setCell_below hown1 (a := ⟨w.heap.size + 1, 0, none⟩) (by simp) (.int .i64 (W / (g0 : Int)))) (a := ⟨w.heap.size + 1, 1, none⟩) (by simp) (.int .i64 (H / (g0 : Int)))) (a := ⟨w.heap.size + 1, 2, none⟩) (by simp) (.slice (some ⟨w.heap.size + 2, 0, none⟩) L.length L.length)
      refine bodyPost_ret (v := .agg #[.int .i64 (W / (g0 : Int)), .int .i64 (H / (g0 : Int)), .slice (some ⟨w.heap.size + 2, 0, none⟩) L.length L.length]) (by simp [results, Try.results84, go_sem, r0, r1, r2]) rfl ?_
      exact ⟨_, _, rfl, own_base R.drew (by omega), hB1.trans (hB.mono (by omega))⟩
end Go.Proofs.Ytgghkimjminbaaa
