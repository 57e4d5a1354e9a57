/- Cuts copied by the model. -/
import Derived.Test.YtchabjmdjpfkfaaFirstD
set_option linter.all false
namespace Go.Proofs.Ytchabjmdjpfkfaa
open Go.RowKit

theorem src_sqsF {w : World} {B : Nat} {A : Option Addr} {n c : Nat} {L : List Sq} (hl : L.length = n) (hn : 1 ≤ n) (hL : SqsAt w B A L) : Src w A n c (flat L) := by
  obtain ⟨s0, h0⟩ : ∃ s, L[0]? = some s := ⟨_, List.getElem?_eq_getElem (by omega)⟩
  obtain ⟨b, off, rfl, _, _⟩ := hL 0 s0 h0
  refine .inr ⟨_, rfl, fun j u hu => ?_⟩
  have hj : j < L.length * 3 := by have := (List.getElem?_eq_some_iff.1 hu).1; rwa [flat_len] at this
  obtain ⟨s, hs⟩ : ∃ s, L[j / 3]? = some s := ⟨_, List.getElem?_eq_getElem (by omega)⟩
  obtain ⟨b, off, e, _, c0, c1, c2⟩ := hL (j / 3) s hs
  have f := flat_get L (j / 3) s hs
  cases e
  rw [add_at]
  rcases (by omega : j % 3 = 0 ∨ j % 3 = 1 ∨ j % 3 = 2) with h | h | h
  · rw [show j = j / 3 * 3 by omega] at hu ⊢
    rw [f.1] at hu
    rw [← hu]; exact c0
  · rw [show j = j / 3 * 3 + 1 by omega] at hu ⊢
    rw [f.2.1] at hu
    rw [← hu]; exact c1
  · rw [show j = j / 3 * 3 + 2 by omega] at hu ⊢
    rw [f.2.2] at hu
    rw [← hu]; exact c2
/-- It returns a cut in memory of the call's own. -/
def RetC (w : World) (X Y : Int) (L : List Sq) (e : Ending) (w' : World) : Prop :=
  ∃ A c, e = .returned (.agg #[.int .i64 X, .int .i64 Y, .slice A L.length c]) ∧ w'.ownsRow w.heap.size 77 3 (.slice A L.length c) L.length (flat L) ∧ Below w.heap.size w w'

set_option maxRecDepth 100000 in
set_option maxHeartbeats 4000000 in
theorem cuOwn_any (W H : Int) (A : Option Addr) (n c : Nat) (L : List Sq) (w : World) (hl : L.length = n) (hn1 : 1 ≤ n) (hn : n ≤ 30) (hL : SqsAt w w.heap.size A L) :
    Calls Try.prog 122 #[.agg #[.int .i64 W, .int .i64 H, .slice A n c]] w (RetC w W H L) := by
  subst hl
  obtain ⟨i0, hi, hz0, hz1, hz2⟩ := info_parts infoSq
  obtain ⟨W1, hW1⟩ : ∃ W1, W1 = (w.alloc (.cells #[.int .i64 W, .int .i64 H, .slice A L.length c] 50)).alloc (.cells #[.int .i64 0, .int .i64 0, .slice none 0 0] 50) := ⟨_, rfl⟩
  have hB1 : Below w.heap.size w W1 := by rw [hW1]; exact ((Below.refl _ _).alloc (Nat.le_refl _) _).alloc (by simp) _
  have hzz : W1.heap.size = w.heap.size + 2 := by rw [hW1]; simp
  have b0 : W1.cell? ⟨w.heap.size, 0, none⟩ = some (.int .i64 W) := by rw [hW1]; simp [go_sem]
  have b1 : W1.cell? ⟨w.heap.size, 1, none⟩ = some (.int .i64 H) := by rw [hW1]; simp [go_sem]
  have b2 : W1.cell? ⟨w.heap.size, 2, none⟩ = some (.slice A L.length c) := by rw [hW1]; simp [go_sem]
  have r0 : W1.cell? ⟨w.heap.size + 1, 0, none⟩ = some (.int .i64 0) := by rw [hW1]; simp [go_sem]
  have r1 : W1.cell? ⟨w.heap.size + 1, 1, none⟩ = some (.int .i64 0) := by rw [hW1]; simp [go_sem]
  have r2 : W1.cell? ⟨w.heap.size + 1, 2, none⟩ = some (.slice none 0 0) := by rw [hW1]; simp [go_sem]
  have qf : ∀ b o, w.heap.size ≤ b → b < w.heap.size + 2 → W1.frozen? ⟨b, o, none⟩ = false := by
    intro b o h1 h2
    rw [hW1]
    by_cases e : b = w.heap.size
    · subst e
      rw [World.frozen?_alloc_past _ _ _ (by simp)]
      exact World.frozen?_alloc_at _ _ _ _ rfl
    · exact World.frozen?_alloc_at _ _ _ _ (by simp; omega)
  have hsrc : Src (W1.alloc (.cells #[] 77)) A L.length c (flat L) := src_sqsF (B := w.heap.size) rfl hn1 (hL.below (hB1.alloc hB1.size _))
  have hfl : (flat L).length = L.length * 3 := flat_len L
  have HFL := Lib.hid hfl
  have HSR := Lib.hid hsrc
  have hzw : w.heap.size < W1.heap.size := by omega
  have hzw1 : w.heap.size + 1 < W1.heap.size := by omega
  clear hfl hsrc hL
  have own0 : (W1.alloc (.cells #[] 77)).ownsRow (w.heap.size + 1 + 1) 77 3 (.slice (some ⟨w.heap.size + 1 + 1, 0, none⟩) 0 0) 0 [] := by
    have := World.ownsRow_lit (e := 77) (size := 3) W1 #[] 0 (Nat.le_refl _) (Nat.zero_le _) rfl
    rw [hzz] at this
    exact this
  go_enter Try.func122, Try.ntmps122
  go_wp2_with (at_builtin; rw [← hW1]; refine app_list rfl _ _ _ rfl (w.heap.size + 1 + 1) 77 i0 (.agg #[.int .i64 0, .int .i64 0, .int .i64 0]) 3 24 Try.underlying48 hi hz0 hz1 hz2 rfl (by decide) (.slice (some ⟨w.heap.size + 1 + 1, 0, none⟩) 0 0) 0 [] rfl own0 A L.length c (flat L) rfl HFL.out HSR.out (flat_one _) (app_room (Nat.zero_le _) hn).1 (app_room (Nat.zero_le _) hn).2 (by simp; omega) ?_; intro v' w2 hown hgr _; obtain ⟨A1, c1, rfl⟩ := own_val hown; simp only [Nat.zero_add, List.nil_append] at hown; have hb2 : Below (w.heap.size + 2) W1 w2 := ((Below.refl (w.heap.size + 2) W1).alloc (by omega) _).grown hgr (by simp; omega) (fun kk hkk => by simp [Value.ownBlock] at hkk; omega); have b0 := (hb2.cell (p := ⟨w.heap.size, 0, none⟩) (by simp)).trans b0; have b1 := (hb2.cell (p := ⟨w.heap.size, 1, none⟩) (by simp)).trans b1; have b2 := (hb2.cell (p := ⟨w.heap.size, 2, none⟩) (by simp)).trans b2; have f2 := (hb2.frozen (p := ⟨w.heap.size, 2, none⟩) (by simp)).trans (qf w.heap.size 2 (by omega) (by omega)); have r0 := (hb2.cell (p := ⟨w.heap.size + 1, 0, none⟩) (by simp)).trans r0; have r1 := (hb2.cell (p := ⟨w.heap.size + 1, 1, none⟩) (by simp)).trans r1; have r2 := (hb2.cell (p := ⟨w.heap.size + 1, 2, none⟩) (by simp)).trans r2; have g0 := (hb2.frozen (p := ⟨w.heap.size + 1, 0, none⟩) (by simp)).trans (qf (w.heap.size + 1) 0 (by omega) (by omega)); have g1 := (hb2.frozen (p := ⟨w.heap.size + 1, 1, none⟩) (by simp)).trans (qf (w.heap.size + 1) 1 (by omega) (by omega)); have g2 := (hb2.frozen (p := ⟨w.heap.size + 1, 2, none⟩) (by simp)).trans (qf (w.heap.size + 1) 2 (by omega) (by omega)))
  have hBE := ((((hB1.trans (hb2.mono (by omega))).setCell (p := ⟨w.heap.size, 2, none⟩) (by simp) (.slice A1 L.length c1)).setCell (p := ⟨w.heap.size + 1, 0, none⟩) (by simp) (.int .i64 W)).setCell (p := ⟨w.heap.size + 1, 1, none⟩) (by simp) (.int .i64 H)).setCell (p := ⟨w.heap.size + 1, 2, none⟩) (by simp) (.slice A1 L.length c1)
  have R := ownsRow_setCell_below (ownsRow_setCell_below (ownsRow_setCell_below (ownsRow_setCell_below hown (a := ⟨w.heap.size, 2, none⟩) (by simp; omega) (.slice A1 L.length c1)) (a := ⟨w.heap.size + 1, 0, none⟩) (by simp) (.int .i64 W)) (a := ⟨w.heap.size + 1, 1, none⟩) (by simp) (.int .i64 H)) (a := ⟨w.heap.size + 1, 2, none⟩) (by simp) (.slice A1 L.length c1)
  refine bodyPost_ret (v := .agg #[.int .i64 W, .int .i64 H, .slice A1 L.length c1]) (by simp [results, Try.results122, go_sem, r0, r1, r2]) rfl ?_
  exact ⟨A1, c1, rfl, own_base R (by omega), hBE⟩
end Go.Proofs.Ytchabjmdjpfkfaa
