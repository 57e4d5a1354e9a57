/- The side at a cell: the program. -/
import Derived.Test.YtpbghalljfcaoaaPzG
import Derived.Test.YtpbghalljfcaoaaPzC
set_option linter.all false
namespace Go.Proofs.Ytpbghalljfcaoaa
open Go.RowKit

set_option maxRecDepth 100000 in
set_option maxHeartbeats 4000000 in
theorem sideAt_any (W H : Int) (A : Option Addr) (n c : Nat) (L : List Sq) (a : Int) (w : World) (hl : L.length = n) (hc : n ≤ c) (hL : SqsAt w w.heap.size A L) (hwf : ∀ s ∈ L, wfS s) (hG : Good W H L) :
    Calls Try.prog 70 #[.agg #[.int .i64 W, .int .i64 H, .slice A n c], .int .i64 a] w fun e w' => e = .returned (.int .i64 (cellN W H L a)) ∧ Below w.heap.size w w' := by
  subst hl
  have B0 : Below w.heap.size w (w.alloc (.cells #[.int .i64 W, .int .i64 H, .slice A L.length c] 47)) := (Below.refl _ _).alloc (Nat.le_refl _) _
  have K0 := Cv3.start w (.int .i64 W) (.int .i64 H) (.slice A L.length c) 47
  have hW0 : W ≠ 0 := by have := hG.1; omega
  go_enter Try.func70, Try.ntmps70
  go_wp2_with fail
  obtain ⟨W0, hW⟩ : ∃ W0, W0 = w.alloc (.cells #[.int .i64 W, .int .i64 H, .slice A L.length c] 47) := ⟨_, rfl⟩
  rw [← hW] at B0 K0 ⊢
  clear hW
  have C := fun x y (u : Later W0.heap.size W0) => at_det (implAt_any W H A L.length c L x y u.val rfl hc ((hL.below (B0.trans (u.ok.mono B0.size))).mono (Nat.le_trans B0.size u.ok.size)) hwf)
  have F0 : ∀ u : Later W0.heap.size W0, u.val.cell? ⟨w.heap.size, 0, none⟩ = some (.int .i64 W) := fun u => (u.ok.cell (p := ⟨_, _, none⟩) K0.lt).trans K0.c0
  have F1 : ∀ u : Later W0.heap.size W0, u.val.cell? ⟨w.heap.size, 1, none⟩ = some (.int .i64 H) := fun u => (u.ok.cell (p := ⟨_, _, none⟩) K0.lt).trans K0.c1
  have F2 : ∀ u : Later W0.heap.size W0, u.val.cell? ⟨w.heap.size, 2, none⟩ = some (.slice A L.length c) := fun u => (u.ok.cell (p := ⟨_, _, none⟩) K0.lt).trans K0.c2
  obtain ⟨k, s, hk, hs⟩ := atN_lt W H L (a.tmod W) (wrap64 (a.tdiv W)) hG
  obtain ⟨b, off, rfl, hb, c0, c1, c2⟩ := hL k s hs
  have hcell := cellN_eq hk hs
  have hkl := (List.getElem?_eq_some_iff.1 hs).1
  have HS := Lib.hid hs
  have d2 : ∀ w', Below W0.heap.size W0 w' → w'.cell? ⟨b, off + k * 3 + 2, none⟩ = some (.int .i64 s.d) := fun w' h => ((B0.trans (h.mono B0.size)).cell (p := ⟨b, _, none⟩) hb).trans c2
  clear hL c0 c1 c2 hs
  refine wp_region_sub W0.heap.size (by kernel_rfl) (by kernel_rfl) ?_
  repeat (first | go_big_quiet_step ((go_at_call 93; exact sub_of _ (Nat.le_refl _) (C _ _ _))) | quiet_step ((go_at_call 93; exact sub_of _ (Nat.le_refl _) (C _ _ _))))
  refine wpQuiet_nil ?_
  rintro w2 ⟨uu, hu⟩
  have hb2 : Below W0.heap.size W0 w2 := by rw [hu]; exact uu.ok
  clear hu uu
  have m2 := F2 ⟨w2, hb2⟩
  have e2 := d2 w2 hb2
  have i0 : (0 : Int) ≤ (k : Int) := by omega
  have i1 : (k : Int) < (L.length : Int) := by omega
  clear F0 F1 F2 d2 C
  dsimp only at m2
  rw [hk]
  go_wp2_with fail
  go_ret
  exact ⟨by rw [hcell]; rfl, B0.trans (hb2.mono B0.size)⟩
end Go.Proofs.Ytpbghalljfcaoaa
