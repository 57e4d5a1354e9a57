/- DropWire: the program's. -/
import Derived.Test.YtfhbbidbbomagaaNetD
namespace Go.Proofs.Ytfhbbidbbomagaa
open Go.RowKit

/-- What a walk over the making of a net may lean on: what lies below its result's box, and that this box is there. -/
structure PD (B : Nat) (w2 w' : World) : Prop where
  bel : Below (B + 1) w2 w'
  sz : w2.heap.size ≤ w'.heap.size
  c0 : ∃ v, w'.cell? ⟨B + 1, 0, none⟩ = some v
  c1 : ∃ v, w'.cell? ⟨B + 1, 1, none⟩ = some v
  fz : ∀ o, w'.frozen? ⟨B + 1, o, none⟩ = false
  lt : B + 1 < w2.heap.size
theorem PD.drew {B : Nat} {w2 w' : World} (h : PD B w2 w') : PD B w2 w'.drew := ⟨h.bel.drew, h.sz, h.c0, h.c1, h.fz, h.lt⟩
theorem PD.below {B : Nat} {w2 wp w' : World} (h : PD B w2 wp) (hb : Below wp.heap.size wp w') : PD B w2 w' := by
  have hl := Nat.lt_of_lt_of_le h.lt h.sz
  obtain ⟨v0, h0⟩ := h.c0
  obtain ⟨v1, h1⟩ := h.c1
  exact ⟨h.bel.trans (hb.mono (Nat.le_of_lt hl)), Nat.le_trans h.sz hb.size, ⟨v0, (hb.cell (p := ⟨B + 1, 0, none⟩) hl).trans h0⟩, ⟨v1, (hb.cell (p := ⟨B + 1, 1, none⟩) hl).trans h1⟩, fun o => (hb.frozen (p := ⟨B + 1, o, none⟩) hl).trans (h.fz o), h.lt⟩
theorem PD.alloc {B : Nat} {w2 wp : World} (h : PD B w2 wp) (o : Obj) : PD B w2 (wp.alloc o) := h.below ((Below.refl _ _).alloc (Nat.le_refl _) o)
theorem PD.grown {B : Nat} {w2 wp w' : World} {row : Option Nat} (h : PD B w2 wp) (hg : wp.grownBy w' row) (hr : ∀ k, row = some k → w2.heap.size ≤ k) : PD B w2 w' := by
  have hl := Nat.lt_of_lt_of_le h.lt h.sz
  have hn : row ≠ some (B + 1) := fun e => by have := hr _ e; have := h.lt; omega
  obtain ⟨v0, h0⟩ := h.c0
  obtain ⟨v1, h1⟩ := h.c1
  exact ⟨h.bel.grown hg (Nat.le_of_lt hl) (fun k hk => by have := hr k hk; have := h.lt; omega), Nat.le_trans h.sz hg.size, ⟨v0, hg.cell h0 (fun e => hn e.symm)⟩, ⟨v1, hg.cell h1 (fun e => hn e.symm)⟩, fun o => (hg.frozen_far ⟨B + 1, o, none⟩ hl (fun e => hn e.symm)).trans (h.fz o), h.lt⟩
theorem PD.put {B : Nat} {w2 wp : World} (h : PD B w2 wp) (k : Nat) (v : Value) : PD B w2 (wp.setCell ⟨B + 1, k, none⟩ v) := by
  have hp := put_grown wp ⟨B + 1, k, none⟩ v
  obtain ⟨v0, h0⟩ := h.c0
  obtain ⟨v1, h1⟩ := h.c1
  refine ⟨h.bel.setCell (p := ⟨B + 1, k, none⟩) (Nat.le_refl _) v, Nat.le_trans h.sz hp.size, ?_, ?_, fun o => ?_, h.lt⟩
  · by_cases e : k = 0
    · subst e; exact ⟨v, by simp [go_sem, h0]⟩
    · exact ⟨v0, by simp [go_sem, h0, e]⟩
  · by_cases e : k = 1
    · subst e; exact ⟨v, by simp [go_sem, h1]⟩
    · exact ⟨v1, by simp [go_sem, h1, e]⟩
  · rw [show (wp.setCell ⟨B + 1, k, none⟩ v).frozen? ⟨B + 1, o, none⟩ = wp.frozen? ⟨B + 1, o, none⟩ by simp [go_sem]]
    exact h.fz o

def DropOk (N : Int) (L : List Wi) (k : Int) : Prop := NetG N L ∧ (0 ≤ k ∧ k < L.length) ∧ NetG N (L.eraseIdx k.toNat)
noncomputable def dropX (N : Int) (L : List Wi) (k : Int) : Int := if dc (DropOk N L k) then N else 0
noncomputable def dropL (N : Int) (L : List Wi) (k : Int) : List Wi := if dc (DropOk N L k) then L.eraseIdx k.toNat else []
theorem dropX_yes {N : Int} {L : List Wi} {k : Int} (h : DropOk N L k) : dropX N L k = N := by simp [dropX, dc_true h]
theorem dropX_no {N : Int} {L : List Wi} {k : Int} (h : ¬ DropOk N L k) : dropX N L k = 0 := by simp [dropX, dc_false h]
theorem dropL_yes {N : Int} {L : List Wi} {k : Int} (h : DropOk N L k) : dropL N L k = L.eraseIdx k.toNat := by simp [dropL, dc_true h]
theorem dropL_no {N : Int} {L : List Wi} {k : Int} (h : ¬ DropOk N L k) : dropL N L k = [] := by simp [dropL, dc_false h]
theorem own_addr {w : World} {base size n c : Nat} {e : TypeId} {A : Option Addr} {xs : List Value} (h : w.ownsRow base e size (.slice A n c) n xs) (hn : 0 < n) : ∃ g, A = some ⟨g, 0, none⟩ := by
  rcases h.2 with ⟨_, h'⟩ | ⟨g, cap, cur, h', _⟩
  · omega
  · simp only [Value.slice.injEq] at h'
    exact ⟨g, h'.1⟩
theorem NR.pd {B : Nat} {w0 wr : World} {N : Int} {A : Option Addr} {n c : Nat} (h : NR B w0 wr N A n c) : PD B wr wr := ⟨Below.refl _ _, Nat.le_refl _, ⟨_, h.res.c0⟩, ⟨_, h.res.c1⟩, h.fz, h.res.lt⟩

set_option maxRecDepth 100000 in
set_option maxHeartbeats 8000000 in
theorem implDrop_any (N : Int) (A : Option Addr) (n c : Nat) (L : List Wi) (k : Int) (w : World) (hl : L.length = n) (hn9 : n ≤ 9223372036854775807) (hL : WisAt w w.heap.size A L) (hN : wfI N) :
    Calls Try.prog 15 #[.agg #[.int .i64 N, .slice A n c], .int .i64 k] w (RetNet w (dropX N L k) (dropL N L k) (dc (DropOk N L k))) := by
  subst hl
  obtain ⟨W1, hW1⟩ : ∃ W1, W1 = (w.alloc (.cells #[.int .i64 N, .slice A L.length c] 28)).alloc (.cells #[.int .i64 0, .slice none 0 0] 28) := ⟨_, rfl⟩
  have Z1 : NR w.heap.size w W1 N A L.length c := by rw [hW1]; exact NR.start w N A L.length c
  have hL1 := hL.below Z1.bel
  obtain ⟨B, hB⟩ : ∃ B, w.heap.size = B := ⟨_, rfl⟩
  rw [hB] at Z1 hL hL1
  have hz1' := Z1.box.lt
  obtain ⟨_, n0, n1⟩ := id Z1.box
  by_cases hG : NetG N L
  · by_cases hk0 : k < 0
    · have hno : ¬ DropOk N L k := fun h => by have := h.2.1; omega
      rw [dropX_no hno, dropL_no hno, dc_false hno]
      clear hno
      go_enter Try.func15, Try.ntmps15
      go_wp2_with fail
      rw [← hW1]
      clear hW1
      refine (callB_yes (isNet_any N A _ c L _ rfl (hL1.mono (Nat.le_of_lt hz1')) hN hn9) hG).mono ?_
      rintro e w2 ⟨rfl, hb2⟩
      have Z2 := Z1.keep hb2
      obtain ⟨_, r0, r1⟩ := id Z2.res
      obtain ⟨hz, n0, n1⟩ := id Z2.box
      have t0 := Z2.fz 0
      have t1 := Z2.fz 1
      have hB2 := Z2.bel
      clear Z1 hL1
      go_wp2_with fail
      refine bodyPost_ret (v := .tuple #[.agg #[.int .i64 0, .slice none 0 0], .bool false]) (by simp [results, Try.results15, go_sem, r0, r1]) rfl ?_
      exact RetNet.mk rfl (World.ownsRow_nil _ _ _ _) (by rw [hB]; exact (hB2.setCell (p := ⟨B + 1, 0, none⟩) (by simp) _).setCell (p := ⟨B + 1, 1, none⟩) (by simp) _)
    by_cases hk1 : (L.length : Int) ≤ k
    · have hno : ¬ DropOk N L k := fun h => by have := h.2.1; omega
      rw [dropX_no hno, dropL_no hno, dc_false hno]
      clear hno
      go_enter Try.func15, Try.ntmps15
      go_wp2_with fail
      rw [← hW1]
      clear hW1
      refine (callB_yes (isNet_any N A _ c L _ rfl (hL1.mono (Nat.le_of_lt hz1')) hN hn9) hG).mono ?_
      rintro e w2 ⟨rfl, hb2⟩
      have Z2 := Z1.keep hb2
      obtain ⟨_, r0, r1⟩ := id Z2.res
      obtain ⟨hz, n0, n1⟩ := id Z2.box
      have t0 := Z2.fz 0
      have t1 := Z2.fz 1
      have hB2 := Z2.bel
      clear Z1 hL1
      go_wp2_with fail
      refine bodyPost_ret (v := .tuple #[.agg #[.int .i64 0, .slice none 0 0], .bool false]) (by simp [results, Try.results15, go_sem, r0, r1]) rfl ?_
      exact RetNet.mk rfl (World.ownsRow_nil _ _ _ _) (by rw [hB]; exact (hB2.setCell (p := ⟨B + 1, 0, none⟩) (by simp) _).setCell (p := ⟨B + 1, 1, none⟩) (by simp) _)
    obtain ⟨j, rfl⟩ := Int.eq_ofNat_of_zero_le (show 0 ≤ k by omega)
    have hjL : j < L.length := by omega
    have h30 := hG.2.1
    obtain ⟨X, hX⟩ : ∃ X, dropX N L j = X := ⟨_, rfl⟩
    obtain ⟨R, hR⟩ : ∃ R, dropL N L j = R := ⟨_, rfl⟩
    obtain ⟨ok, hK⟩ : ∃ ok, dc (DropOk N L j) = ok := ⟨_, rfl⟩
    rw [hX, hR, hK]
    have hel : (L.eraseIdx j).length = L.length - 1 := by rw [List.length_eraseIdx]; simp [hjL]
    have HOUT : Hid (∀ (A6 : Option Addr) (c6 : Nat) (base : Nat) (w6 : World), w6.ownsRow base 70 2 (.slice A6 (L.length - 1) c6) (L.length - 1) (flatW (L.eraseIdx j)) → Calls Try.prog 51 #[.agg #[.int .i64 N, .slice A6 (L.length - 1) c6]] w6 fun e w8 => ∃ A8 c8, e = .returned (.tuple #[.agg #[.int .i64 X, .slice A8 R.length c8], .bool ok]) ∧ w8.ownsRow base 70 2 (.slice A8 R.length c8) R.length (flatW R) ∧ Below w6.heap.size w6 w8) := Lib.hid fun A6 c6 base w6 o6 => by
      refine (netOrNone_any N A6 (L.length - 1) c6 (L.eraseIdx j) w6 hel (by omega) (wis_of_own o6) hN).mono ?_
      rintro e w8 ⟨hy, hn, hb8⟩
      by_cases hG2 : NetG N (L.eraseIdx j)
      · have hd : DropOk N L j := ⟨hG, ⟨by omega, by omega⟩, by simpa using hG2⟩
        rw [dropX_yes hd] at hX
        rw [dropL_yes hd, Int.toNat_natCast] at hR
        rw [dc_true hd] at hK
        subst hX hR hK
        rw [hel]
        exact ⟨A6, c6, hy hG2, own_keep o6 hb8, hb8⟩
      · have hd : ¬ DropOk N L j := fun h => hG2 (by simpa using h.2.2)
        rw [dropX_no hd] at hX
        rw [dropL_no hd] at hR
        rw [dc_false hd] at hK
        subst hX hR hK
        exact ⟨none, 0, hn hG2, World.ownsRow_nil _ _ _ _, hb8⟩
    have hk0' : (0 : Int) ≤ (j : Int) := by omega
    have hk1' : (j : Int) < (L.length : Int) := by omega
    have hw1 : IntKind.i64.wrap ((j : Int) + 1) = (j : Int) + 1 := IntWalk.i64_in _ (by omega)
    clear hX hR hK hel hk0 hk1
    go_enter Try.func15, Try.ntmps15
    go_wp2_with fail
    rw [← hW1]
    clear hW1
    refine (callB_yes (isNet_any N A _ c L _ rfl (hL1.mono (Nat.le_of_lt hz1')) hN hn9) hG).mono ?_
    rintro e w2 ⟨rfl, hb2⟩
    have Z2 := Z1.keep hb2
    clear Z1 hL1 hb2 hG n0 n1 hz1'
    obtain ⟨hz, n0, n1⟩ := id Z2.box
    have PA0 := Lib.hid Z2.pd
    have HS : Hid (∀ w' : World, PD B w2 w' → PD B w2 w' ∧ w'.cell? ⟨B, 0, none⟩ = some (.int .i64 N) ∧ w'.cell? ⟨B, 1, none⟩ = some (.slice A L.length c)) := Lib.hid fun w' h =>
      ⟨h, (h.bel.cell (p := ⟨B, 0, none⟩) (by simp)).trans n0, (h.bel.cell (p := ⟨B, 1, none⟩) (by simp)).trans n1⟩
    have HCL : Hid (∀ w' : World, PD B w2 w' → Calls Try.prog 53 #[.slice A L.length c] w' fun e w3 => ∃ g3 c3, e = .returned (.slice (some ⟨g3, 0, none⟩) L.length c3) ∧ w3.ownsRow w2.heap.size 70 2 (.slice (some ⟨g3, 0, none⟩) L.length c3) L.length (flatW L) ∧ PD B w2 w3) := Lib.hid fun w' h => by
      have hh := h.sz
      have hh2 := h.lt
      refine (cloneW_any A L.length c L w' rfl h30 (((hL.below Z2.bel).below (h.bel.mono (by omega))).mono (by omega))).mono ?_
      rintro e w3 ⟨A3, c3, rfl, o3, hb3⟩
      obtain ⟨g3, rfl⟩ := own_addr o3 (by omega)
      exact ⟨g3, c3, rfl, own_base o3 hh, h.below hb3⟩
    have HDE : Hid (∀ (w' : World) (g3 c3 : Nat), PD B w2 w' → w'.ownsRow w2.heap.size 70 2 (.slice (some ⟨g3, 0, none⟩) L.length c3) L.length (flatW L) → Calls Try.prog 52 #[.slice (some ⟨g3, 0, none⟩) L.length c3, .int .i64 j, .int .i64 ((j : Int) + 1)] w' fun e w5 => e = .returned (.slice (some ⟨g3, 0, none⟩) (L.length - 1) c3) ∧ w5.ownsRow w2.heap.size 70 2 (.slice (some ⟨g3, 0, none⟩) (L.length - 1) c3) (L.length - 1) (flatW (L.eraseIdx j)) ∧ PD B w2 w5) := Lib.hid fun w' g3 c3 h o => by
      refine (deleteW_any g3 L.length c3 j (j + 1) w2.heap.size L w' rfl hjL rfl (by omega) o).mono ?_
      rintro e w5 ⟨rfl, o5, g5⟩
      exact ⟨rfl, o5, h.grown g5 (fun k hk => by have := (own_lt o).1; cases hk; omega)⟩
    have hbel := Z2.bel
    have hsz2 := Z2.res.lt
    clear Z2 hL
    go_wp2_with fail
    go_region_held3 (fun w' => PD B w2 w' ∧ w'.cell? ⟨B, 0, none⟩ = some (.int .i64 N) ∧ w'.cell? ⟨B, 1, none⟩ = some (.slice A L.length c))
      (first | assumption | exact HS.out _ PA0.out.drew | exact HS.out _ (by assumption) | exact HS.out _ (PD.put (PD.put (And.left (by assumption)) _ _) _ _) | exact HS.out _ (PD.put (And.left (by assumption)) _ _))
      (first
        | (go_at_call 53; refine (HCL.out _ (And.left (by assumption))).mono ?_; rintro e w3 ⟨g3, c3, rfl, o3, hP3⟩)
        | (go_at_call 52; refine (HDE.out _ _ _ (And.left (by assumption)) o3).mono ?_; rintro e w5 ⟨rfl, o5, hP5⟩)
        | (go_at_call 51; refine (HOUT.out _ _ _ _ o5).mono ?_; rintro e w8 ⟨A8, c8, rfl, o8, hb8⟩; have hP8 := hP5.below hb8; obtain ⟨u0, r0⟩ := hP8.c0; obtain ⟨u1, r1⟩ := hP8.c1; have t0 := hP8.fz 0; have t1 := hP8.fz 1))
    all_goals
      have hB8 := hbel.trans (hP8.bel.mono (show B ≤ B + 1 by omega))
      go_wp2_with fail
      refine bodyPost_ret (v := .tuple #[.agg #[.int .i64 X, .slice A8 R.length c8], .bool ok]) (by simp [results, Try.results15, go_sem, r0, r1]) rfl ?_
      have RR := ownsRow_setCell_below (ownsRow_setCell_below o8 (a := ⟨B + 1, 0, none⟩) hsz2 (.int .i64 X)) (a := ⟨B + 1, 1, none⟩) hsz2 (.slice A8 R.length c8)
      exact RetNet.mk rfl (by rw [hB]; exact own_base RR (by omega)) (by rw [hB]; exact (hB8.setCell (p := ⟨B + 1, 0, none⟩) (by simp) _).setCell (p := ⟨B + 1, 1, none⟩) (by simp) _)
  · have hno : ¬ DropOk N L k := fun h => hG h.1
    rw [dropX_no hno, dropL_no hno, dc_false hno]
    clear hno
    go_enter Try.func15, Try.ntmps15
    go_wp2_with fail
    rw [← hW1]
    clear hW1
    refine (callB_no (isNet_any N A _ c L _ rfl (hL1.mono (Nat.le_of_lt hz1')) hN hn9) hG).mono ?_
    rintro e w2 ⟨rfl, hb2⟩
    have Z2 := Z1.keep hb2
    obtain ⟨_, r0, r1⟩ := id Z2.res
    obtain ⟨hz, n0, n1⟩ := id Z2.box
    have t0 := Z2.fz 0
    have t1 := Z2.fz 1
    have hB2 := Z2.bel
    clear Z1 hL1
    go_wp2_with fail
    refine bodyPost_ret (v := .tuple #[.agg #[.int .i64 0, .slice none 0 0], .bool false]) (by simp [results, Try.results15, go_sem, r0, r1]) rfl ?_
    exact RetNet.mk rfl (World.ownsRow_nil _ _ _ _) (by rw [hB]; exact (hB2.setCell (p := ⟨B + 1, 0, none⟩) (by simp) _).setCell (p := ⟨B + 1, 1, none⟩) (by simp) _)
end Go.Proofs.Ytfhbbidbbomagaa
