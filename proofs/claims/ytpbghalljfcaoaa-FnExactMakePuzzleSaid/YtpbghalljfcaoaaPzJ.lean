/- What a clue tells of a cut: the model. -/
import Derived.Test.YtpbghalljfcaoaaPzI
set_option linter.all false
namespace Go.Proofs.Ytpbghalljfcaoaa
open Go.RowKit

set_option maxRecDepth 100000 in
set_option maxHeartbeats 8000000 in
theorem pv_0 (W H : Int) (A : Option Addr) (n c : Nat) (L : List Sq) (a : Int) (w : World) (hl : L.length = n) (hc : n ≤ c) (hL : SqsAt w w.heap.size A L) (hG : Good W H L) :
    Calls Try.prog 64 #[.int .i64 0, .int .i64 a, .agg #[.int .i64 W, .int .i64 H, .slice A n c]] w fun e w' => e = .returned (.int .i64 ((L.length : Nat))) ∧ Below w.heap.size w w' := by
  subst hl
  go_enter Try.func64, Try.ntmps64
  go_wp2_with fail
  go_ret
  exact ⟨rfl, (Below.refl _ _).alloc (Nat.le_refl _) _⟩
set_option maxRecDepth 100000 in
set_option maxHeartbeats 8000000 in
theorem pv_2 (W H : Int) (A : Option Addr) (n c : Nat) (L : List Sq) (a : Int) (w : World) (hl : L.length = n) (hc : n ≤ c) (hL : SqsAt w w.heap.size A L) (hG : Good W H L) :
    Calls Try.prog 64 #[.int .i64 2, .int .i64 a, .agg #[.int .i64 W, .int .i64 H, .slice A n c]] w fun e w' => e = .returned (.int .i64 (cellN W H L a)) ∧ Below w.heap.size w w' := by
  subst hl
  have B0 : Below w.heap.size w (w.alloc (.cells #[.int .i64 W, .int .i64 H, .slice A L.length c] 47)) := (Below.refl _ _).alloc (Nat.le_refl _) _
  have K0 := Cv3.start w (.int .i64 W) (.int .i64 H) (.slice A L.length c) 47
  have hW0 : W ≠ 0 := by have := hG.1; omega
  go_enter Try.func64, Try.ntmps64
  go_wp2_with fail
  obtain ⟨W0, hW⟩ : ∃ W0, W0 = w.alloc (.cells #[.int .i64 W, .int .i64 H, .slice A L.length c] 47) := ⟨_, rfl⟩
  rw [← hW] at B0 K0 ⊢
  clear hW
  have C := fun x y (u : Later W0.heap.size W0) => at_det (specAt_any W H A L.length c L x y u.val rfl hc ((hL.below (B0.trans (u.ok.mono B0.size))).mono (Nat.le_trans B0.size u.ok.size)))
  have F0 : ∀ u : Later W0.heap.size W0, u.val.cell? ⟨w.heap.size, 0, none⟩ = some (.int .i64 W) := fun u => (u.ok.cell (p := ⟨_, _, none⟩) K0.lt).trans K0.c0
  have F1 : ∀ u : Later W0.heap.size W0, u.val.cell? ⟨w.heap.size, 1, none⟩ = some (.int .i64 H) := fun u => (u.ok.cell (p := ⟨_, _, none⟩) K0.lt).trans K0.c1
  have F2 : ∀ u : Later W0.heap.size W0, u.val.cell? ⟨w.heap.size, 2, none⟩ = some (.slice A L.length c) := fun u => (u.ok.cell (p := ⟨_, _, none⟩) K0.lt).trans K0.c2
  obtain ⟨k, s, hk, hs⟩ := atN_lt W H L (a.tmod W) (wrap64 (a.tdiv W)) hG
  obtain ⟨b, off, rfl, hb, c0, c1, c2⟩ := hL k s hs
  have hcell := cellN_eq hk hs
  have hkl := (List.getElem?_eq_some_iff.1 hs).1
  have HS := Lib.hid hs
  have d2 : ∀ w', Below W0.heap.size W0 w' → w'.cell? ⟨b, off + k * 3 + 2, none⟩ = some (.int .i64 s.d) := fun w' h => ((B0.trans (h.mono B0.size)).cell (p := ⟨b, _, none⟩) hb).trans c2
  clear hL c0 c1 c2 hs
  refine wp_region_sub W0.heap.size (by kernel_rfl) (by kernel_rfl) ?_
  repeat (first | go_big_quiet_step ((go_at_call 80; exact sub_of _ (Nat.le_refl _) (C _ _ _))) | quiet_step ((go_at_call 80; exact sub_of _ (Nat.le_refl _) (C _ _ _))))
  refine wpQuiet_nil ?_
  rintro w2 ⟨uu, hu⟩
  have hb2 : Below W0.heap.size W0 w2 := by rw [hu]; exact uu.ok
  clear hu uu
  have m2 := F2 ⟨w2, hb2⟩
  have e2 := d2 w2 hb2
  have i0 : (0 : Int) ≤ (k : Int) := by omega
  have i1 : (k : Int) < (L.length : Int) := by omega
  clear F0 F1 F2 d2 C
  dsimp only at m2
  rw [hk]
  go_wp2_with fail
  go_ret
  exact ⟨by rw [hcell]; rfl, B0.trans (hb2.mono B0.size)⟩
theorem specEdges_at (W H : Int) (A : Option Addr) (n c : Nat) (L : List Sq) (i : Nat) (hi : i < 4) (w : World) (hl : L.length = n) (hc : n ≤ c) (hL : SqsAt w w.heap.size A L) (hG : Good W H L) :
    Calls Try.prog 81 #[.agg #[.int .i64 W, .int .i64 H, .slice A n c]] w fun e w' => ∃ g c4, e = .returned (.tuple #[.slice (some ⟨g, 0, none⟩) 4 c4, .bool true]) ∧ w'.cell? ⟨g, i, none⟩ = some (.int .i64 (edgeN W H L i)) ∧ Below w.heap.size w w' := by
  refine (specEdges_any W H A n c L w hl hc hL).mono ?_
  rintro e w' ⟨A4, c4, rfl, o4, hb4⟩
  rw [ifGood_yes hG, dc_true hG] at *
  have h4 : (edgesU W H L L.length).length = 4 := rfl
  have hg : (edgesU W H L L.length)[i]? = some (edgeN W H L i) := by
    unfold edgeN
    rw [Int.toNat_natCast, List.getElem?_eq_getElem (by rw [h4]; exact hi)]; rfl
  obtain ⟨g, rfl⟩ := own_form o4 (by rw [h4]; decide)
  obtain ⟨b, off, e, hb, hc⟩ := ints_of_own o4 i _ hg
  cases e
  rw [Nat.zero_add] at hc
  exact ⟨_, _, rfl, hc, hb4⟩
set_option maxRecDepth 100000 in
set_option maxHeartbeats 8000000 in
theorem pv_3 (W H : Int) (A : Option Addr) (n c : Nat) (L : List Sq) (i : Nat) (w : World) (hl : L.length = n) (hc : n ≤ c) (hL : SqsAt w w.heap.size A L) (hG : Good W H L) (hi : i < 4) :
    Calls Try.prog 64 #[.int .i64 3, .int .i64 (i : Int), .agg #[.int .i64 W, .int .i64 H, .slice A n c]] w fun e w' => e = .returned (.int .i64 (edgeN W H L i)) ∧ Below w.heap.size w w' := by
  subst hl
  have B0 : Below w.heap.size w (w.alloc (.cells #[.int .i64 W, .int .i64 H, .slice A L.length c] 47)) := (Below.refl _ _).alloc (Nat.le_refl _) _
  have K0 := Cv3.start w (.int .i64 W) (.int .i64 H) (.slice A L.length c) 47
  obtain ⟨kl, k0, k1, k2⟩ := id K0
  go_enter Try.func64, Try.ntmps64
  go_wp2_with fail
  clear kl k0 k1 k2
  obtain ⟨W0, hW⟩ : ∃ W0, W0 = w.alloc (.cells #[.int .i64 W, .int .i64 H, .slice A L.length c] 47) := ⟨_, rfl⟩
  rw [← hW] at B0 K0 ⊢
  clear hW
  refine (specEdges_at W H A L.length c L i hi W0 rfl hc ((hL.below B0).mono B0.size) hG).mono ?_
  rintro e w2 ⟨g4, c4, rfl, e4, hb2⟩
  have i0 : (0 : Int) ≤ (i : Int) := by omega
  have i1 : (i : Int) < (4 : Int) := by omega
  go_wp2_with fail
  go_ret
  exact ⟨rfl, B0.trans (hb2.mono B0.size)⟩
set_option maxRecDepth 100000 in
set_option maxHeartbeats 8000000 in
theorem pv_5 (W H : Int) (A : Option Addr) (n c : Nat) (L : List Sq) (a : Int) (w : World) (hl : L.length = n) (hc : n ≤ c) (hL : SqsAt w w.heap.size A L) (hG : Good W H L) :
    Calls Try.prog 64 #[.int .i64 5, .int .i64 a, .agg #[.int .i64 W, .int .i64 H, .slice A n c]] w fun e w' => e = .returned (.int .i64 (lineN W H L)) ∧ Below w.heap.size w w' := by
  subst hl
  have B0 : Below w.heap.size w (w.alloc (.cells #[.int .i64 W, .int .i64 H, .slice A L.length c] 47)) := (Below.refl _ _).alloc (Nat.le_refl _) _
  have K0 := Cv3.start w (.int .i64 W) (.int .i64 H) (.slice A L.length c) 47
  have h30 : L.length ≤ 30 := hG.2.2.1.2
  have hB1 := B0
  obtain ⟨WW, HH, rfl, rfl, hC⟩ := cut_of_good hG
  have hG' := good_turn hG
  have HG := Lib.hid hG
  have HG' := Lib.hid hG'
  have HC := Lib.hid hC
  have hLT := (hL.below B0).mono B0.size
  obtain ⟨kl, b0, b1, b2⟩ := id K0
  clear hL hG hG' hC
  go_enter Try.func64, Try.ntmps64
  go_wp2_with fail
  obtain ⟨w1, hW⟩ : ∃ w1, w1 = w.alloc (.cells #[.int .i64 (WW : Nat), .int .i64 (HH : Nat), .slice A L.length c] 47) := ⟨_, rfl⟩
  rw [← hW] at B0 K0 hB1 hLT kl b0 b1 b2 ⊢
  clear hW
  have HLT := Lib.hid hLT
  clear hLT
  have C1 : ∀ w' : World, (Below w1.heap.size w1 w' ∧ w1.heap.size ≤ w'.heap.size ∧ ∀ b o, b < w1.heap.size → w'.cell? ⟨b, o, none⟩ = w1.cell? ⟨b, o, none⟩) → Calls Try.prog 83 #[.agg #[.int .i64 (WW : Nat), .int .i64 (HH : Nat), .slice A L.length c]] w' fun e w2 => (∃ m, e = .returned (.int .i64 m) ∧ M.SpecM L WW HH m ∧ m ≤ (WW : Nat)) ∧ Below w'.heap.size w' w2 := fun w' hS => cuLine_any WW HH A L.length c L w' rfl hc HG.out (sqsS HLT.out hS)
  have C2 : ∀ w' : World, (Below w1.heap.size w1 w' ∧ w1.heap.size ≤ w'.heap.size ∧ ∀ b o, b < w1.heap.size → w'.cell? ⟨b, o, none⟩ = w1.cell? ⟨b, o, none⟩) → Calls Try.prog 84 #[.agg #[.int .i64 (WW : Nat), .int .i64 (HH : Nat), .slice A L.length c]] w' (RetOrd w' w'.heap.size HH WW (turnL HH L)) := fun w' hS => cuTurn_any WW HH A L.length c L w' rfl hc (sqsS HLT.out hS) HG.out
  have C3 : ∀ (Ag : Option Addr) (cg : Nat) (w' : World), (∃ base, w'.ownsRow base 85 3 (.slice Ag (turnL HH L).length cg) (turnL HH L).length (flat (srt (turnL HH L)))) → Calls Try.prog 83 #[.agg #[.int .i64 (HH : Nat), .int .i64 (WW : Nat), .slice Ag (turnL HH L).length cg]] w' fun e w2 => (∃ m, e = .returned (.int .i64 m) ∧ M.SpecM (srt (turnL HH L)) HH WW m ∧ m ≤ (HH : Nat)) ∧ Below w'.heap.size w' w2 := fun Ag cg w' hS => by
    obtain ⟨base, hown⟩ := hS
    exact cuLine_any HH WW Ag _ cg (srt (turnL HH L)) w' (srt_len _) (own_cap hown) HG'.out (sqs_of_own hown)
  go_wp2_with fail
  go_region_held3 (fun w' => Below w1.heap.size w1 w' ∧ w1.heap.size ≤ w'.heap.size ∧ ∀ b o, b < w1.heap.size → w'.cell? ⟨b, o, none⟩ = w1.cell? ⟨b, o, none⟩)
    (first | assumption | exact keepS (by assumption) (by assumption) | exact ⟨(Below.refl _ _).drew, Nat.le_refl _, fun _ _ _ => rfl⟩)
    (first
      | (go_at_call 84; (with_reducible refine (C2 _ (by assumption)).mono ?_); rintro e w3 ⟨Ag, cg, T, rfl, hp, hs, hown, hb3⟩; obtain rfl := srt_uniq hp hs ((fill_turn (good_fill HG.out)).dist))
      | (go_at_call 83; (with_reducible refine (C1 _ (by assumption)).mono ?_); rintro e w2 ⟨⟨m1, rfl, hm1, hm1'⟩, hb2⟩)
      | (go_at_call 83; (with_reducible refine (C3 _ _ _ (by first | exact ⟨_, hown⟩ | exact ⟨_, own_keep hown (by assumption)⟩)).mono ?_); rintro e w4 ⟨⟨m2, rfl, hm2, hm2'⟩, hb4⟩)
      | (go_at_call 82; (with_reducible refine (l1Most_any _ _ _).mono ?_); rintro e w5 ⟨rfl, rfl⟩))
  have hBF := hB1.trans ((belowS (B := w1.heap.size) (wp := w4) (by assumption)).mono hB1.size)
  have N1 := Lib.hid hm1
  have N2 := Lib.hid hm2
  clear hm1 hm2 C1 C2 C3 hp hs hown hb2 hb3 hb4
  go_wp2_with fail
  go_ret
  have hsay : LongSays WW HH L (mxI m1 m2) true := .inl ⟨HG.out, rfl, WW, HH, m1, m2, rfl, rfl, .inl N1.out, .inl N2.out, by unfold mxI; split <;> omega⟩
  exact ⟨by rw [← lineN_eq hsay HG.out]; rfl, hBF⟩
end Go.Proofs.Ytpbghalljfcaoaa
