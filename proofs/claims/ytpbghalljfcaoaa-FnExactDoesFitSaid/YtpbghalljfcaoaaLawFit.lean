/- The walk of FnExactDoesFit. -/
import Derived.Test.YtpbghalljfcaoaaPzL
set_option linter.all false
namespace Go.Proofs.Ytpbghalljfcaoaa
open Go.RowKit

set_option maxRecDepth 100000 in
set_option maxHeartbeats 8000000 in
theorem lawDoesFit (s : Sq) (W H : Int) (A : Option Addr) (n c : Nat) (L : List Sq) (w : World) (hl : L.length = n) (hc : n ≤ c) (hn : n ≤ 1048576) (hL : SqsAt w w.heap.size A L) (hwf : ∀ s ∈ L, wfS s) :
    Calls Try.prog 5 #[.agg #[.int .i64 s.x, .int .i64 s.y, .int .i64 s.d], .agg #[.int .i64 W, .int .i64 H, .slice A n c]] w fun e w' => e = .returned (.bool true) ∧ Below w.heap.size w w' := by
  subst hl
  have B0 : Below w.heap.size w ((w.alloc (.cells #[.int .i64 s.x, .int .i64 s.y, .int .i64 s.d] 23)).alloc (.cells #[.int .i64 W, .int .i64 H, .slice A L.length c] 41)) := ((Below.refl _ _).alloc (Nat.le_refl _) _).alloc (by simp) _
  have K0 := (Cv3.start w (.int .i64 s.x) (.int .i64 s.y) (.int .i64 s.d) 23).next ((Below.refl _ _).alloc (Nat.le_refl _) (.cells #[.int .i64 W, .int .i64 H, .slice A L.length c] 41))
  have J0 := Cv3.start (w.alloc (.cells #[.int .i64 s.x, .int .i64 s.y, .int .i64 s.d] 23)) (.int .i64 W) (.int .i64 H) (.slice A L.length c) 41
  rw [World.size_alloc] at J0
  have h' : ¬ (1048576 : Int) - L.length < 0 := by omega
  have C1 := fun (Ax : Option Addr) (cx : Nat) (w' : World) (hcx : L.length ≤ cx) (hx : SqsAt w' w'.heap.size Ax L) => specFit_any s W H Ax L.length cx L w' rfl hcx hx
  have C2 := fun (Ax : Option Addr) (cx : Nat) (w' : World) (hcx : L.length ≤ cx) (hx : SqsAt w' w'.heap.size Ax L) => implFit_any s W H Ax L.length cx L w' rfl hcx hx hwf
  unfold RetFit at C1 C2
  generalize fitV W H L s = r1 at C1 C2
  generalize dc (DoF W H L s) = r2 at C1 C2
  have q1 : (r1 != r1) = false := by simp
  have q2 : (r2 != r2) = false := by simp
  go_enter Try.func5, Try.ntmps5
  go_wp2_with fail
  obtain ⟨W0, hW0⟩ : ∃ W0, W0 = (w.alloc (.cells #[.int .i64 s.x, .int .i64 s.y, .int .i64 s.d] 23)).alloc (.cells #[.int .i64 W, .int .i64 H, .slice A L.length c] 41) := ⟨_, rfl⟩
  rw [← hW0] at B0 K0 J0 ⊢
  clear hW0
  refine (szCut_ok W H A L.length c _ hn).mono ?_
  rintro e w1 ⟨rfl, hb⟩
  replace K0 := K0.next hb
  replace J0 := J0.next hb
  replace B0 := B0.trans (hb.mono B0.size)
  clear hb
  obtain ⟨kl, k0, k1, k2⟩ := id K0
  obtain ⟨jl, j0, j1, j2⟩ := id J0
  have hT := (hL.below B0).mono B0.size
  have T1 := fun w' => toClue_any s.x s.y s.d w'
  have T2 := fun w' hS => toCut_any W H A L.length c L w' rfl hc hn (sqsS hT hS)
  go_wp2_with fail
  go_region_held3 (fun w' => Below w1.heap.size w1 w' ∧ w1.heap.size ≤ w'.heap.size ∧ ∀ b o, b < w1.heap.size → w'.cell? ⟨b, o, none⟩ = w1.cell? ⟨b, o, none⟩)
    (first | assumption | exact keepS (by assumption) (by assumption) | exact ⟨(Below.refl _ _).drew, Nat.le_refl _, fun _ _ _ => rfl⟩)
    (first
      | (go_at_call 10; (with_reducible refine (T1 _).mono ?_); rintro e wc ⟨rfl, hbc⟩)
      | (go_at_call 19; (with_reducible refine (T2 _ (by assumption)).mono ?_); rintro e wt ⟨gt, rfl, hbt, hot⟩)
      | (go_at_call 18; (with_reducible refine (C1 _ _ _ (Nat.le_refl _) (by first | exact sqs_of_own hot | exact sqs_of_own (own_keep hot (by assumption)))).mono ?_); rintro e w2 ⟨rfl, hb2⟩))
  have hb := belowS (B := w1.heap.size) (wp := w2) (by assumption)
  clear kl k0 k1 k2 jl j0 j1 j2
  clear hT T2 hb2
  replace K0 := K0.next hb
  replace J0 := J0.next hb
  replace B0 := B0.trans (hb.mono B0.size)
  clear hb
  obtain ⟨kl, k0, k1, k2⟩ := id K0
  obtain ⟨jl, j0, j1, j2⟩ := id J0
  go_wp2_with fail
  clear kl k0 k1 k2 jl j0 j1 j2
  refine (toCut_any W H A L.length c L _ rfl hc hn ((hL.below B0).mono B0.size)).mono ?_
  rintro e w4 ⟨gx, rfl, hb, ox⟩
  replace K0 := K0.next hb
  replace J0 := J0.next hb
  replace B0 := B0.trans (hb.mono B0.size)
  clear hb
  go_wp2_with fail
  obtain ⟨W5, hW⟩ : ∃ W5, W5 = w4.alloc (.cells #[.int .i64 W, .int .i64 H, .slice (some ⟨gx, 0, none⟩) L.length L.length] 47) := ⟨_, rfl⟩
  have hb : Below w4.heap.size w4 W5 := by rw [hW]; exact (Below.refl _ _).alloc (Nat.le_refl _) _
  have bx : Bx w4.heap.size W5 W H (some ⟨gx, 0, none⟩) L.length L.length := by rw [hW]; exact Bx.start _ _ _ _ _ _ _
  rw [← hW]
  clear hW
  replace ox := own_keep ox hb
  replace K0 := K0.next hb
  replace J0 := J0.next hb
  replace B0 := B0.trans (hb.mono B0.size)
  clear hb
  obtain ⟨kl, k0, k1, k2⟩ := id K0
  obtain ⟨jl, j0, j1, j2⟩ := id J0
  obtain ⟨xl, x0, x1, x2⟩ := id bx
  have hX := sqs_of_own ox
  go_wp2_with fail
  go_region_held3 (fun w' => Below W5.heap.size W5 w' ∧ W5.heap.size ≤ w'.heap.size ∧ ∀ b o, b < W5.heap.size → w'.cell? ⟨b, o, none⟩ = W5.cell? ⟨b, o, none⟩)
    (first | assumption | exact keepS (by assumption) (by assumption) | exact ⟨(Below.refl _ _).drew, Nat.le_refl _, fun _ _ _ => rfl⟩)
    (first
      | (go_at_call 10; (with_reducible refine (T1 _).mono ?_); rintro e wc ⟨rfl, hbc⟩)
      | (go_at_call 20; (with_reducible refine (C2 _ _ _ (Nat.le_refl _) (sqsS hX (by assumption))).mono ?_); rintro e w6 ⟨rfl, hb6⟩))
  have hb := belowS (B := W5.heap.size) (wp := w6) (by assumption)
  clear kl k0 k1 k2 jl j0 j1 j2
  clear xl x0 x1 x2 hX hb6
  replace ox := own_keep ox hb
  replace bx := bx.next hb
  replace K0 := K0.next hb
  replace J0 := J0.next hb
  replace B0 := B0.trans (hb.mono B0.size)
  clear hb
  obtain ⟨kl, k0, k1, k2⟩ := id K0
  obtain ⟨jl, j0, j1, j2⟩ := id J0
  obtain ⟨xl, x0, x1, x2⟩ := id bx
  have hX := sqs_of_own ox
  have hT := (hL.below B0).mono B0.size
  go_wp2_with fail
  go_region_held3 (fun w' => Below w6.heap.size w6 w' ∧ w6.heap.size ≤ w'.heap.size ∧ ∀ b o, b < w6.heap.size → w'.cell? ⟨b, o, none⟩ = w6.cell? ⟨b, o, none⟩)
    (first | exact keepS (by assumption) (by assumption) | exact ⟨(Below.refl _ _).drew, Nat.le_refl _, fun _ _ _ => rfl⟩)
    (first
      | (go_at_call 19; refine (toCut_any W H A L.length c L _ rfl hc hn (sqsS hT (by assumption))).mono ?_; rintro e w7 ⟨g7, rfl, hb7, ho7⟩)
      | (go_at_call 21; refine (eqCut_same W H _ _ _ _ _ L _ rfl hn (Nat.le_refl _) (Nat.le_refl _) (sqsS hX (by assumption)) (sqs_of_own (by assumption))).mono ?_; rintro e w8 ⟨rfl, hbe⟩))
  have hb := belowS (B := w6.heap.size) (wp := w8) (by assumption)
  go_wp2_with fail
  go_ret
  exact ⟨rfl, B0.trans (hb.mono B0.size)⟩
theorem lawDoesFit_over (s : Sq) (W H : Int) (A : Option Addr) (n c : Nat) (w : World) (h : 1048576 < n) (hn : n ≤ 9223372036854775807) :
    Calls Try.prog 5 #[.agg #[.int .i64 s.x, .int .i64 s.y, .int .i64 s.d], .agg #[.int .i64 W, .int .i64 H, .slice A n c]] w fun e w' => e = .returned (.bool true) ∧ Below w.heap.size w w' := by
  have B0 : Below w.heap.size w ((w.alloc (.cells #[.int .i64 s.x, .int .i64 s.y, .int .i64 s.d] 23)).alloc (.cells #[.int .i64 W, .int .i64 H, .slice A n c] 41)) := ((Below.refl _ _).alloc (Nat.le_refl _) _).alloc (by simp) _
  go_enter Try.func5, Try.ntmps5
  go_wp2_with fail
  refine (szCut_over W H A n c _ h hn).mono ?_
  rintro e w1 ⟨rfl, hb⟩
  go_wp2_with fail
  go_ret
  exact ⟨rfl, B0.trans (hb.mono B0.size)⟩
end Go.Proofs.Ytpbghalljfcaoaa
