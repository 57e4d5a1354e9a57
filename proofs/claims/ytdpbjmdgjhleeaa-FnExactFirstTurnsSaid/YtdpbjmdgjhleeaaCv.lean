/- The model's cuts by squares. -/
import Derived.Test.YtdpbjmdgjhleeaaCw
import Derived.Test.YtdpbjmdgjhleeaaCs
set_option linter.all false
namespace Go.Proofs.Ytdpbjmdgjhleeaa
open Go.RowKit

theorem walk_any (W S g b n0 m : Nat) (H : Int) (hW1 : 1 ≤ W) (hW : W ≤ 500) (hH : H ≤ 500) (hS : S ≤ 500) (hm : 1 ≤ m ∧ m ≤ 500) (hne : g ≠ b) (k : Nat) :
    ∀ (f : List Int) (c : Nat) (B : List Int) (w0 w : World), Fl W H f → free W H f ≤ k → (0 < c ∨ 0 < free W H f) → c + free W H f ≤ S → B.length = S → WK n0 g b W S f B w0 w → Calls Try.prog 108 #[.int .i64 H, .int .i64 m, .slice (some ⟨g, 0, none⟩) W W, .int .i64 c, .slice (some ⟨b, 0, none⟩) S S] w fun e w' => e = .returned (.tuple #[]) ∧ WK n0 g b W S f (tally c B (fills m H k f)) w0 w' := by
  induction k with
  | zero => intro f c B w0 w h1 h2 h3 h4 h5 h6; exact walk_node W S g b n0 m H hW1 hW hH hS hm hne 0 (fun k' e => by omega) f c B w0 w h1 h2 h3 h4 h5 h6
  | succ k ih => intro f c B w0 w h1 h2 h3 h4 h5 h6; exact walk_node W S g b n0 m H hW1 hW hH hS hm hne (k + 1) (fun k' e => by cases e; exact ih) f c B w0 w h1 h2 h3 h4 h5 h6

theorem ctSize_any (a b : Int) (w : World) : Calls Try.prog 59 #[.int .i64 a, .int .i64 b] w fun e w' => e = .returned (.bool (okF a b)) ∧ w = w' := by
  unfold okF
  cases e1 : inB a 1 6 with
  | true =>
    cases e2 : inB b 1 6 with
    | true =>
      go_enter Try.func59, Try.ntmps59
      go_wp2_with fail
      refine (l1In_any _ _ _ _).mono ?_
      rw [e1]
      rintro e w' ⟨rfl, rfl⟩
      go_wp2_with fail
      refine (l1In_any _ _ _ _).mono ?_
      rw [e2]
      rintro e w' ⟨rfl, rfl⟩
      go_wp2_with fail
      go_ret
      exact ⟨rfl, rfl⟩
    | false =>
      go_enter Try.func59, Try.ntmps59
      go_wp2_with fail
      refine (l1In_any _ _ _ _).mono ?_
      rw [e1]
      rintro e w' ⟨rfl, rfl⟩
      go_wp2_with fail
      refine (l1In_any _ _ _ _).mono ?_
      rw [e2]
      rintro e w' ⟨rfl, rfl⟩
      go_wp2_with fail
      go_ret
      exact ⟨rfl, rfl⟩
  | false =>
    go_enter Try.func59, Try.ntmps59
    go_wp2_with fail
    refine (l1In_any _ _ _ _).mono ?_
    rw [e1]
    rintro e w' ⟨rfl, rfl⟩
    go_wp2_with fail
    go_ret
    exact ⟨rfl, rfl⟩

/-- Cuts of m by n by squares, with no side greater than M. -/
noncomputable def byM (m n M : Nat) : List Int := tally 0 (List.replicate (m * n) 0) (fills M n (m * n) (List.replicate m 0))
theorem byM_len (m n M : Nat) : (byM m n M).length = m * n := by rw [byM, tally_len, List.length_replicate]
def RetBy (w : World) (R : List Int) (e : Ending) (w' : World) : Prop := ∃ A c, e = .returned (.slice A R.length c) ∧ w'.ownsRow w.heap.size 3 1 (.slice A R.length c) R.length (ints R) ∧ Below w.heap.size w w'
theorem RetBy.mk {w w' : World} {A : Option Addr} {n c : Nat} {R : List Int} (hn : n = R.length) (ho : w'.ownsRow w.heap.size 3 1 (.slice A n c) n (ints R)) (hb : Below w.heap.size w w') : RetBy w R (.returned (.slice A n c)) w' := by
  subst hn; exact ⟨A, c, rfl, ho, hb⟩
set_option maxRecDepth 100000 in
set_option maxHeartbeats 4000000 in
theorem ctBy_any (m n M : Nat) (hm : 1 ≤ m ∧ m ≤ 6) (hn : 1 ≤ n ∧ n ≤ 6) (hM : 1 ≤ M ∧ M ≤ 6) (w : World) : Calls Try.prog 61 #[.int .i64 m, .int .i64 n, .int .i64 M] w (RetBy w (byM m n M)) := by
  obtain ⟨S, hS⟩ : ∃ S, S = m * n := ⟨_, rfl⟩
  have hS1 : 1 ≤ S := by rw [hS]; exact Nat.mul_pos (by omega) (by omega)
  have hS36 : S ≤ 36 := by rw [hS]; exact Nat.le_trans (Nat.mul_le_mul hm.2 hn.2) (by omega)
  have hmul : (m : Int) * (n : Int) = (S : Int) := by rw [hS]; simp
  obtain ⟨i0, hi, hz0, hz1, hzb⟩ := info_parts infoInt
  have zl : ∀ k, (madeCells (Value.int .i64 0).cells (k * 1)).toList = ints (List.replicate k 0) := by
    intro k
    rw [show (Value.int .i64 0).cells = #[.int .i64 0] from rfl, toList_madeCells_one]; simp [ints]
  have ZL := Lib.hid zl
  have HS := Lib.hid hS
  clear zl hS
  go_enter Try.func61, Try.ntmps61
  go_wp2_with (first
    | (at_make; refine wpList_make_full _ rfl _ _ 49 rfl w.heap.size 3 i0 (.int .i64 0) 1 Try.underlying49 hi hz0 hz1 .i64 .i64 (S : Int) (S : Int) S rfl rfl rfl rfl (by rw [hzb]; omega) (by unfold maxLen; omega) (Nat.le_refl _) ?_; intro w2 hown2 hg2; have hs2 := hg2.size)
    | (at_make; refine wpList_make_full _ rfl _ _ 49 rfl w.heap.size 3 i0 (.int .i64 0) 1 Try.underlying49 hi hz0 hz1 .i64 .i64 (m : Int) (m : Int) m rfl rfl rfl rfl (by rw [hzb]; omega) (by unfold maxLen; omega) hs2 ?_; intro w3 hown3 hg3))
  rw [ZL.out] at hown2 hown3
  have o2 := own_far hown2 hg3 (fun k hk e => by cases e)
  have lt2 := own_lt hown2
  have hB2 : Below w.heap.size w w2 := (Below.refl _ _).grown hg2 (Nat.le_refl _) (fun k e => by cases e)
  have hB3 : Below w.heap.size w w3 := hB2.grown hg3 hs2 (fun k e => by cases e)
  have C := walk_any m S w2.heap.size w.heap.size w.heap.size M n hm.1 (by omega) (by omega) (by omega) (by omega) (by omega) (m * n) (List.replicate m 0) 0 (List.replicate S 0) w w3 (Fl.start m (by omega)) (by rw [free_start]; omega) (.inr (by rw [free_start, ← HS.out]; omega)) (by rw [free_start, ← HS.out]; omega) (List.length_replicate ..) ⟨hown3, o2, hB3⟩
  refine C.mono ?_
  rintro e w4 ⟨rfl, h4⟩
  go_wp2_with fail
  go_ret
  have hl := byM_len m n M
  rw [← HS.out] at hl
  refine RetBy.mk hl.symm ?_ h4.bl
  have ob := h4.ob
  rw [← HS.out] at ob
  rw [byM, ← HS.out]
  exact ob
theorem byF_yes {m n : Nat} (h : okF m n = true) : byF m n = byM m n 6 := by
  unfold byF
  rw [if_pos h]
  rfl
theorem byF_no {W H : Int} (h : okF W H = false) : byF W H = [] := by unfold byF; rw [if_neg (by rw [h]; decide)]
end Go.Proofs.Ytdpbjmdgjhleeaa
