/- Contracts of small functions without loops: what each returns for whatever numbers; what lay in memory before stays. -/
import Derived.Test.YtebnekicbcdnaaaPlain
import Derived.WalkSpells
import Derived.WalkLawsBesides
import Derived.BigQuiet
import Derived.Deep.QuietTactic
import Derived.Deep.Draws
import Derived.Deep.RegionHeld3
import Derived.Outline
set_option linter.all false
namespace Go.Proofs.Ytebnekicbcdnaaa
open Go.RowKit

def inB (n lo hi : Int) : Bool := decide (lo ≤ n) && decide (n ≤ hi)
theorem inB_iff {n lo hi : Int} : inB n lo hi = true ↔ lo ≤ n ∧ n ≤ hi := by simp [inB]

theorem l1In_any (n lo hi : Int) (w : World) :
    Calls Try.prog 58 #[.int .i64 n, .int .i64 lo, .int .i64 hi] w fun e w' => e = .returned (.bool (inB n lo hi)) ∧ w = w' := by
  by_cases h1 : lo ≤ n
  · have d1 : decide (lo ≤ n) = true := by simpa using h1
    go_enter Try.func58, Try.ntmps58
    go_wp2
    all_goals (go_ret; exact ⟨by simp [inB, d1], rfl⟩)
  · have d1 : decide (lo ≤ n) = false := by simpa using h1
    go_enter Try.func58, Try.ntmps58
    go_wp2
    all_goals (go_ret; exact ⟨by simp [inB, d1], rfl⟩)

theorem isUpTo_any (m n : Int) (w : World) :
    Calls Try.prog 92 #[.int .i64 m, .int .i64 n] w fun e w' => e = .returned (.bool (inB n 1 m)) ∧ w = w' := by
  by_cases h1 : 1 ≤ n
  · have d1 : decide (1 ≤ n) = true := by simpa using h1
    go_enter Try.func92, Try.ntmps92
    go_wp2
    all_goals (go_ret; exact ⟨by simp [inB, d1], rfl⟩)
  · have d1 : decide (1 ≤ n) = false := by simpa using h1
    go_enter Try.func92, Try.ntmps92
    go_wp2
    all_goals (go_ret; exact ⟨by simp [inB, d1], rfl⟩)

theorem areUpTo_any (m a b : Int) (w : World) :
    Calls Try.prog 111 #[.int .i64 m, .int .i64 a, .int .i64 b] w fun e w' => e = .returned (.bool (inB a 1 m && inB b 1 m)) ∧ w = w' := by
  have C := isUpTo_any m a w
  cases ha : inB a 1 m with
  | false =>
    rw [ha] at C
    go_enter Try.func111, Try.ntmps111
    go_wp2_with fail
    refine C.mono ?_
    rintro e w' ⟨rfl, rfl⟩
    go_wp2_with fail
    go_ret
    exact ⟨rfl, rfl⟩
  | true =>
    rw [ha] at C
    go_enter Try.func111, Try.ntmps111
    go_wp2_with fail
    refine C.mono ?_
    rintro e w' ⟨rfl, rfl⟩
    go_wp2_with fail
    refine (isUpTo_any m b _).mono ?_
    rintro e w' ⟨rfl, rfl⟩
    go_wp2_with fail
    go_ret
    exact ⟨by simp, rfl⟩

theorem isLength_any (n : Int) (w : World) :
    Calls Try.prog 120 #[.int .i64 n] w fun e w' => e = .returned (.bool (inB n 1 500)) ∧ w = w' := by
  go_enter Try.func120, Try.ntmps120
  go_wp2_with fail
  refine (isUpTo_any _ _ _).mono ?_
  rintro e w' ⟨rfl, rfl⟩
  go_wp2_with fail
  go_ret
  exact ⟨rfl, rfl⟩

theorem eqSquare_same (x y d : Int) (w : World) :
    Calls Try.prog 101 #[.agg #[.int .i64 x, .int .i64 y, .int .i64 d], .agg #[.int .i64 x, .int .i64 y, .int .i64 d]] w fun e w' =>
      e = .returned (.bool true) ∧ Below w.heap.size w w' := by
  go_enter Try.func101, Try.ntmps101
  go_wp2
  go_ret
  exact ⟨rfl, ((Below.refl _ _).alloc (Nat.le_refl _) _).alloc (by simp) _⟩

theorem toSquare_any (x y d : Int) (w : World) :
    Calls Try.prog 97 #[.agg #[.int .i64 x, .int .i64 y, .int .i64 d]] w fun e w' =>
      e = .returned (.agg #[.int .i64 x, .int .i64 y, .int .i64 d]) ∧ Below w.heap.size w w' := by
  go_enter Try.func97, Try.ntmps97
  go_wp2
  refine bodyPost_ret (v := .agg #[.int .i64 x, .int .i64 y, .int .i64 d]) (by simp [results, Try.results97, go_sem]) rfl ⟨rfl, ?_⟩
  exact (((Below.refl _ _).alloc (Nat.le_refl _) _).alloc (by simp) _).alloc (by simp; omega) _

theorem isNaN_any (n : Int) (w : World) :
    Calls Try.prog 125 #[.int .i64 n] w fun e w' => e = .returned (.bool false) ∧ w = w' := by
  go_enter Try.func125, Try.ntmps125
  go_wp2
  go_ret
  exact ⟨rfl, rfl⟩

def cmpI (a b : Int) : Int := if a < b then -1 else if b < a then 1 else 0
theorem compare_any (a b : Int) (w : World) :
    Calls Try.prog 123 #[.int .i64 a, .int .i64 b] w fun e w' => e = .returned (.int .i64 (cmpI a b)) ∧ w = w' := by
  go_enter Try.func123, Try.ntmps123
  go_wp2_with (go_at_call 125; refine (isNaN_any _ _).mono ?_; rintro e w' ⟨rfl, rfl⟩)
  all_goals (go_ret; exact ⟨ret_int (by unfold cmpI; (repeat' split) <;> omega), rfl⟩)

theorem isWithin_any (x y d W H : Int) (hW : 0 ≤ W) (hW' : W ≤ 1000000) (hH : 0 ≤ H) (hH' : H ≤ 1000000) (hd : d ≤ 9223372036854775807) (w : World) :
    Calls Try.prog 112 #[.agg #[.int .i64 x, .int .i64 y, .int .i64 d], .int .i64 W, .int .i64 H] w (RetB w (1 ≤ d ∧ 0 ≤ x ∧ x ≤ W - d ∧ 0 ≤ y ∧ y ≤ H - d)) := by
  by_cases h1 : 1 ≤ d
  · by_cases h2 : 0 ≤ x
    · by_cases h3 : x ≤ W - d
      · by_cases h4 : 0 ≤ y
        · by_cases h5 : y ≤ H - d
          · go_enter Try.func112, Try.ntmps112
            go_wp2
            go_ret; exact RetB.mk (by simp [h1, h2, h3, h4, h5]) ((Below.refl _ _).alloc (Nat.le_refl _) _)
          · go_enter Try.func112, Try.ntmps112
            go_wp2
            go_ret; exact RetB.mk (by simp; omega) ((Below.refl _ _).alloc (Nat.le_refl _) _)
        · go_enter Try.func112, Try.ntmps112
          go_wp2
          go_ret; exact RetB.mk (by simp; omega) ((Below.refl _ _).alloc (Nat.le_refl _) _)
      · go_enter Try.func112, Try.ntmps112
        go_wp2
        go_ret; exact RetB.mk (by simp; omega) ((Below.refl _ _).alloc (Nat.le_refl _) _)
    · go_enter Try.func112, Try.ntmps112
      go_wp2
      go_ret; exact RetB.mk (by simp; omega) ((Below.refl _ _).alloc (Nat.le_refl _) _)
  · go_enter Try.func112, Try.ntmps112
    go_wp2
    go_ret; exact RetB.mk (by simp; omega) ((Below.refl _ _).alloc (Nat.le_refl _) _)

def Less (x y x' y' : Int) : Prop := y < y' ∨ y = y' ∧ x < x'
theorem cuLess_any (x y d x' y' d' : Int) (w : World) :
    Calls Try.prog 110 #[.agg #[.int .i64 x, .int .i64 y, .int .i64 d], .agg #[.int .i64 x', .int .i64 y', .int .i64 d']] w (RetB w (Less x y x' y')) := by
  have hB : ∀ a b : Obj, Below w.heap.size w ((w.alloc a).alloc b) := fun a b => ((Below.refl _ _).alloc (Nat.le_refl _) _).alloc (by simp) _
  rcases Int.lt_trichotomy y y' with h | h | h
  · go_enter Try.func110, Try.ntmps110
    go_wp2
    all_goals (go_ret; exact RetB.mk (by simp [Less]; omega) (hB _ _))
  · subst h
    by_cases h : x < x'
    · go_enter Try.func110, Try.ntmps110
      go_wp2
      all_goals (go_ret; exact RetB.mk (by simp [Less]; omega) (hB _ _))
    · go_enter Try.func110, Try.ntmps110
      go_wp2
      all_goals (go_ret; exact RetB.mk (by simp [Less]; omega) (hB _ _))
  · have h1 : ¬ y < y' := by omega
    have h2 : (y == y') = false := by simp; omega
    go_enter Try.func110, Try.ntmps110
    go_wp2
    all_goals (go_ret; exact RetB.mk (by simp [Less]; omega) (hB _ _))

def lapX (x d x' d' : Int) : Int := min (x + d) (x' + d') - max x x'
theorem commonLengths_any (x y d x' y' d' : Int) (hx : 0 ≤ x) (hx1 : x ≤ 1000000) (hy : 0 ≤ y) (hy1 : y ≤ 1000000) (hd : 0 ≤ d) (hd1 : d ≤ 1000000)
    (kx : 0 ≤ x') (kx1 : x' ≤ 1000000) (ky : 0 ≤ y') (ky1 : y' ≤ 1000000) (kd : 0 ≤ d') (kd1 : d' ≤ 1000000) (w : World) :
    Calls Try.prog 121 #[.agg #[.int .i64 x, .int .i64 y, .int .i64 d], .agg #[.int .i64 x', .int .i64 y', .int .i64 d']] w fun e w' =>
      e = .returned (.tuple #[.int .i64 (lapX x d x' d'), .int .i64 (lapX y d y' d')]) ∧ Below w.heap.size w w' := by
  go_enter Try.func121, Try.ntmps121
  go_wp2
  all_goals (go_ret2; exact ⟨ret_ints (by unfold lapX; omega) (by unfold lapX; omega), ((Below.refl _ _).alloc (Nat.le_refl _) _).alloc (by simp) _⟩)

def orI (a b : Int) : Int := if a = 0 then b else a
theorem or_any (a b : Int) (g : Nat) (w : World) (ha : w.cell? ⟨g, 0, none⟩ = some (.int .i64 a)) (hb : w.cell? ⟨g, 1, none⟩ = some (.int .i64 b)) :
    Calls Try.prog 122 #[.slice (some ⟨g, 0, none⟩) 2 2] w fun e w' => e = .returned (.int .i64 (orI a b)) ∧ w = w' := by
  by_cases h : a = 0
  · subst h
    rw [show orI 0 b = b from rfl]
    by_cases h : b = 0
    · subst h
      go_enter Try.func122, Try.ntmps122
      go_wp2
      refine wp_loop_rounds 3 ?_
      rw [rounds_succ]
      go_wp2
      rw [rounds_succ]
      go_wp2
      rw [rounds_succ]
      go_wp2
      go_ret
      exact ⟨rfl, rfl⟩
    · have hq : (b != 0) = true := by simpa using h
      go_enter Try.func122, Try.ntmps122
      go_wp2
      refine wp_loop_rounds 2 ?_
      rw [rounds_succ]
      go_wp2
      rw [rounds_succ]
      go_wp2
      go_ret
      exact ⟨rfl, rfl⟩
  · rw [show orI a b = a from if_neg h]
    have hq : (a != 0) = true := by simpa using h
    go_enter Try.func122, Try.ntmps122
    go_wp2
    refine wp_loop_rounds 1 ?_
    rw [rounds_succ]
    go_wp2
    go_ret
    exact ⟨rfl, rfl⟩
end Go.Proofs.Ytebnekicbcdnaaa
