/- Cuts by lines: how many squares they have at least: plain facts. -/
import Derived.Test.YtlfikjjdhmaemaaPlain
set_option linter.all false
namespace Go.Proofs.Ytlfikjjdhmaemaa
open Go.RowKit

/-- The least of a number and of a function's values at 1, 2, .., k. -/
def lo (m : Int) (f : Nat → Int) : Nat → Int
  | 0 => m
  | k + 1 => min (lo m f k) (f (k + 1))
theorem lo_le (m : Int) (f : Nat → Int) (k : Nat) : lo m f k ≤ m := by
  induction k with
  | zero => exact Int.le_refl _
  | succ k ih => exact Int.le_trans (Int.min_le_left _ _) ih
theorem lo_le_at (m : Int) (f : Nat → Int) : ∀ (k x : Nat), 1 ≤ x → x ≤ k → lo m f k ≤ f x := by
  intro k
  induction k with
  | zero => intro x h1 h2; omega
  | succ k ih =>
    intro x h1 h2
    by_cases e : x = k + 1
    · subst e; exact Int.min_le_right _ _
    · exact Int.le_trans (Int.min_le_left _ _) (ih x h1 (by omega))
theorem lo_ge {b m : Int} {f : Nat → Int} : ∀ (k : Nat), b ≤ m → (∀ x, 1 ≤ x → x ≤ k → b ≤ f x) → b ≤ lo m f k := by
  intro k
  induction k with
  | zero => intro h _; exact h
  | succ k ih =>
    intro h hf
    have h1 := ih h (fun x a b => hf x a (by omega))
    have h2 := hf (k + 1) (by omega) (by omega)
    show b ≤ min (lo m f k) (f (k + 1))
    omega
theorem lo_congr {m : Int} {f g : Nat → Int} : ∀ (k : Nat), (∀ x, 1 ≤ x → x ≤ k → f x = g x) → lo m f k = lo m g k := by
  intro k
  induction k with
  | zero => intro _; rfl
  | succ k ih =>
    intro h
    show min (lo m f k) (f (k + 1)) = min (lo m g k) (g (k + 1))
    rw [ih (fun x a b => h x a (by omega)), h (k + 1) (by omega) (by omega)]
theorem lo_min {m : Int} {f : Nat → Int} (k : Nat) : ∀ a : Int, lo (min m a) f k = min (lo m f k) a := by
  induction k with
  | zero => intro a; rfl
  | succ k ih =>
    intro a
    show min (lo (min m a) f k) (f (k + 1)) = min (min (lo m f k) (f (k + 1))) a
    rw [ih]
    omega

/-- How many squares a cut by lines has at least; the first number bounds the depth. -/
def bestN : Nat → Nat → Nat → Int
  | 0, _, _ => 0
  | n + 1, w, h => if w = h then 1 else
      lo (lo ((w : Int) * h) (fun x => bestN n x h + bestN n (w - x) h) (w / 2)) (fun y => bestN n w y + bestN n w (h - y)) (h / 2)
theorem bestN_eq : ∀ (n m w h : Nat), w + h ≤ n → w + h ≤ m → 1 ≤ w → 1 ≤ h → bestN n w h = bestN m w h := by
  intro n
  induction n with
  | zero => intro m w h h1 _ h2; omega
  | succ n ih =>
    intro m w h h1 h2 hw hh
    cases m with
    | zero => omega
    | succ m =>
      unfold bestN
      by_cases e : w = h
      · rw [if_pos e, if_pos e]
      · rw [if_neg e, if_neg e]
        have e1 : lo ((w : Int) * h) (fun x => bestN n x h + bestN n (w - x) h) (w / 2) = lo ((w : Int) * h) (fun x => bestN m x h + bestN m (w - x) h) (w / 2) :=
          lo_congr _ fun x a b => by
            show bestN n x h + bestN n (w - x) h = bestN m x h + bestN m (w - x) h
            rw [ih m x h (by omega) (by omega) a hh, ih m (w - x) h (by omega) (by omega) (by omega) hh]
        rw [e1]
        exact lo_congr _ fun y a b => by
          show bestN n w y + bestN n w (h - y) = bestN m w y + bestN m w (h - y)
          rw [ih m w y (by omega) (by omega) hw a, ih m w (h - y) (by omega) (by omega) hw (by omega)]
def best (w h : Nat) : Int := bestN (w + h) w h
def dn (w h x : Nat) : Int := best x h + best (w - x) h
def ac (w h y : Nat) : Int := best w y + best w (h - y)
theorem best_same (w : Nat) (hw : 1 ≤ w) : best w w = 1 := by
  unfold best
  cases e : w + w with
  | zero => omega
  | succ n => unfold bestN; rw [if_pos rfl]
theorem best_rec {w h : Nat} (hw : 1 ≤ w) (hh : 1 ≤ h) (hne : w ≠ h) : best w h = lo (lo ((w : Int) * h) (dn w h) (w / 2)) (ac w h) (h / 2) := by
  unfold best
  cases e : w + h with
  | zero => omega
  | succ n =>
    unfold bestN
    rw [if_neg hne]
    have e1 : lo ((w : Int) * h) (fun x => bestN n x h + bestN n (w - x) h) (w / 2) = lo ((w : Int) * h) (dn w h) (w / 2) :=
      lo_congr _ fun x a b => by
        show bestN n x h + bestN n (w - x) h = bestN (x + h) x h + bestN (w - x + h) (w - x) h
        rw [bestN_eq n (x + h) x h (by omega) (by omega) a hh, bestN_eq n (w - x + h) (w - x) h (by omega) (by omega) (by omega) hh]
    rw [e1]
    exact lo_congr _ fun y a b => by
      show bestN n w y + bestN n w (h - y) = bestN (w + y) w y + bestN (w + (h - y)) w (h - y)
      rw [bestN_eq n (w + y) w y (by omega) (by omega) hw a, bestN_eq n (w + (h - y)) w (h - y) (by omega) (by omega) hw (by omega)]
theorem best_bnd : ∀ (n w h : Nat), w + h ≤ n → 1 ≤ w → 1 ≤ h → 1 ≤ best w h ∧ best w h ≤ (w : Int) * h := by
  intro n
  induction n with
  | zero => intro w h h1 h2; omega
  | succ n ih =>
    intro w h h1 hw hh
    have hwh : (1 : Int) ≤ (w : Int) * h := by
      have := Nat.mul_le_mul hw hh
      have e : ((w * h : Nat) : Int) = (w : Int) * h := by simp
      omega
    by_cases e : w = h
    · subst e; rw [best_same w hw]; omega
    · rw [best_rec hw hh e]
      refine ⟨lo_ge _ (lo_ge _ hwh ?_) ?_, Int.le_trans (lo_le _ _ _) (lo_le _ _ _)⟩
      · intro x a b
        have h1 := (ih x h (by omega) a hh).1
        have h2 := (ih (w - x) h (by omega) (by omega) hh).1
        show 1 ≤ best x h + best (w - x) h
        omega
      · intro y a b
        have h1 := (ih w y (by omega) hw a).1
        have h2 := (ih w (h - y) (by omega) hw (by omega)).1
        show 1 ≤ best w y + best w (h - y)
        omega
theorem best_pos {w h : Nat} (hw : 1 ≤ w) (hh : 1 ≤ h) : 1 ≤ best w h := (best_bnd _ w h (Nat.le_refl _) hw hh).1
theorem best_area {w h : Nat} (hw : 1 ≤ w) (hh : 1 ≤ h) : best w h ≤ (w : Int) * h := (best_bnd _ w h (Nat.le_refl _) hw hh).2
theorem dn_area {w h x : Nat} (hh : 1 ≤ h) (h1 : 1 ≤ x) (h2 : x < w) : dn w h x ≤ (w : Int) * h := by
  have a := best_area h1 hh
  have b := best_area (show 1 ≤ w - x by omega) hh
  have e : ((w - x : Nat) : Int) = (w : Int) - x := by omega
  rw [e, Int.sub_mul] at b
  show best x h + best (w - x) h ≤ _
  omega
theorem ac_area {w h y : Nat} (hw : 1 ≤ w) (h1 : 1 ≤ y) (h2 : y < h) : ac w h y ≤ (w : Int) * h := by
  have a := best_area hw h1
  have b := best_area hw (show 1 ≤ h - y by omega)
  have e : ((h - y : Nat) : Int) = (h : Int) - y := by omega
  rw [e, Int.mul_sub] at b
  show best w y + best w (h - y) ≤ _
  omega
theorem lo_top (m : Int) (f : Nat → Int) (k : Nat) : lo m f k = min (lo (m + 1) f k) m := by
  rw [← lo_min]
  congr 1
  omega
/-- The program begins with one more than the area. -/
theorem best_more {w h : Nat} (hw : 1 ≤ w) (hh : 1 ≤ h) (hne : w ≠ h) : best w h = lo (lo ((w : Int) * h + 1) (dn w h) (w / 2)) (ac w h) (h / 2) := by
  rw [best_rec hw hh hne]
  have e1 := lo_top ((w : Int) * h) (dn w h) (w / 2)
  rw [e1, lo_min]
  have : lo (lo ((w : Int) * h + 1) (dn w h) (w / 2)) (ac w h) (h / 2) ≤ (w : Int) * h := by
    by_cases h2 : 2 ≤ w
    · exact Int.le_trans (lo_le _ _ _) (Int.le_trans (lo_le_at _ _ _ 1 (by omega) (by omega)) (dn_area hh (by omega) (by omega)))
    · exact Int.le_trans (lo_le_at _ _ _ 1 (by omega) (by omega)) (ac_area hw (by omega) (by omega))
  omega
/-- The model begins with 1 at a square and goes on. -/
theorem best_model {w h : Nat} (hw : 1 ≤ w) (hh : 1 ≤ h) : best w h = lo (lo (if w = h then 1 else (w : Int) * h) (dn w h) (w / 2)) (ac w h) (h / 2) := by
  by_cases e : w = h
  · subst e
    rw [if_pos rfl, best_same w hw]
    refine Int.le_antisymm (lo_ge _ (lo_ge _ (Int.le_refl _) ?_) ?_) (Int.le_trans (lo_le _ _ _) (lo_le _ _ _))
    · intro x a b
      have h1 := best_pos a hh
      have h2 := best_pos (show 1 ≤ w - x by omega) hh
      show 1 ≤ best x w + best (w - x) w
      omega
    · intro y a b
      have h1 := best_pos hw a
      have h2 := best_pos hw (show 1 ≤ w - y by omega)
      show 1 ≤ best w y + best w (w - y)
      omega
  · rw [if_neg e]; exact best_rec hw hh e

/-- Where the least value was come to last: 0 if never. -/
def arg (m : Int) (f : Nat → Int) : Nat → Nat
  | 0 => 0
  | k + 1 => if f (k + 1) < lo m f k then k + 1 else arg m f k
theorem lo_lt {m : Int} {f : Nat → Int} {k : Nat} (h : f (k + 1) < lo m f k) : lo m f (k + 1) = f (k + 1) ∧ arg m f (k + 1) = k + 1 := by
  constructor
  · show min (lo m f k) (f (k + 1)) = f (k + 1)
    omega
  · show (if f (k + 1) < lo m f k then k + 1 else arg m f k) = k + 1
    rw [if_pos h]
theorem lo_ge' {m : Int} {f : Nat → Int} {k : Nat} (h : ¬ f (k + 1) < lo m f k) : lo m f (k + 1) = lo m f k ∧ arg m f (k + 1) = arg m f k := by
  constructor
  · show min (lo m f k) (f (k + 1)) = lo m f k
    omega
  · show (if f (k + 1) < lo m f k then k + 1 else arg m f k) = arg m f k
    rw [if_neg h]
theorem arg_le (m : Int) (f : Nat → Int) (k : Nat) : arg m f k ≤ k := by
  induction k with
  | zero => exact Nat.le_refl _
  | succ k ih =>
    unfold arg
    split
    · exact Nat.le_refl _
    · omega
/-- How many squares down the program counts, and how many across. -/
def bDown (w h : Nat) : Int := lo ((w : Int) * h + 1) (dn w h) (w / 2)
def lnDown (w h : Nat) : Nat := if w = h then 0 else if arg (bDown w h) (ac w h) (h / 2) = 0 then arg ((w : Int) * h + 1) (dn w h) (w / 2) else 0
def lnAcross (w h : Nat) : Nat := if w = h then 0 else arg (bDown w h) (ac w h) (h / 2)
theorem best_two {w h : Nat} (hw : 1 ≤ w) (hh : 1 ≤ h) (hne : w ≠ h) : best w h = lo (bDown w h) (ac w h) (h / 2) := best_more hw hh hne
/-- The table in memory: MaxLined + 1 rows of as many numbers. -/
def LinAt (w : World) (b : Nat) (T : Nat → Nat → Int) : Prop :=
  b < w.heap.size ∧ (∀ x y, x ≤ 60 → y ≤ 60 → w.cell? ⟨b, x * 61 + y, none⟩ = some (.int .i64 (T x y))) ∧ ∀ o, w.frozen? ⟨b, o, none⟩ = false
theorem LinAt.below {w w' : World} {b : Nat} {T : Nat → Nat → Int} (h : LinAt w b T) (hb : Below w.heap.size w w') : LinAt w' b T :=
  ⟨Nat.lt_of_lt_of_le h.1 hb.size, fun x y hx hy => (hb.cell (p := ⟨b, x * 61 + y, none⟩) h.1).trans (h.2.1 x y hx hy), fun o => (hb.frozen (p := ⟨b, o, none⟩) h.1).trans (h.2.2 o)⟩
end Go.Proofs.Ytlfikjjdhmaemaa
