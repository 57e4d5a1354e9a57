/- The program's recursive filling: one call with room, and the recursion. -/
import Derived.Test.YtebnekicbcdnaaaFp
import Derived.Deep.DeepCutAuto
set_option linter.all false
namespace Go.Proofs.Ytebnekicbcdnaaa
open Go.RowKit Go.Shelf

theorem new3F (w : World) (o : Obj) (a b c : Value) (t : TypeId) : ∀ j u, [a, b, c][j]? = some u → ((w.alloc o).alloc (.cells #[a, b, c] t)).cell? ((⟨w.heap.size + 1, 0, none⟩ : Addr).add j) = some u := by
  have h := new3 (w.alloc o) a b c t
  simpa using h
theorem split_range (r i : Nat) (hi : i < r) (g : Nat → List (List Sq)) : ∃ Z, (List.range r).flatMap g = (List.range i).flatMap g ++ g i ++ Z := by
  obtain ⟨d, rfl⟩ : ∃ d, r = i + 1 + d := ⟨r - (i + 1), by omega⟩
  induction d with
  | zero => exact ⟨[], by rw [Nat.add_zero, flatMap_range_succ, List.append_nil]⟩
  | succ d ih =>
    obtain ⟨Z, hZ⟩ := ih (by omega)
    exact ⟨Z ++ g (i + 1 + d), by rw [show i + 1 + (d + 1) = (i + 1 + d) + 1 by omega, flatMap_range_succ, hZ]; simp [List.append_assoc]⟩
theorem step_map (L : List Sq) (x : Nat) (y : Int) (H : Int) (k : Nat) (f : List Int) (i : Nat) : (stepF 6 H k f x y (fills 6 H) i).map (L ++ ·) = (fills 6 H k (liftF f x (i + 1) ((i + 1 : Nat) : Int))).map ((L ++ [⟨(x : Nat), y, ((i + 1 : Nat) : Int)⟩]) ++ ·) := by
  unfold stepF
  rw [List.map_map]
  refine List.map_congr_left fun M _ => ?_
  simp

theorem flat_range_le {α : Type} (g : Nat → List α) {i n : Nat} (h : i ≤ n) : ((List.range i).flatMap g).length ≤ ((List.range n).flatMap g).length := by
  induction n with
  | zero => obtain rfl : i = 0 := by omega
            exact Nat.le_refl _
  | succ n ih =>
    by_cases e : i = n + 1
    · subst e; exact Nat.le_refl _
    · rw [flatMap_range_succ, List.length_append]
      have := ih (by omega)
      omega
end Go.Proofs.Ytebnekicbcdnaaa
