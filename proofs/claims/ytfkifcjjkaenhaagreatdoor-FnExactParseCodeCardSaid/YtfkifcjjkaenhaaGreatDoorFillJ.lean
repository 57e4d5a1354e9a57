/- The model's CutOfSides, and lists of numbers as arguments of laws. -/
import Derived.Test.YtfkifcjjkaenhaaGreatDoorFillI
import Derived.Test.YtfkifcjjkaenhaaGreatDoorFillS
import Derived.Test.YtfkifcjjkaenhaaGreatDoorOpen
import Derived.ChangeSlices
set_option linter.all false
namespace Go.Proofs.YtfkifcjjkaenhaaGreatDoor
open Go.RowKit Go.ChangeShapes

theorem fillR_len (W : Int) (d : List Int) : (fillR W d).2.1.length ≤ 1048576 := by
  unfold fillR
  cases runF W.toNat d (st0 W.toNat) with
  | none => simp
  | some st =>
    obtain ⟨f, L⟩ := st
    by_cases hG : Good W (f.headD 0) L
    · simp only
      rw [if_pos hG]
      have := hG.2.2.1.2
      simp only
      omega
    · simp only
      rw [if_neg hG]
      simp

/-- It returns a new list with these numbers. -/
def OwnInts (w w' : World) (L : List Int) (e : Ending) : Prop := ∃ g, e = .returned (.slice (some ⟨g, 0, none⟩) L.length L.length) ∧ Below w.heap.size w w' ∧ w'.ownsRow w.heap.size 3 1 (.slice (some ⟨g, 0, none⟩) L.length L.length) L.length (ints L)
theorem open_nums {H : Type} {enc : TypeId × Value → H} {w : World} {base : Nat} {spare : Nat → Bool} {held : Bool} {fuel : Nat} {v : Value} {x : DataW H × List MemPlace} (h : DataW.trod enc Tryz.prog w base spare held fuel 32 [v] = some x) :
    ∃ (A : Option Addr) (n c : Nat) (L : List Int), v = .slice A n c ∧ n ≤ c ∧ n ≤ 9223372036854775807 ∧ L.length = n ∧ IntsAt w w.heap.size A L ∧ ∀ s ∈ L, wfI s := by
  rcases open_ints Tryz.underlying32 Tryz.underlying3 (by kernel_rfl) h with ⟨h0, _⟩ | ⟨a, len, cap, zs, hcs, _, hl, hm, hz, _, hc, hw⟩
  · cases h0
    exact ⟨none, 0, 0, [], rfl, Nat.le_refl _, by omega, rfl, fun i s hs => by simp at hs, fun s hs => by simp at hs⟩
  · cases hcs
    have hzl : len ≤ zs.length := by rw [hz]; split <;> omega
    refine ⟨some a, len, cap, zs.take len, rfl, hl, by unfold maxLen at hm; omega, by rw [List.length_take]; omega, ?_, fun s hs => wf_of (hw s (List.mem_of_mem_take hs))⟩
    intro i s hs
    rw [List.getElem?_take] at hs
    split at hs
    · have hi := (List.getElem?_eq_some_iff.1 hs).1
      have z := hc 0 (by omega)
      have ha := add_spot (a := a) z
      have c0 := hc i hi
      have hb := World.block_lt_of_cell? _ _ c0
      have hb : a.block < w.heap.size := by rw [ha] at hb; simpa [add_at] using hb
      rw [ha] at c0
      simp only [add_at] at c0
      refine ⟨a.block, a.off, by rw [← ha], hb, ?_⟩
      rw [c0]
      simp [List.getD, hs]
    · cases hs
end Go.Proofs.YtfkifcjjkaenhaaGreatDoor
