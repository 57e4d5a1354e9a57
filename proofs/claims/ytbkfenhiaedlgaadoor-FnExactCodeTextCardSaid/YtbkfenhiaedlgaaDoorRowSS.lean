/- FnExactCutOfCode returns true for every input and leaves its arguments as they were: no condition. -/
import Derived.Test.YtbkfenhiaedlgaaDoorOpen
import Derived.Test.YtbkfenhiaedlgaaDoorSSArg
set_option linter.all false
namespace Go.Proofs.YtbkfenhiaedlgaaDoor
open Go.ChangeShapes Go.WideShapes Go.ChangeAt Go.RowKit Go.Deep

theorem open_rows {H : Type} {enc : TypeId × Value → H} {w : World} {base : Nat} {held : Bool} {fuel : Nat} {v : Value} {x : DataW H × List MemPlace} (h : DataW.trod enc Tryd.prog w base (fun _ => true) held fuel 38 [v] = some x) :
    ∃ (A : Option Addr) (n c : Nat) (M : List (List Int)), v = .slice A n c ∧ n ≤ c ∧ n ≤ 9223372036854775807 ∧ M.length = n ∧ (∀ l ∈ M, l.length ≤ 9223372036854775807) ∧ RowsAt w w.heap.size A M ∧ ∀ l ∈ M, ∀ s ∈ l, wfI s := by
  rcases open_int_rows Tryd.underlying38 Tryd.underlying89 Tryd.underlying3 (by kernel_rfl) (by kernel_rfl) h with ⟨h0, _⟩ | ⟨a, len, cap, A, L, C, Z, hcs, _, hl, hm, _, hr⟩
  · cases h0
    exact ⟨none, 0, 0, [], rfl, Nat.le_refl _, by omega, rfl, fun l hl => by simp at hl, fun i l hl => by simp at hl, fun l hl => by simp at hl⟩
  · cases hcs
    have hlen : ∀ r, r < len → ((Z r).take (L r)).length = L r ∧ L r ≤ 9223372036854775807 := fun r hr' => by
      obtain ⟨_, h2, h3, h4, _⟩ := hr r (by omega)
      unfold maxLen at h3
      rw [List.length_take]
      omega
    refine ⟨some a, len, cap, (List.range len).map fun r => (Z r).take (L r), rfl, hl, by unfold maxLen at hm; omega, by simp, ?_, ?_, ?_⟩
    · intro l hl'
      simp only [List.mem_map, List.mem_range] at hl'
      obtain ⟨r, hr', rfl⟩ := hl'
      have := hlen r hr'
      omega
    · intro i l hi
      rw [List.getElem?_map] at hi
      rcases Nat.lt_or_ge i len with hil | hil
      · rw [List.getElem?_range hil] at hi
        simp only [Option.map_some, Option.some.injEq] at hi
        subst hi
        have z := (hr 0 (by omega)).1
        have ha := add_spot (a := a) z
        obtain ⟨c0, h2, h3, h4, h5, h6, h7⟩ := hr i (by omega)
        have hb := World.block_lt_of_cell? _ _ c0
        have hb : a.block < w.heap.size := by rw [ha] at hb; simpa [add_at] using hb
        rw [ha] at c0
        simp only [add_at] at c0
        refine ⟨a.block, a.off, A i, C i, by rw [← ha], hb, by rw [(hlen i hil).1]; exact c0, by rw [(hlen i hil).1]; exact h2, ?_⟩
        intro j s hj
        rw [List.getElem?_take] at hj
        split at hj
        · have hjz := (List.getElem?_eq_some_iff.1 hj).1
          cases hA : A i with
          | none => have := h6 hA; omega
          | some a' =>
            obtain ⟨_, h8⟩ := h7 a' hA
            have z' := h8 0 (by omega)
            have ha' := add_spot (a := a') z'
            have d0 := h8 j (by omega)
            have hb' := World.block_lt_of_cell? _ _ d0
            have hb' : a'.block < w.heap.size := by rw [ha'] at hb'; simpa [add_at] using hb'
            rw [ha'] at d0
            simp only [add_at] at d0
            refine ⟨a'.block, a'.off, by rw [← ha'], hb', ?_⟩
            rw [d0]
            simp [List.getD, hj]
        · cases hj
      · rw [List.getElem?_eq_none (by simpa using hil)] at hi
        cases hi
    · intro l hl' s hs
      simp only [List.mem_map, List.mem_range] at hl'
      obtain ⟨r, hr', rfl⟩ := hl'
      obtain ⟨_, _, _, _, h5, _⟩ := hr r (by omega)
      exact wf_of (h5 s (List.mem_of_mem_take hs))

end Go.Proofs.YtbkfenhiaedlgaaDoor
