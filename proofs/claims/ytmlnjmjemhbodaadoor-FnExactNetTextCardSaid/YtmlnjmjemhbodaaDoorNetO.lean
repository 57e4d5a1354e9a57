/- How an argument that is a net reads. -/
import Derived.Test.YtmlnjmjemhbodaaDoorOpen
import Derived.Test.YtmlnjmjemhbodaaDoorNetB
set_option linter.all false
namespace Go.Proofs.YtmlnjmjemhbodaaDoor
open Go.ChangeShapes Go.WideShapes Go.ChangeAt Go.RowKit Go.Deep Go.Joins

instance : Inhabited Wi := ⟨⟨0, 0⟩⟩
theorem cellsWi : Tryd.prog.cellsOf 161 = 2 := by kernel_rfl
theorem cellsNt : Tryd.prog.cellsOf 46 = 2 := by kernel_rfl
section
variable {H : Type} {enc : TypeId × Value → H} {w : World} {base : Nat} {spare : Nat → Bool} {held : Bool}
theorem open_wis {fuel : Nat} {v : Value} {x : DataW H × List MemPlace} (h : DataW.trod enc Tryd.prog w base spare held fuel 44 [v] = some x) :
    ∃ (A : Option Addr) (n c : Nat) (L : List Wi), v = .slice A n c ∧ n ≤ c ∧ n ≤ 9223372036854775807 ∧ L.length = n ∧ WisAt w w.heap.size A L ∧ ∀ s ∈ L, wfW s := by
  rcases open_slice_fields Tryd.underlying44 Tryd.underlying161 (by kernel_rfl) cellsWi h with ⟨h0, _⟩ | ⟨a, len, cap, m, D, Pl, hcs, _, hl, hm, hmm, _, hi⟩
  · cases h0
    exact ⟨none, 0, 0, [], rfl, Nat.le_refl _, by omega, rfl, fun i s hs => by simp at hs, fun s hs => by simp at hs⟩
  · cases hcs
    have hall : ∀ i, i < len → ∃ s : Wi, wfW s ∧ w.cell? (a.add (i * 2 + 0)) = some (.int .i64 s.a) ∧ w.cell? (a.add (i * 2 + 1)) = some (.int .i64 s.b) := by
      intro i hil
      obtain ⟨ys, n, _, _, hlen, hf⟩ := hi i (by rw [hmm]; split <;> omega)
      obtain ⟨v0, y0, k0, _, t0⟩ := hf 0 _ rfl
      obtain ⟨v1, y1, k1, _, t1⟩ := hf 1 _ rfl
      obtain ⟨x, e0, _, f0⟩ := DataW.trod_int Tryd.underlying3 t0
      obtain ⟨y, e1, _, f1⟩ := DataW.trod_int Tryd.underlying3 t1
      cases e0; cases e1
      exact ⟨⟨x, y⟩, ⟨wf_of f0, wf_of f1⟩, k0, k1⟩
    obtain ⟨f, hf⟩ := choose_lt hall
    refine ⟨some a, len, cap, (List.range len).map f, rfl, hl, by unfold maxLen at hm; omega, by simp, ?_, ?_⟩
    · intro i s hs
      rw [List.getElem?_map] at hs
      rcases Nat.lt_or_ge i len with hil | hil
      · rw [List.getElem?_range hil] at hs
        simp only [Option.map_some, Option.some.injEq] at hs
        subst hs
        have z := (hf 0 (by omega)).2.1
        have ha := add_spot (a := a) (by simpa using z)
        obtain ⟨_, c0, c1⟩ := hf i hil
        have hb := World.block_lt_of_cell? _ _ c0
        have hb : a.block < w.heap.size := by rw [ha] at hb; simpa [add_at] using hb
        rw [ha] at c0 c1
        simp only [add_at, Nat.add_zero, ← Nat.add_assoc] at c0 c1
        exact ⟨a.block, a.off, by rw [← ha], hb, c0, c1⟩
      · rw [List.getElem?_eq_none (by simpa using hil)] at hs
        cases hs
    · intro s hs
      simp only [List.mem_map, List.mem_range] at hs
      obtain ⟨i, hil, rfl⟩ := hs
      exact (hf i hil).1

set_option maxRecDepth 100000 in
theorem open_net {r : Reach} {b0 : Nat} {v : Value} {d : DataW H} {p : List MemPlace} (hv : Value.okWide Tryd.prog w r b0 46 v) (h : DataW.Trod enc Tryd.prog w base spare held 46 v d p) :
    ∃ (W : Int) (A : Option Addr) (n c : Nat) (L : List Wi), v = .agg #[.int .i64 W, .slice A n c] ∧ wfI W ∧ n ≤ c ∧ n ≤ 9223372036854775807 ∧ L.length = n ∧ WisAt w w.heap.size A L ∧ ∀ s ∈ L, wfW s := by
  obtain ⟨v0, v1, y0, y1, n, rfl, _, _, t0, t1⟩ := open_agg2 Tryd.underlying46 (by kernel_rfl) cellsNt hv h
  obtain ⟨W, e0, _, f0⟩ := DataW.trod_int Tryd.underlying3 t0
  obtain ⟨A, n, c, L, rfl, r⟩ := open_wis t1
  cases e0
  exact ⟨W, A, n, c, L, rfl, wf_of f0, r⟩
end
end Go.Proofs.YtmlnjmjemhbodaaDoor
