/- FnExactTurnCode returns true for every input and leaves its arguments as they were: no condition. -/
import Derived.Test.YtnnhgblgbbfmpaaOpen
import Derived.Test.YtnnhgblgbbfmpaaLawTurnC
set_option linter.all false
namespace Go.Proofs.Ytnnhgblgbbfmpaa
open Go.ChangeShapes Go.WideShapes Go.ChangeAt Go.RowKit Go.Deep

theorem open_rows {H : Type} {enc : TypeId × Value → H} {w : World} {base : Nat} {held : Bool} {fuel : Nat} {v : Value} {x : DataW H × List MemPlace} (h : DataW.trod enc Try.prog w base (fun _ => true) held fuel 37 [v] = some x) :
    ∃ (A : Option Addr) (n c : Nat) (M : List (List Int)), v = .slice A n c ∧ n ≤ c ∧ n ≤ 9223372036854775807 ∧ M.length = n ∧ (∀ l ∈ M, l.length ≤ 9223372036854775807) ∧ RowsAt w w.heap.size A M ∧ ∀ l ∈ M, ∀ s ∈ l, wfI s := by
  rcases open_int_rows Try.underlying37 Try.underlying52 Try.underlying3 (by kernel_rfl) (by kernel_rfl) h with ⟨h0, _⟩ | ⟨a, len, cap, A, L, C, Z, hcs, _, hl, hm, _, hr⟩
  · cases h0
    exact ⟨none, 0, 0, [], rfl, Nat.le_refl _, by omega, rfl, fun l hl => by simp at hl, fun i l hl => by simp at hl, fun l hl => by simp at hl⟩
  · cases hcs
    have hlen : ∀ r, r < len → ((Z r).take (L r)).length = L r ∧ L r ≤ 9223372036854775807 := fun r hr' => by
      obtain ⟨_, h2, h3, h4, _⟩ := hr r (by omega)
      unfold maxLen at h3
      rw [List.length_take]
      omega
    refine ⟨some a, len, cap, (List.range len).map fun r => (Z r).take (L r), rfl, hl, by unfold maxLen at hm; omega, by simp, ?_, ?_, ?_⟩
    · intro l hl'
      simp only [List.mem_map, List.mem_range] at hl'
      obtain ⟨r, hr', rfl⟩ := hl'
      have := hlen r hr'
      omega
    · intro i l hi
      rw [List.getElem?_map] at hi
      rcases Nat.lt_or_ge i len with hil | hil
      · rw [List.getElem?_range hil] at hi
        simp only [Option.map_some, Option.some.injEq] at hi
        subst hi
        have z := (hr 0 (by omega)).1
        have ha := add_spot (a := a) z
        obtain ⟨c0, h2, h3, h4, h5, h6, h7⟩ := hr i (by omega)
        have hb := World.block_lt_of_cell? _ _ c0
        have hb : a.block < w.heap.size := by rw [ha] at hb; simpa [add_at] using hb
        rw [ha] at c0
        simp only [add_at] at c0
        refine ⟨a.block, a.off, A i, C i, by rw [← ha], hb, by rw [(hlen i hil).1]; exact c0, by rw [(hlen i hil).1]; exact h2, ?_⟩
        intro j s hj
        rw [List.getElem?_take] at hj
        split at hj
        · have hjz := (List.getElem?_eq_some_iff.1 hj).1
          cases hA : A i with
          | none => have := h6 hA; omega
          | some a' =>
            obtain ⟨_, h8⟩ := h7 a' hA
            have z' := h8 0 (by omega)
            have ha' := add_spot (a := a') z'
            have d0 := h8 j (by omega)
            have hb' := World.block_lt_of_cell? _ _ d0
            have hb' : a'.block < w.heap.size := by rw [ha'] at hb'; simpa [add_at] using hb'
            rw [ha'] at d0
            simp only [add_at] at d0
            refine ⟨a'.block, a'.off, by rw [← ha'], hb', ?_⟩
            rw [d0]
            simp [List.getD, hj]
        · cases hj
      · rw [List.getElem?_eq_none (by simpa using hil)] at hi
        cases hi
    · intro l hl' s hs
      simp only [List.mem_map, List.mem_range] at hl'
      obtain ⟨r, hr', rfl⟩ := hl'
      obtain ⟨_, _, _, _, h5, _⟩ := hr r (by omega)
      exact wf_of (h5 s (List.mem_of_mem_take hs))

set_option maxRecDepth 100000 in
theorem fnExactTurnCode_lifted (os : Os) (started : os.Started) (H : Type) (enc : TypeId × Value → H) :
    ReturnsInHanded {} Try.checked os 5 .any (Rows.fnExactTurnCodeSpec.pre6 enc Try.prog Try.f5 Rows.fnExactTurnCodeRow.domain false) (Rows.fnExactTurnCodeSpec.post enc Try.prog Try.f5 false true false false) := by
  refine returnsInHanded_of_change (C := Try.checked) Try.own started (by kernel_rfl) Try.func5
    (ChangeSpec.witness6 (enc := enc) (C := Try.checked) false ⟨#[], #[Value.slice none 0 0], []⟩ 8 (by kernel_rfl) (by kernel_rfl) (by kernel_rfl) (by kernel_rfl)) ?_
  intro W base args ds gs before hval0 hW _ _
  have hval : ∀ (j : Nat) t v, Try.f5.params[j]? = some t → args[j]? = some v → Value.okWide Try.prog W .any base t v := hval0
  have hW' := hW
  obtain ⟨p, q, hA0, hV, rfl, _, _⟩ := hW
  have hA : DataW.TrodAll enc Try.prog W 0 (fun _ => true) true Try.f5.params.toList args.toList ds p := hA0
  rw [Try.params5] at hA hval
  obtain ⟨v2, d2, rfl, rfl, h2⟩ := trodAll_one hA
  obtain ⟨rfl, rfl⟩ := trodVars_none hV
  obtain ⟨A, n, c, rfl⟩ := okWide_slice Try.underlying37 (hval 0 37 v2 rfl rfl)
  have h2' := h2
  obtain ⟨fuel, hf⟩ := h2'
  obtain ⟨A', n', c', L, he, hc, hn, hl, hll, hL, hwf⟩ := open_rows (v := .slice A n c) hf
  cases he
  clear hA0 hval0
  simp only [List.append_nil, List.nil_append] at hW'
  have hlt : ∀ x ∈ p, x.block < W.heap.size := fun x hx => by simpa using hW'.lt x (by simpa using hx)
  have fin : ∀ (e : Ending) (W' : World), (e = .returned (.bool true) ∧ Below W.heap.size W W') → ∃ v, e = .returned v ∧ Rows.fnExactTurnCodeSpec.post enc Try.prog Try.f5 false true false false W #[.slice A n c] v W' := by
    rintro e W' ⟨rfl, hb⟩
    have harg := Below.trod Try.laidOut (by kernel_rfl) (of_decide_eq_true (by kernel_rfl)) h2 hb hlt
    exact ⟨_, rfl, _, _, _, [], _, [], hW', trodAll_mk1 (shut_bool Try.underlying4 _), trodAll_mk1 harg, rfl, hb.frame _, fun h => by cases h⟩
  exact (lawTurnCode A n c L W hl hn hll hL hwf).mono fin
end Go.Proofs.Ytnnhgblgbbfmpaa
