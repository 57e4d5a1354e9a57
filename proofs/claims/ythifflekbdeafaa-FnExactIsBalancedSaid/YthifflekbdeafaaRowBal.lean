/- FnExactIsBalanced returns true for every input and leaves its arguments as they were: no condition. -/
import Derived.Test.YthifflekbdeafaaNetO
import Derived.Test.YthifflekbdeafaaLawBal
namespace Go.Proofs.Ythifflekbdeafaa
open Go.ChangeShapes Go.WideShapes Go.ChangeAt Go.RowKit Go.Deep

set_option maxRecDepth 100000 in
theorem fnExactIsBalanced_lifted (os : Os) (started : os.Started) (H : Type) (enc : TypeId × Value → H) :
    ReturnsInHanded {} Try.checked os 4 .any (Rows.fnExactIsBalancedSpec.pre6 enc Try.prog Try.f4 Rows.fnExactIsBalancedRow.domain false) (Rows.fnExactIsBalancedSpec.post enc Try.prog Try.f4 false true false false) := by
  refine returnsInHanded_of_change (C := Try.checked) Try.own started (by kernel_rfl) Try.func4
    (ChangeSpec.witness6 (enc := enc) (C := Try.checked) false ⟨#[], #[Value.agg #[.int .i64 0, .slice none 0 0], .slice none 0 0], []⟩ 8 (by kernel_rfl) (by kernel_rfl) (by kernel_rfl) (by kernel_rfl)) ?_
  intro W base args ds gs before hval0 hW _ _
  have hval : ∀ (j : Nat) t v, Try.f4.params[j]? = some t → args[j]? = some v → Value.okWide Try.prog W .any base t v := hval0
  have hW' := hW
  obtain ⟨p, q, hA0, hV, rfl, _, _⟩ := hW
  have hA : DataW.TrodAll enc Try.prog W 0 (fun _ => true) true Try.f4.params.toList args.toList ds p := hA0
  rw [Try.params4] at hA hval
  obtain ⟨v0, v2, d0, d2, p0, p2, rfl, rfl, rfl, h0, h2⟩ := trodAll_two hA
  obtain ⟨rfl, rfl⟩ := trodVars_none hV
  obtain ⟨X, A0, n0, c0, L0, rfl, wX, hc0, hn0, hl0, hL0, hwf0⟩ := open_net (hval 0 24 v0 rfl rfl) h0
  obtain ⟨A, n, c, rfl⟩ := okWide_slice Try.underlying25 (hval 1 25 v2 rfl rfl)
  have h2' := h2
  obtain ⟨fuel, hf⟩ := h2'
  obtain ⟨A', n', c', L, he, hc, hn, hl, hL, hwf⟩ := open_nums (v := .slice A n c) hf
  cases he
  clear hA0 hval0
  simp only [List.append_nil, List.nil_append] at hW'
  have hlt0 : ∀ x ∈ p0, x.block < W.heap.size := fun x hx => by simpa using hW'.lt x (by simp [hx])
  have hlt : ∀ x ∈ p2, x.block < W.heap.size := fun x hx => by simpa using hW'.lt x (by simp [hx])
  have fin : ∀ (e : Ending) (W' : World), (e = .returned (.bool true) ∧ Below W.heap.size W W') → ∃ v, e = .returned v ∧ Rows.fnExactIsBalancedSpec.post enc Try.prog Try.f4 false true false false W #[.agg #[.int .i64 X, .slice A0 n0 c0], .slice A n c] v W' := by
    rintro e W' ⟨rfl, hb⟩
    have harg0 := Below.trod Try.laidOut (by kernel_rfl) (of_decide_eq_true (by kernel_rfl)) h0 hb hlt0
    have harg := Below.trod Try.laidOut (by kernel_rfl) (of_decide_eq_true (by kernel_rfl)) h2 hb hlt
    exact ⟨_, rfl, _, _, _, [], _, [], hW', trodAll_mk1 (shut_bool Try.underlying4 _), trodAll_mk2 harg0 harg, rfl, hb.frame _, fun h => by cases h⟩
  by_cases h : n ≤ 1048576
  · by_cases h2 : n0 ≤ 1048576
    · exact (lawIsBalanced X A0 n0 c0 L0 A n c L W hl0 hl hc0 hc h2 h hL0 hL wX).mono fin
    · exact (lawIsBalanced_over X A0 n0 c0 A n c W (by omega) hn0 h).mono fin
  · exact (lawIsBalanced_many X A0 n0 c0 A n c W (by omega)).mono fin
end Go.Proofs.Ythifflekbdeafaa
