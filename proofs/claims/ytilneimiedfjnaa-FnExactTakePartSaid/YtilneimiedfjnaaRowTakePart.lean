/- FnExactTakePart returns true for every input and leaves its arguments as they were: no condition. -/
import Derived.Test.YtilneimiedfjnaaOpen
import Derived.Test.YtilneimiedfjnaaLawTakePart
set_option linter.all false
namespace Go.Proofs.Ytilneimiedfjnaa
open Go.ChangeShapes Go.WideShapes Go.ChangeAt Go.RowKit Go.Deep

set_option maxRecDepth 100000 in
theorem fnExactTakePart_lifted (os : Os) (started : os.Started) (H : Type) (enc : TypeId × Value → H) :
    ReturnsInHanded {} Try.checked os 3 .any (Rows.fnExactTakePartSpec.pre6 enc Try.prog Try.f3 Rows.fnExactTakePartRow.domain false) (Rows.fnExactTakePartSpec.post enc Try.prog Try.f3 false true false false) := by
  refine returnsInHanded_of_change (C := Try.checked) Try.own started (by kernel_rfl) Try.func3
    (ChangeSpec.witness6 (enc := enc) (C := Try.checked) false ⟨#[], #[Value.agg #[.int .i64 0, .int .i64 0, .slice none 0 0], .slice none 0 0], []⟩ 8 (by kernel_rfl) (by kernel_rfl) (by kernel_rfl) (by kernel_rfl)) ?_
  intro W base args ds gs before hval0 hW _ _
  have hval : ∀ (j : Nat) t v, Try.f3.params[j]? = some t → args[j]? = some v → Value.okWide Try.prog W .any base t v := hval0
  have hW' := hW
  obtain ⟨p, q, hA0, hV, rfl, _, _⟩ := hW
  have hA : DataW.TrodAll enc Try.prog W 0 (fun _ => true) true Try.f3.params.toList args.toList ds p := hA0
  rw [Try.params3] at hA hval
  obtain ⟨v0, v1, d0, d1, p0, p1, rfl, rfl, rfl, h0, h1⟩ := trodAll_two hA
  obtain ⟨rfl, rfl⟩ := trodVars_none hV
  obtain ⟨X, Y, A, n, c, L, rfl, wX, wY, hc, hn, hl, hL, hwf⟩ := open_cut (hval 0 24 v0 rfl rfl) h0
  obtain ⟨A', n', c', rfl⟩ := okWide_slice Try.underlying25 (hval 1 25 v1 rfl rfl)
  have h1' := h1
  obtain ⟨fuel, hf⟩ := h1'
  obtain ⟨A2, n2, c2, K, he, hc', hn', hl', hK, hwf'⟩ := open_nums (v := .slice A' n' c') hf
  cases he
  clear hA0 hval0
  simp only [List.append_nil, List.nil_append] at hW'
  have hlt : ∀ x ∈ p0, x.block < W.heap.size := fun x hx => by simpa using hW'.lt x (by simp [hx])
  have hlt1 : ∀ x ∈ p1, x.block < W.heap.size := fun x hx => by simpa using hW'.lt x (by simp [hx])
  have fin : ∀ (e : Ending) (W' : World), (e = .returned (.bool true) ∧ Below W.heap.size W W') → ∃ v, e = .returned v ∧ Rows.fnExactTakePartSpec.post enc Try.prog Try.f3 false true false false W #[.agg #[.int .i64 X, .int .i64 Y, .slice A n c], .slice A' n' c'] v W' := by
    rintro e W' ⟨rfl, hb⟩
    have harg := Below.trod Try.laidOut (by kernel_rfl) (of_decide_eq_true (by kernel_rfl)) h0 hb hlt
    have harg1 := Below.trod Try.laidOut (by kernel_rfl) (of_decide_eq_true (by kernel_rfl)) h1 hb hlt1
    exact ⟨_, rfl, _, _, _, [], _, [], hW', trodAll_mk1 (shut_bool Try.underlying4 _), trodAll_mk2 harg harg1, rfl, hb.frame _, fun h => by cases h⟩
  by_cases h : n' ≤ 1048576
  · by_cases h2 : n ≤ 1048576
    · exact (lawTakePart X Y A n c L A' n' c' K W hl hl' hc h2 h hL hK hwf).mono fin
    · exact (lawTakePart_over2 X Y A n c L A' n' c' K W h (by omega) hn).mono fin
  · exact (lawTakePart_over1 X Y A n c L A' n' c' K W (by omega)).mono fin
end Go.Proofs.Ytilneimiedfjnaa
