/- FnExactCutOfSides returns true for every input and leaves its arguments as they were: no condition. -/
import Derived.Test.YtmjdmedlkcmgiaaOpen
import Derived.Test.YtmjdmedlkcmgiaaLawCutSides
set_option linter.all false
namespace Go.Proofs.Ytmjdmedlkcmgiaa
open Go.ChangeShapes Go.WideShapes Go.ChangeAt Go.RowKit Go.Deep

set_option maxRecDepth 100000 in
theorem fnExactCutOfSides_lifted (os : Os) (started : os.Started) (H : Type) (enc : TypeId × Value → H) :
    ReturnsInHanded {} Try.checked os 5 .any (Rows.fnExactCutOfSidesSpec.pre6 enc Try.prog Try.f5 Rows.fnExactCutOfSidesRow.domain false) (Rows.fnExactCutOfSidesSpec.post enc Try.prog Try.f5 false true false false) := by
  refine returnsInHanded_of_change (C := Try.checked) Try.own started (by kernel_rfl) Try.func5
    (ChangeSpec.witness6 (enc := enc) (C := Try.checked) false ⟨#[], #[Value.int .i64 0, .slice none 0 0], []⟩ 8 (by kernel_rfl) (by kernel_rfl) (by kernel_rfl) (by kernel_rfl)) ?_
  intro W base args ds gs before hval0 hW _ _
  have hval : ∀ (j : Nat) t v, Try.f5.params[j]? = some t → args[j]? = some v → Value.okWide Try.prog W .any base t v := hval0
  have hW' := hW
  obtain ⟨p, q, hA0, hV, rfl, _, _⟩ := hW
  have hA : DataW.TrodAll enc Try.prog W 0 (fun _ => true) true Try.f5.params.toList args.toList ds p := hA0
  rw [Try.params5] at hA hval
  obtain ⟨v0, v2, d0, d2, p0, p2, rfl, rfl, rfl, h0, h2⟩ := trodAll_two hA
  obtain ⟨rfl, rfl⟩ := trodVars_none hV
  obtain ⟨X, rfl, rfl, rfl, wf0⟩ := open_int Try.underlying3 (hval 0 3 v0 rfl rfl) h0
  obtain ⟨A, n, c, rfl⟩ := okWide_slice Try.underlying42 (hval 1 42 v2 rfl rfl)
  have h2' := h2
  obtain ⟨fuel, hf⟩ := h2'
  obtain ⟨A', n', c', L, he, hc, hn, hl, hL, hwf⟩ := open_nums (v := .slice A n c) hf
  cases he
  clear hA0 hval0
  simp only [List.append_nil, List.nil_append] at hW'
  have hlt : ∀ x ∈ p2, x.block < W.heap.size := fun x hx => by simpa using hW'.lt x (by simpa using hx)
  have fin : ∀ (e : Ending) (W' : World), (e = .returned (.bool true) ∧ Below W.heap.size W W') → ∃ v, e = .returned v ∧ Rows.fnExactCutOfSidesSpec.post enc Try.prog Try.f5 false true false false W #[.int .i64 X, .slice A n c] v W' := by
    rintro e W' ⟨rfl, hb⟩
    have harg := Below.trod Try.laidOut (by kernel_rfl) (of_decide_eq_true (by kernel_rfl)) h2 hb hlt
    exact ⟨_, rfl, _, _, _, [], _, [], hW', trodAll_mk1 (shut_bool Try.underlying4 _), trodAll_mk2 (shut_int Try.underlying3 wf0) harg, rfl, hb.frame _, fun h => by cases h⟩
  by_cases h : n ≤ 1048576
  · exact (lawCutSides X A n c L W hl hc h hL hwf).mono fin
  · exact (lawCutSides_over X A n c W (by omega)).mono fin
end Go.Proofs.Ytmjdmedlkcmgiaa
