/- FnExactCompareCodes returns true for every input and leaves its arguments as they were: no condition. -/
import Derived.Test.YtmjdmedlkcmgiaaOpen
import Derived.Test.YtmjdmedlkcmgiaaLawCmp
import Derived.Test.YtmjdmedlkcmgiaaRowTurnC
set_option linter.all false
namespace Go.Proofs.Ytmjdmedlkcmgiaa
open Go.ChangeShapes Go.WideShapes Go.ChangeAt Go.RowKit Go.Deep

set_option maxRecDepth 100000 in
theorem fnExactCompareCodes_lifted (os : Os) (started : os.Started) (H : Type) (enc : TypeId × Value → H) :
    ReturnsInHanded {} Try.checked os 11 .any (Rows.fnExactCompareCodesSpec.pre6 enc Try.prog Try.f11 Rows.fnExactCompareCodesRow.domain false) (Rows.fnExactCompareCodesSpec.post enc Try.prog Try.f11 false true false false) := by
  refine returnsInHanded_of_change (C := Try.checked) Try.own started (by kernel_rfl) Try.func11
    (ChangeSpec.witness6 (enc := enc) (C := Try.checked) false ⟨#[], #[Value.slice none 0 0, Value.slice none 0 0], []⟩ 8 (by kernel_rfl) (by kernel_rfl) (by kernel_rfl) (by kernel_rfl)) ?_
  intro W base args ds gs before hval0 hW _ _
  have hval : ∀ (j : Nat) t v, Try.f11.params[j]? = some t → args[j]? = some v → Value.okWide Try.prog W .any base t v := hval0
  have hW' := hW
  obtain ⟨p, q, hA0, hV, rfl, _, _⟩ := hW
  have hA : DataW.TrodAll enc Try.prog W 0 (fun _ => true) true Try.f11.params.toList args.toList ds p := hA0
  rw [Try.params11] at hA hval
  obtain ⟨v1, v2, d1, d2, p1, p2, rfl, rfl, rfl, h1, h2⟩ := trodAll_two hA
  obtain ⟨rfl, rfl⟩ := trodVars_none hV
  obtain ⟨A, n, c, rfl⟩ := okWide_slice Try.underlying26 (hval 0 26 v1 rfl rfl)
  obtain ⟨A2, n2, c2, rfl⟩ := okWide_slice Try.underlying26 (hval 1 26 v2 rfl rfl)
  have h1' := h1
  obtain ⟨fuel, hf⟩ := h1'
  obtain ⟨_, _, _, L, he, hc, hn, hl, hll, hL, hwf⟩ := open_rows (v := .slice A n c) hf
  cases he
  have h2' := h2
  obtain ⟨fuel2, hf2⟩ := h2'
  obtain ⟨_, _, _, L2, he, hc2, hn2, hl2, hll2, hL2, hwf2⟩ := open_rows (v := .slice A2 n2 c2) hf2
  cases he
  clear hA0 hval0
  simp only [List.append_nil, List.nil_append] at hW'
  have hlt1 : ∀ x ∈ p1, x.block < W.heap.size := fun x hx => by simpa using hW'.lt x (by simp [hx])
  have hlt2 : ∀ x ∈ p2, x.block < W.heap.size := fun x hx => by simpa using hW'.lt x (by simp [hx])
  have fin : ∀ (e : Ending) (W' : World), (e = .returned (.bool true) ∧ Below W.heap.size W W') → ∃ v, e = .returned v ∧ Rows.fnExactCompareCodesSpec.post enc Try.prog Try.f11 false true false false W #[.slice A n c, .slice A2 n2 c2] v W' := by
    rintro e W' ⟨rfl, hb⟩
    have harg1 := Below.trod Try.laidOut (by kernel_rfl) (of_decide_eq_true (by kernel_rfl)) h1 hb hlt1
    have harg2 := Below.trod Try.laidOut (by kernel_rfl) (of_decide_eq_true (by kernel_rfl)) h2 hb hlt2
    exact ⟨_, rfl, _, _, _, [], _, [], hW', trodAll_mk1 (shut_bool Try.underlying4 _), trodAll_mk2 harg1 harg2, rfl, hb.frame _, fun h => by cases h⟩
  exact (lawCompareCodes A n c L A2 n2 c2 L2 W hl hn hll hL hwf hl2 hn2 hll2 hL2 hwf2).mono fin
end Go.Proofs.Ytmjdmedlkcmgiaa
