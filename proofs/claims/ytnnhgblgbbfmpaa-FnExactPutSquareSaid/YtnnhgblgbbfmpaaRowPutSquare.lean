/- FnExactPutSquare returns true for every input and leaves its arguments as they were: no condition. -/
import Derived.Test.YtnnhgblgbbfmpaaOpen
import Derived.Test.YtnnhgblgbbfmpaaLawPutSquare
set_option linter.all false
namespace Go.Proofs.Ytnnhgblgbbfmpaa
open Go.ChangeShapes Go.WideShapes Go.ChangeAt Go.RowKit Go.Deep

set_option maxRecDepth 100000 in
theorem fnExactPutSquare_lifted (os : Os) (started : os.Started) (H : Type) (enc : TypeId × Value → H) :
    ReturnsInHanded {} Try.checked os 13 .any (Rows.fnExactPutSquareSpec.pre6 enc Try.prog Try.f13 Rows.fnExactPutSquareRow.domain false) (Rows.fnExactPutSquareSpec.post enc Try.prog Try.f13 false true false false) := by
  refine returnsInHanded_of_change (C := Try.checked) Try.own started (by kernel_rfl) Try.func13
    (ChangeSpec.witness6 (enc := enc) (C := Try.checked) false ⟨#[], #[Value.agg #[.int .i64 0, .int .i64 0, .slice none 0 0], .int .i64 0], []⟩ 8 (by kernel_rfl) (by kernel_rfl) (by kernel_rfl) (by kernel_rfl)) ?_
  intro W base args ds gs before hval0 hW _ _
  have hval : ∀ (j : Nat) t v, Try.f13.params[j]? = some t → args[j]? = some v → Value.okWide Try.prog W .any base t v := hval0
  have hW' := hW
  obtain ⟨p, q, hA0, hV, rfl, _, _⟩ := hW
  have hA : DataW.TrodAll enc Try.prog W 0 (fun _ => true) true Try.f13.params.toList args.toList ds p := hA0
  rw [Try.params13] at hA hval
  obtain ⟨v0, v1, d0, d1, p0, p1, rfl, rfl, rfl, h0, h1⟩ := trodAll_two hA
  obtain ⟨rfl, rfl⟩ := trodVars_none hV
  obtain ⟨kk, rfl, rfl, rfl, wf1⟩ := open_int Try.underlying3 (hval 1 3 v1 rfl rfl) h1
  obtain ⟨X, Y, A, n, c, L, rfl, wX, wY, hc, hn, hl, hL, hwf⟩ := open_cut (hval 0 24 v0 rfl rfl) h0
  clear hA0 hval0
  simp only [List.append_nil] at hW'
  have hlt : ∀ x ∈ p0, x.block < W.heap.size := fun x hx => by simpa using hW'.lt x (by simpa using hx)
  have fin : ∀ (e : Ending) (W' : World), (e = .returned (.bool true) ∧ Below W.heap.size W W') → ∃ v, e = .returned v ∧ Rows.fnExactPutSquareSpec.post enc Try.prog Try.f13 false true false false W #[.agg #[.int .i64 X, .int .i64 Y, .slice A n c], .int .i64 kk] v W' := by
    rintro e W' ⟨rfl, hb⟩
    have harg := Below.trod Try.laidOut (by kernel_rfl) (of_decide_eq_true (by kernel_rfl)) h0 hb hlt
    exact ⟨_, rfl, _, _, _, [], _, [], hW', trodAll_mk1 (shut_bool Try.underlying4 _), trodAll_mk2 harg (shut_int Try.underlying3 wf1), rfl, hb.frame _, fun h => by cases h⟩
  by_cases h : n ≤ 1048576
  · exact (lawPutSquare X Y A n c L kk W hl hc h hL hwf).mono fin
  · exact (lawPutSquare_over X Y A n c L kk W (by omega) hn).mono fin
end Go.Proofs.Ytnnhgblgbbfmpaa
