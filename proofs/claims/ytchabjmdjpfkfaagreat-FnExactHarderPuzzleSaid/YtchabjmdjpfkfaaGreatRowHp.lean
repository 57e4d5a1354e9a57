/- FnExactHarderPuzzle returns true for every input and leaves its arguments as they were: no condition. -/
import Derived.Test.YtchabjmdjpfkfaaGreatOpen
import Derived.Test.YtchabjmdjpfkfaaGreatPzO
import Derived.Test.YtchabjmdjpfkfaaGreatLawHp
set_option linter.all false
namespace Go.Proofs.YtchabjmdjpfkfaaGreat
open Go.ChangeShapes Go.WideShapes Go.ChangeAt Go.RowKit Go.Deep

set_option maxRecDepth 100000 in
theorem fnExactHarderPuzzle_lifted (os : Os) (started : os.Started) (H : Type) (enc : TypeId × Value → H) :
    ReturnsInHanded {} Tryz.checked os 4 .any (Rows.fnExactHarderPuzzleSpec.pre6 enc Tryz.prog Tryz.f4 Rows.fnExactHarderPuzzleRow.domain false) (Rows.fnExactHarderPuzzleSpec.post enc Tryz.prog Tryz.f4 false true false false) := by
  refine returnsInHanded_of_change (C := Tryz.checked) Tryz.own started (by kernel_rfl) Tryz.func4
    (ChangeSpec.witness6 (enc := enc) (C := Tryz.checked) false ⟨#[], #[Value.agg #[.int .i64 0, .int .i64 0, .slice none 0 0]], []⟩ 8 (by kernel_rfl) (by kernel_rfl) (by kernel_rfl) (by kernel_rfl)) ?_
  intro W base args ds gs before hval0 hW _ _
  have hval : ∀ (j : Nat) t v, Tryz.f4.params[j]? = some t → args[j]? = some v → Value.okWide Tryz.prog W .any base t v := hval0
  have hW' := hW
  obtain ⟨p, q, hA0, hV, rfl, _, _⟩ := hW
  have hA : DataW.TrodAll enc Tryz.prog W 0 (fun _ => true) true Tryz.f4.params.toList args.toList ds p := hA0
  rw [Tryz.params4] at hA hval
  obtain ⟨v0, d0, rfl, rfl, h0⟩ := trodAll_one hA
  obtain ⟨rfl, rfl⟩ := trodVars_none hV
  obtain ⟨X0, Y0, A0, n0, c0, L0, rfl, wX0, wY0, hc0, hn0, hl0, hL0, hwf0⟩ := open_puz (hval 0 24 v0 rfl rfl) h0
  clear hA0 hval0
  simp only [List.append_nil] at hW'
  have fin : ∀ (e : Ending) (W' : World), (e = .returned (.bool true) ∧ Below W.heap.size W W') → ∃ v, e = .returned v ∧ Rows.fnExactHarderPuzzleSpec.post enc Tryz.prog Tryz.f4 false true false false W #[.agg #[.int .i64 X0, .int .i64 Y0, .slice A0 n0 c0]] v W' := by
    rintro e W' ⟨rfl, hb⟩
    exact ⟨_, rfl, _, _, _, [], _, [], hW', trodAll_mk1 (shut_bool Tryz.underlying4 _), trodAll_mk1 (Below.trod Tryz.laidOut (by kernel_rfl) (of_decide_eq_true (by kernel_rfl)) h0 hb (fun x hx => by simpa using hW'.lt x (by simp [hx]))), rfl, hb.frame _, fun h => by cases h⟩
  by_cases h : n0 ≤ 1048576
  · exact (lawHarderPuzzle X0 Y0 A0 n0 c0 L0 W hl0 hc0 h hL0 hwf0).mono fin
  · exact (lawHarderPuzzle_over X0 Y0 A0 n0 c0 L0 W (by omega) hn0).mono fin
end Go.Proofs.YtchabjmdjpfkfaaGreat
