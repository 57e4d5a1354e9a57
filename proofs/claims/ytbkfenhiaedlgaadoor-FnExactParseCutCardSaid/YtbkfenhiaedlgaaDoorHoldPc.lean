/- FnExactParseCut returns true for every input and leaves its arguments as they were: no condition. -/
import Derived.Test.YtbkfenhiaedlgaaDoorCards
import Derived.Test.YtbkfenhiaedlgaaDoorTie
import Derived.SevenTiedAt
import Derived.Test.YtbkfenhiaedlgaaDoorRowPc
import Derived.Test.YtbkfenhiaedlgaaDoorFactsPc
set_option linter.all false
namespace Go.Proofs.YtbkfenhiaedlgaaDoor

theorem rowParseCut : Rows.FnExactParseCutSaid :=
  OpenClaim.holds_of_wide 4 Tryd.f4 rfl rfl rfl rfl rfl rfl rfl ⟨rfl, rfl, rfl, rfl, rfl⟩ rfl rfl rfl rfl rfl namedParseCut Tryd.func4 closedParseCut
    (of_decide_eq_true (by kernel_rfl)) wrapParseCut
    (fun os started H enc _ => fnExactParseCut_lifted os started H enc)

theorem holdsParseCut : Rows.FnExactParseCutCardSaid :=
  Claim7.holds_tied_plain_at .later [] [.data, .data, .data, .data, .sentinel, .sentinel, .pinned] true (true, "f1d3077f85f1bc3884b1646bb257e36ea7bee2678d45bd4ea04f17265c1f6044") true
    rowParseCut (fun _ h => by cases h) (by kernel_rfl) (fun _ h => by cases h) fnExactParseCut_row_tie rfl ⟨rfl, rfl⟩ (by kernel_rfl) rfl
    (fun f fn hf hfn => by
      obtain rfl : f = 4 := Option.some.inj ((show Tryd.prog.funcNamed "loop.example/g01296/laws.FnExactParseCut" = some 4 by kernel_rfl).symm.trans hf) |>.symm
      obtain rfl : fn = Tryd.f4 := (Option.some.inj (Tryd.func4.symm.trans hfn)).symm
      exact ⟨by kernel_rfl, fun j t ht => by
        rw [Tryd.params4] at ht
        have hm := Array.mem_of_getElem? ht
        have hall : (Tryd.f4.params.toList.all fun u => !Tryd.prog.wantsStandIn u) = true := by kernel_rfl
        rw [Tryd.params4] at hall
        exact (show Tryd.prog.wantsStandIn t = false by simpa using List.all_eq_true.1 hall t (by simpa using hm))⟩)
    (by kernel_rfl)
#print axioms holdsParseCut
end Go.Proofs.YtbkfenhiaedlgaaDoor
