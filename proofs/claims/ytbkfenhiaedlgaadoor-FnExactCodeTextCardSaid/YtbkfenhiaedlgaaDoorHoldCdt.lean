/- FnExactCodeText returns true for every input and leaves its arguments as they were: no condition. -/
import Derived.Test.YtbkfenhiaedlgaaDoorCards
import Derived.Test.YtbkfenhiaedlgaaDoorTie
import Derived.SevenTiedAt
import Derived.Test.YtbkfenhiaedlgaaDoorRowCdt
import Derived.Test.YtbkfenhiaedlgaaDoorFactsCdt
set_option linter.all false
namespace Go.Proofs.YtbkfenhiaedlgaaDoor

theorem rowCodeText : Rows.FnExactCodeTextSaid :=
  OpenClaim.holds_of_wide 5 Tryd.f5 rfl rfl rfl rfl rfl rfl rfl ⟨rfl, rfl, rfl, rfl, rfl⟩ rfl rfl rfl rfl rfl namedCodeText Tryd.func5 closedCodeText
    (of_decide_eq_true (by kernel_rfl)) wrapCodeText
    (fun os started H enc _ => fnExactCodeText_lifted os started H enc)

theorem holdsCodeText : Rows.FnExactCodeTextCardSaid :=
  Claim7.holds_tied_plain_at .later [] [.data, .data, .data] true (true, "f1d3077f85f1bc3884b1646bb257e36ea7bee2678d45bd4ea04f17265c1f6044") true
    rowCodeText (fun _ h => by cases h) (by kernel_rfl) (fun _ h => by cases h) fnExactCodeText_row_tie rfl ⟨rfl, rfl⟩ (by kernel_rfl) rfl
    (fun f fn hf hfn => by
      obtain rfl : f = 5 := Option.some.inj ((show Tryd.prog.funcNamed "loop.example/g01296/laws.FnExactCodeText" = some 5 by kernel_rfl).symm.trans hf) |>.symm
      obtain rfl : fn = Tryd.f5 := (Option.some.inj (Tryd.func5.symm.trans hfn)).symm
      exact ⟨by kernel_rfl, fun j t ht => by
        rw [Tryd.params5] at ht
        have hm := Array.mem_of_getElem? ht
        have hall : (Tryd.f5.params.toList.all fun u => !Tryd.prog.wantsStandIn u) = true := by kernel_rfl
        rw [Tryd.params5] at hall
        exact (show Tryd.prog.wantsStandIn t = false by simpa using List.all_eq_true.1 hall t (by simpa using hm))⟩)
    (by kernel_rfl)
#print axioms holdsCodeText
end Go.Proofs.YtbkfenhiaedlgaaDoor
