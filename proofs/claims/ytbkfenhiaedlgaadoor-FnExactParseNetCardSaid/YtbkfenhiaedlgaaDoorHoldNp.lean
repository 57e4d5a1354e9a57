/- FnExactParseNet returns true for every input and leaves its arguments as they were: no condition. -/
import Derived.Test.YtbkfenhiaedlgaaDoorCards
import Derived.Test.YtbkfenhiaedlgaaDoorTie
import Derived.SevenTiedAt
import Derived.Test.YtbkfenhiaedlgaaDoorRowNp
import Derived.Test.YtbkfenhiaedlgaaDoorFactsNp
set_option linter.all false
namespace Go.Proofs.YtbkfenhiaedlgaaDoor

theorem rowParseNet : Rows.FnExactParseNetSaid :=
  OpenClaim.holds_of_wide 7 Tryd.f7 rfl rfl rfl rfl rfl rfl rfl ⟨rfl, rfl, rfl, rfl, rfl⟩ rfl rfl rfl rfl rfl namedParseNet Tryd.func7 closedParseNet
    (of_decide_eq_true (by kernel_rfl)) wrapParseNet
    (fun os started H enc _ => fnExactParseNet_lifted os started H enc)

theorem holdsParseNet : Rows.FnExactParseNetCardSaid :=
  Claim7.holds_tied_plain_at .later [] [.data, .data, .data, .data, .sentinel, .sentinel, .pinned] true (true, "f1d3077f85f1bc3884b1646bb257e36ea7bee2678d45bd4ea04f17265c1f6044") true
    rowParseNet (fun _ h => by cases h) (by kernel_rfl) (fun _ h => by cases h) fnExactParseNet_row_tie rfl ⟨rfl, rfl⟩ (by kernel_rfl) rfl
    (fun f fn hf hfn => by
      obtain rfl : f = 7 := Option.some.inj ((show Tryd.prog.funcNamed "loop.example/g01296/laws.FnExactParseNet" = some 7 by kernel_rfl).symm.trans hf) |>.symm
      obtain rfl : fn = Tryd.f7 := (Option.some.inj (Tryd.func7.symm.trans hfn)).symm
      exact ⟨by kernel_rfl, fun j t ht => by
        rw [Tryd.params7] at ht
        have hm := Array.mem_of_getElem? ht
        have hall : (Tryd.f7.params.toList.all fun u => !Tryd.prog.wantsStandIn u) = true := by kernel_rfl
        rw [Tryd.params7] at hall
        exact (show Tryd.prog.wantsStandIn t = false by simpa using List.all_eq_true.1 hall t (by simpa using hm))⟩)
    (by kernel_rfl)
#print axioms holdsParseNet
end Go.Proofs.YtbkfenhiaedlgaaDoor
