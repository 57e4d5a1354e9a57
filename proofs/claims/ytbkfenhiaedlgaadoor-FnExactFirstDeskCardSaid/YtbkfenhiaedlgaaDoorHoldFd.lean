/- FnExactFirstDesk returns true for every input and leaves its arguments as they were: no condition. -/
import Derived.Test.YtbkfenhiaedlgaaDoorCards
import Derived.Test.YtbkfenhiaedlgaaDoorTie
import Derived.SevenTiedAt
import Derived.Test.YtbkfenhiaedlgaaDoorRowFd
import Derived.Test.YtbkfenhiaedlgaaDoorFactsFd
set_option linter.all false
namespace Go.Proofs.YtbkfenhiaedlgaaDoor

theorem rowFirstDesk : Rows.FnExactFirstDeskSaid :=
  OpenClaim.holds_of_wide 10 Tryd.f10 rfl rfl rfl rfl rfl rfl rfl ⟨rfl, rfl, rfl, rfl, rfl⟩ rfl rfl rfl rfl rfl namedFirstDesk Tryd.func10 closedFirstDesk
    (of_decide_eq_true (by kernel_rfl)) wrapFirstDesk
    (fun os started H enc _ => fnExactFirstDesk_lifted os started H enc)

theorem holdsFirstDesk : Rows.FnExactFirstDeskCardSaid :=
  Claim7.holds_tied_plain_at .later [] [.data, .data, .data, .data, .sentinel, .sentinel, .pinned] true (true, "f1d3077f85f1bc3884b1646bb257e36ea7bee2678d45bd4ea04f17265c1f6044") true
    rowFirstDesk (fun _ h => by cases h) (by kernel_rfl) (fun _ h => by cases h) fnExactFirstDesk_row_tie rfl ⟨rfl, rfl⟩ (by kernel_rfl) rfl
    (fun f fn hf hfn => by
      obtain rfl : f = 10 := Option.some.inj ((show Tryd.prog.funcNamed "loop.example/g01296/laws.FnExactFirstDesk" = some 10 by kernel_rfl).symm.trans hf) |>.symm
      obtain rfl : fn = Tryd.f10 := (Option.some.inj (Tryd.func10.symm.trans hfn)).symm
      exact ⟨by kernel_rfl, fun j t ht => by
        rw [Tryd.params10] at ht
        have hm := Array.mem_of_getElem? ht
        have hall : (Tryd.f10.params.toList.all fun u => !Tryd.prog.wantsStandIn u) = true := by kernel_rfl
        rw [Tryd.params10] at hall
        exact (show Tryd.prog.wantsStandIn t = false by simpa using List.all_eq_true.1 hall t (by simpa using hm))⟩)
    (by kernel_rfl)
#print axioms holdsFirstDesk
end Go.Proofs.YtbkfenhiaedlgaaDoor
