/- FnExactNetText returns true for every input and leaves its arguments as they were: no condition. -/
import Derived.Test.YtmlnjmjemhbodaaDoorCards
import Derived.Test.YtmlnjmjemhbodaaDoorTie
import Derived.SevenTiedAt
import Derived.Test.YtmlnjmjemhbodaaDoorRowNt
import Derived.Test.YtmlnjmjemhbodaaDoorFactsNt
set_option linter.all false
namespace Go.Proofs.YtmlnjmjemhbodaaDoor

theorem rowNetText : Rows.FnExactNetTextSaid :=
  OpenClaim.holds_of_wide 6 Tryd.f6 rfl rfl rfl rfl rfl rfl rfl ⟨rfl, rfl, rfl, rfl, rfl⟩ rfl rfl rfl rfl rfl namedNetText Tryd.func6 closedNetText
    (of_decide_eq_true (by kernel_rfl)) wrapNetText
    (fun os started H enc _ => fnExactNetText_lifted os started H enc)

theorem holdsNetText : Rows.FnExactNetTextCardSaid :=
  Claim7.holds_tied_plain_at .later [] [.data, .data, .data] true (true, "f1d3077f85f1bc3884b1646bb257e36ea7bee2678d45bd4ea04f17265c1f6044") true
    rowNetText (fun _ h => by cases h) (by kernel_rfl) (fun _ h => by cases h) fnExactNetText_row_tie rfl ⟨rfl, rfl⟩ (by kernel_rfl) rfl
    (fun f fn hf hfn => by
      obtain rfl : f = 6 := Option.some.inj ((show Tryd.prog.funcNamed "loop.example/g01296/laws.FnExactNetText" = some 6 by kernel_rfl).symm.trans hf) |>.symm
      obtain rfl : fn = Tryd.f6 := (Option.some.inj (Tryd.func6.symm.trans hfn)).symm
      exact ⟨by kernel_rfl, fun j t ht => by
        rw [Tryd.params6] at ht
        have hm := Array.mem_of_getElem? ht
        have hall : (Tryd.f6.params.toList.all fun u => !Tryd.prog.wantsStandIn u) = true := by kernel_rfl
        rw [Tryd.params6] at hall
        exact (show Tryd.prog.wantsStandIn t = false by simpa using List.all_eq_true.1 hall t (by simpa using hm))⟩)
    (by kernel_rfl)
#print axioms holdsNetText
end Go.Proofs.YtmlnjmjemhbodaaDoor
