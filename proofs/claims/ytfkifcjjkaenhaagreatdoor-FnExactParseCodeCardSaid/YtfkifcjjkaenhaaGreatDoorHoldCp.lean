/- FnExactParseCode returns true for every input and leaves its arguments as they were: no condition. -/
import Derived.Test.YtfkifcjjkaenhaaGreatDoorCards
import Derived.Test.YtfkifcjjkaenhaaGreatDoorTie
import Derived.SevenTiedAt
import Derived.Test.YtfkifcjjkaenhaaGreatDoorRowCp
import Derived.Test.YtfkifcjjkaenhaaGreatDoorFactsCp
set_option linter.all false
namespace Go.Proofs.YtfkifcjjkaenhaaGreatDoor

theorem rowParseCode : Rows.FnExactParseCodeSaid :=
  OpenClaim.holds_of_wide 3 Tryz.f3 rfl rfl rfl rfl rfl rfl rfl ⟨rfl, rfl, rfl, rfl, rfl⟩ rfl rfl rfl rfl rfl namedParseCode Tryz.func3 closedParseCode
    (of_decide_eq_true (by kernel_rfl)) wrapParseCode
    (fun os started H enc _ => fnExactParseCode_lifted os started H enc)

theorem holdsParseCode : Rows.FnExactParseCodeCardSaid :=
  Claim7.holds_tied_plain_at .later [] [.data, .data, .data, .data, .sentinel, .sentinel, .pinned] true (true, "0bb3feed96770614277db28a1d0100a6dfd17f39f332ba073bfec21c94856352") true
    rowParseCode (fun _ h => by cases h) (by kernel_rfl) (fun _ h => by cases h) fnExactParseCode_row_tie rfl ⟨rfl, rfl⟩ (by kernel_rfl) rfl
    (fun f fn hf hfn => by
      obtain rfl : f = 3 := Option.some.inj ((show Tryz.prog.funcNamed "loop.example/g01296/laws.FnExactParseCode" = some 3 by kernel_rfl).symm.trans hf) |>.symm
      obtain rfl : fn = Tryz.f3 := (Option.some.inj (Tryz.func3.symm.trans hfn)).symm
      exact ⟨by kernel_rfl, fun j t ht => by
        rw [Tryz.params3] at ht
        have hm := Array.mem_of_getElem? ht
        have hall : (Tryz.f3.params.toList.all fun u => !Tryz.prog.wantsStandIn u) = true := by kernel_rfl
        rw [Tryz.params3] at hall
        exact (show Tryz.prog.wantsStandIn t = false by simpa using List.all_eq_true.1 hall t (by simpa using hm))⟩)
    (by kernel_rfl)
#print axioms holdsParseCode
end Go.Proofs.YtfkifcjjkaenhaaGreatDoor
