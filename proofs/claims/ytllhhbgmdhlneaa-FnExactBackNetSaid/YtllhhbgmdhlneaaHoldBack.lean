/- FnExactBackNet returns true for every input and leaves its arguments as they were: no condition. -/
import Derived.Test.YtllhhbgmdhlneaaRowBack
import Derived.Test.YtllhhbgmdhlneaaFactsBack
namespace Go.Proofs.Ytllhhbgmdhlneaa

theorem holdsBackNet : Rows.FnExactBackNetSaid :=
  OpenClaim.holds_of_wide 10 Try.f10 rfl rfl rfl rfl rfl rfl rfl ⟨rfl, rfl, rfl, rfl, rfl⟩ rfl rfl rfl rfl rfl namedBackNet Try.func10 closedBackNet
    (of_decide_eq_true (by kernel_rfl)) wrapBackNet
    (fun os started H enc _ => fnExactBackNet_lifted os started H enc)
#print axioms holdsBackNet
end Go.Proofs.Ytllhhbgmdhlneaa
