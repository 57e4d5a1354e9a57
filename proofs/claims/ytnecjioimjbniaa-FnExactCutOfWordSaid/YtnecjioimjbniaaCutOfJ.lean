/- Contract of the model's CutOf. -/
import Derived.Test.YtnecjioimjbniaaCutOfI
namespace Go.Proofs.Ytnecjioimjbniaa
open Go.RowKit
end Go.Proofs.Ytnecjioimjbniaa
