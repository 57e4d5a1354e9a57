/- Contract of the model's CutOf. -/
import Derived.Test.YtilneimiedfjnaaCutOfI
set_option linter.all false
namespace Go.Proofs.Ytilneimiedfjnaa
open Go.RowKit
end Go.Proofs.Ytilneimiedfjnaa
