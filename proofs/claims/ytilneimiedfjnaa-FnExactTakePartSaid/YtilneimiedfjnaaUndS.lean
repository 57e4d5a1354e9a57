/- The model's joBeside and joUnder. -/
import Derived.Test.YtilneimiedfjnaaBesS
set_option linter.all false
namespace Go.Proofs.Ytilneimiedfjnaa
open Go.RowKit

end Go.Proofs.Ytilneimiedfjnaa
