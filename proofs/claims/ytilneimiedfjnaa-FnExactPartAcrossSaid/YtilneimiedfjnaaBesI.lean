/- BesideCuts of the program. -/
import Derived.Test.YtilneimiedfjnaaBesG
set_option linter.all false
namespace Go.Proofs.Ytilneimiedfjnaa
open Go.RowKit

end Go.Proofs.Ytilneimiedfjnaa
