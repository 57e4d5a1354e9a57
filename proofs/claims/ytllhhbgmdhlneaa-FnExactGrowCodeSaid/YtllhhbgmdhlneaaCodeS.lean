/- Contract of the model's CodeOf. -/
import Derived.Test.YtllhhbgmdhlneaaBk
import Derived.Test.YtllhhbgmdhlneaaCodeI
namespace Go.Proofs.Ytllhhbgmdhlneaa
open Go.RowKit

end Go.Proofs.Ytllhhbgmdhlneaa
