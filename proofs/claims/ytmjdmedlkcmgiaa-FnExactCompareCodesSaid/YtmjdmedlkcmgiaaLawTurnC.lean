/- The walk of FnExactTurnCode. -/
import Derived.Test.YtmjdmedlkcmgiaaGen
import Derived.Test.YtmjdmedlkcmgiaaCodeT
import Derived.Test.YtmjdmedlkcmgiaaSSL
set_option linter.all false
namespace Go.Proofs.Ytmjdmedlkcmgiaa
open Go.RowKit

end Go.Proofs.Ytmjdmedlkcmgiaa
