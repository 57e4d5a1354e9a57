/- What the walks of laws on cuts share. -/
import Derived.Test.YtgghkimjminbaaaGen
set_option linter.all false
namespace Go.Proofs.Ytgghkimjminbaaa
end Go.Proofs.Ytgghkimjminbaaa
