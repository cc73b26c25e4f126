import Derived.Test.YtnfbaapbpgbgpaaGreatBlQ
import Derived.Defers
import Derived.Laws.CopyOwn
namespace Go.Proofs.YtnfbaapbpgbgpaaGreat
open Go.ChangeShapes Go.WideShapes Go.ChangeAt Go.RowKit
set_option linter.unusedVariables false
set_option linter.unusedSimpArgs false
set_option maxRecDepth 100000
set_option maxHeartbeats 1000000
end Go.Proofs.YtnfbaapbpgbgpaaGreat
