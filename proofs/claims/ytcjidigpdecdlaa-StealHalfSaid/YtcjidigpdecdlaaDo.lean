/- The contract of the laws' helper Do: an act done by both memories. -/
import Derived.Test.YtcjidigpdecdlaaTwo
namespace Go.Proofs.Ytcjidigpdecdlaa
open Go Go.RowKit
set_option linter.unusedVariables false
set_option maxRecDepth 100000
set_option linter.unusedSimpArgs false

end Go.Proofs.Ytcjidigpdecdlaa
