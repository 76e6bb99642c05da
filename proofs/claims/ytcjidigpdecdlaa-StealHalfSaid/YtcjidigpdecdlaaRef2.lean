/- The contracts of the reference's memory, put together; its Peek and its making. -/
import Derived.Test.YtcjidigpdecdlaaRef
namespace Go.Proofs.Ytcjidigpdecdlaa
open Go Go.RowKit
set_option linter.unusedVariables false
set_option maxRecDepth 100000
set_option linter.unusedSimpArgs false

end Go.Proofs.Ytcjidigpdecdlaa
