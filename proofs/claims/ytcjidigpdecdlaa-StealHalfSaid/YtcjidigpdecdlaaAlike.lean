/- The contract of the law's helper Alike. -/
import Derived.Test.YtcjidigpdecdlaaNew
namespace Go.Proofs.Ytcjidigpdecdlaa
open Go Go.RowKit
set_option linter.unusedVariables false
set_option maxRecDepth 100000
set_option linter.unusedSimpArgs false

end Go.Proofs.Ytcjidigpdecdlaa
