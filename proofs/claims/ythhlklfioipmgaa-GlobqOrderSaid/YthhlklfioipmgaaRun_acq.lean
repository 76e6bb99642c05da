/- Machines: how one is run. -/
import Derived.Test.YthhlklfioipmgaaRunD
import Derived.Stop.Asserts
namespace Go.Proofs.Ythhlklfioipmgaa
open Go Go.RowKit
set_option linter.unusedVariables false
set_option maxRecDepth 100000
set_option linter.unusedSimpArgs false

end Go.Proofs.Ythhlklfioipmgaa
