/- The machines of notes: their making, and what follows. -/
import Derived.Test.YtlnjjcfkcoaceaaLock1
namespace Go.Proofs.Ytlnjjcfkcoaceaa
open Go Go.RowKit
set_option linter.unusedVariables false
set_option maxRecDepth 100000
set_option linter.unusedSimpArgs false

/-- A machine of a note. -/
def slpCells (who : Int) (nx : Option Addr) (nt : Int) : Array Value := #[.int .i64 who, .pointer nx, .int .i64 nt]
/-- A thread's note. -/
def noteAt (P T t : Int) : Int := wd (20 + P * 264) T 3 t 0

end Go.Proofs.Ytlnjjcfkcoaceaa
