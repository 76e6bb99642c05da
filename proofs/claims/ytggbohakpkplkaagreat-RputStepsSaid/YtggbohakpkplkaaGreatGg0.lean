/- The goroutine that a word names. -/
import Derived.Test.YtggbohakpkplkaaGreatPoke
namespace Go.Proofs.YtggbohakpkplkaaGreat
open Go Go.RowKit

/-- The goroutine that a word names. -/
def gw (v : Int) : Int := IntKind.i64.wrap (IntKind.u64.wrap (v - 1))
end Go.Proofs.YtggbohakpkplkaaGreat
