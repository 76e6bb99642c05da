/- The goroutine that a word names. -/
import Derived.Test.YthjfbknmdligeaaGreatPoke
namespace Go.Proofs.YthjfbknmdligeaaGreat
open Go Go.RowKit

/-- The goroutine that a word names. -/
def gw (v : Int) : Int := IntKind.i64.wrap (IntKind.u64.wrap (v - 1))
end Go.Proofs.YthjfbknmdligeaaGreat
