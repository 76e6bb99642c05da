/- The contracts of cell.New, of the law's helper Alike, and the page's example. -/
import Derived.Test.YthjfbknmdligeaaGreatDo
namespace Go.Proofs.YthjfbknmdligeaaGreat
open Go Go.RowKit
set_option linter.unusedVariables false
set_option maxRecDepth 100000
set_option linter.unusedSimpArgs false

theorem made_zero (n : Nat) : (madeCells #[Value.int .u64 0] n).toList = wordCells (fun _ => 0) n := by
  unfold madeCells wordCells
  rw [Array.toList_map, Array.toList_range]
  apply List.map_congr_left
  intro a _
  have : a % #[Value.int .u64 0].size = 0 := Nat.mod_one a
  rw [this]
  rfl

end Go.Proofs.YthjfbknmdligeaaGreat
