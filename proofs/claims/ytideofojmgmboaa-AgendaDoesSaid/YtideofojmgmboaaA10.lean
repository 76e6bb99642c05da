/- Two items change their places: whichever. -/
import Derived.Test.YtideofojmgmboaaA7
import Derived.Test.YtideofojmgmboaaA9
namespace Go.Proofs.Ytideofojmgmboaa
open Go Go.RowKit
theorem swap_c : SwapC := by
  rintro w a lb mb cap clk L i j ⟨cur, M, h⟩ hi hj
  by_cases hij : i = j
  · subst hij
    refine (swap_eq h i hi).mono ?_
    rintro e w' ⟨h1, h2, h3⟩
    exact ⟨h1, h2, h3⟩
  · refine (swap_ne h i j hi hj hij).mono ?_
    rintro e w' ⟨h1, h2, h3⟩
    exact ⟨h1, h2, h3⟩
end Go.Proofs.Ytideofojmgmboaa
