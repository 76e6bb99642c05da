/- The ways of the law LayoutOne, put together. -/
import Derived.Test.YtmkmpphfieckoaaOne2
import Derived.Test.YtmkmpphfieckoaaOne3
namespace Go.Proofs.Ytmkmpphfieckoaa
open Go Go.RowKit
theorem layoutOne_walk (P T G n f i : Int) (w : World) (bn : -9223372036854775808 ≤ n ∧ n ≤ 9223372036854775807) (bf : -9223372036854775808 ≤ f ∧ f ≤ 9223372036854775807) (hi : 0 ≤ i ∧ i ≤ 18446744073709551615) :
    Calls Try.prog 5 #[.agg #[.int .i64 P, .int .i64 T, .int .i64 G], .agg #[.int .i64 n, .int .i64 f], .int .u64 i] w fun e w' => e = .returned (.bool true) ∧ Below w.heap.size w w' := by
  by_cases h : May P T G
  · by_cases hn : n < 0
    · exact layoutOne_far_a P T G n f i w bn bf hi h hn
    · by_cases hx : f < 0 ∨ 70000 < f
      · by_cases hp : P ≤ n
        · exact layoutOne_far_b P T G n f i w bn bf hi h ⟨by omega, hp⟩ (by omega)
        · exact layoutOne_far_c P T G n f i w bn bf hi h ⟨by omega, by omega⟩ hx
      · by_cases hb : 70000 < n
        · have := h.h
          exact layoutOne_far_b P T G n f i w bn bf hi h ⟨by omega, by omega⟩ (by omega)
        · exact layoutOne_near P T G n f i w bn bf hi h (by omega) (by omega) (by omega)
  · exact layoutOne_bad P T G n f i w bn bf hi h
end Go.Proofs.Ytmkmpphfieckoaa
