/- The ways of the law CellMakes, put together. -/
import Derived.Test.YtmjonifiohcobaaMkHi
import Derived.Test.YtmjonifiohcobaaMkOk
import Derived.Test.YtmjonifiohcobaaDoes2
namespace Go.Proofs.Ytmjonifiohcobaa
open Go Go.RowKit
theorem cellMakes_walk (N : Int) (E : Option Addr) (m cp : Nat) (f : Nat → Int) (k who i old new : Int) (w : World) (hm : m ≤ 9223372036854775807) (hs : SeesU w w.heap.size E m f) (hf : ∀ i, i < m → 0 ≤ f i ∧ f i ≤ 18446744073709551615) :
    Calls Try.prog 4 #[.int .i64 N, .slice E m cp, .agg #[.int .i64 k, .int .i64 who, .int .i64 i, .int .u64 old, .int .u64 new]] w fun e w' => e = .returned (.bool true) ∧ Below w.heap.size w w' := by
  by_cases h : (300 < N ∧ N ≤ 262144) ∨ (N ≤ 300 ∧ 100 < m) ∨ (300 < N ∧ 262144 < N ∧ 100 < m)
  · exact cellMakes_many E m cp N k who i old new w hm h
  · by_cases h1 : N < 0
    · exact cellMakes_lo E m cp N k who i old new f w (by omega) h1 hs hf
    · by_cases h2 : 262144 < N
      · exact cellMakes_hi E m cp N k who i old new f w (by omega) h2 hs hf
      · obtain ⟨n, rfl⟩ : ∃ n : Nat, N = (n : Int) := ⟨N.toNat, by omega⟩
        exact cellMakes_ok E m cp n k who i old new f w (by omega) (by omega) hs hf
end Go.Proofs.Ytmjonifiohcobaa
