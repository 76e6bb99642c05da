/- The ways of the law CellSwaps, put together. -/
import Derived.Test.YtmjonifiohcobaaSwaps
import Derived.Test.YtmjonifiohcobaaDoes2
namespace Go.Proofs.Ytmjonifiohcobaa
open Go Go.RowKit
theorem cellSwaps_walk (A E : Option Addr) (n cap m cp : Nat) (at' : Int) (f g : Nat → Int) (w : World) (hn : n ≤ 9223372036854775807) (hm : m ≤ 9223372036854775807) (hnil : A = none → n = 0 ∧ cap = 0) (hs : SeesU w w.heap.size A n f)
    (hf : ∀ i, i < n → 0 ≤ f i ∧ f i ≤ 18446744073709551615) (hl : SeesU w w.heap.size E m g) (hg : ∀ i, i < m → 0 ≤ g i ∧ g i ≤ 18446744073709551615) :
    Calls Try.prog 5 #[.slice A n cap, .int .i64 at', .slice E m cp] w fun e w' => e = .returned (.bool true) ∧ Below w.heap.size w w' := by
  by_cases h : 100 < n ∨ (n ≤ 100 ∧ 100 < m) ∨ (n ≤ 100 ∧ m ≤ 100 ∧ at' < 0) ∨ (n ≤ 100 ∧ m ≤ 100 ∧ 0 ≤ at' ∧ (n : Int) ≤ at')
  · exact cellSwaps_none A E n cap m cp at' w hn hm h
  · obtain ⟨i, rfl⟩ : ∃ i : Nat, at' = (i : Int) := ⟨at'.toNat, by omega⟩
    exact cellSwaps_few A E n cap m cp i f g w (by omega) (by omega) (by omega) hnil hs hf hl hg
end Go.Proofs.Ytmjonifiohcobaa
