/- The law DiceNumbers, whatever its arguments. -/
import Derived.Test.YteibdjbipfimeaaOpen
namespace Go.Proofs.Yteibdjbipfimeaa
open Go Go.RowKit
theorem diceNumbers_walk (s : Int) (A : Option Addr) (n cap : Nat) (f : Nat → Int) (w : World) (hs : 0 ≤ s ∧ s ≤ 18446744073709551615) (hn : n ≤ 9223372036854775807) (hI : SeesI w w.heap.size A n f) (hf : ∀ i, i < n → -9223372036854775808 ≤ f i ∧ f i ≤ 9223372036854775807) :
    Calls Try.prog 3 #[.int .u64 s, .slice A n cap] w fun e w' => e = .returned (.bool true) ∧ Below w.heap.size w w' := by
  obtain ⟨k, rfl⟩ : ∃ k : Nat, s = (k : Int) := ⟨s.toNat, by omega⟩
  by_cases h : 100 < n
  · exact numbers_many k A n cap w hn h
  · exact numbers_few k (by omega) A n cap f w (by omega) hI (fun i hi => (hf i hi).2)
end Go.Proofs.Yteibdjbipfimeaa
