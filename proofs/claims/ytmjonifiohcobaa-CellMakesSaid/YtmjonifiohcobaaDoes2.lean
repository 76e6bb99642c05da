/- The ways of the law CellDoes, put together. -/
import Derived.Test.YtmjonifiohcobaaOpen
namespace Go.Proofs.Ytmjonifiohcobaa
open Go Go.RowKit
theorem cells32 : Try.prog.cellsOf 32 = 1 := by kernel_rfl
theorem cells34 : Try.prog.cellsOf 34 = 5 := by kernel_rfl
theorem cells3 : Try.prog.cellsOf 3 = 1 := by kernel_rfl
theorem cellDoes_walk (A E : Option Addr) (n cap m cp : Nat) (f k p i o v : Nat → Int) (w : World) (hn : n ≤ 9223372036854775807) (hm : m ≤ 9223372036854775807) (hnil : A = none → n = 0 ∧ cap = 0) (hs : SeesU w w.heap.size A n f)
    (hf : ∀ i, i < n → 0 ≤ f i ∧ f i ≤ 18446744073709551615) (hl : SeesA w w.heap.size E m k p i o v) (hv : ∀ i, i < m → 0 ≤ v i ∧ v i ≤ 18446744073709551615) :
    Calls Try.prog 3 #[.slice A n cap, .slice E m cp] w fun e w' => e = .returned (.bool true) ∧ Below w.heap.size w w' := by
  by_cases h : 100 < n ∨ (n ≤ 100 ∧ 100 < m)
  · exact cellDoes_many A E n cap m cp w hn hm h
  · exact cellDoes_few A E n cap m cp f k p i o v w (by omega) (by omega) hnil hs hf hl hv
end Go.Proofs.Ytmjonifiohcobaa
