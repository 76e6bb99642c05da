/- The law WordAll, its two ways put together. -/
import Derived.Test.YtlpfleefbngdaaaDoorAllLaw
namespace Go.Proofs.YtlpfleefbngdaaaDoor
open Go Go.RowKit
theorem cells22 : Tryd.prog.cellsOf 22 = 1 := by kernel_rfl
theorem wordAll_walk (A E : Option Addr) (n cap m cp : Nat) (f p q : Nat → Int) (t : Int) (w : World) (hT : Tab w) (hn : n ≤ 9223372036854775807) (hm : m ≤ 9223372036854775807)
    (hs : SeesU w w.heap.size A n f) (hf : ∀ i, i < n → 0 ≤ f i ∧ f i ≤ 18446744073709551615) (hl : SeesE w w.heap.size E m p q) :
    Calls Tryd.prog 6 #[.slice A n cap, .int .i64 t, .slice E m cp] w fun e w' => e = .returned (.bool true) ∧ Below w.heap.size w w' := by
  by_cases h : 100 < n ∨ (n ≤ 100 ∧ 100 < m)
  · exact wordAll_many A E n cap m cp t w hT hn hm h
  · exact wordAll_few A E n cap m cp f p q t w hT (by omega) (by omega) hs hf hl
end Go.Proofs.YtlpfleefbngdaaaDoor
