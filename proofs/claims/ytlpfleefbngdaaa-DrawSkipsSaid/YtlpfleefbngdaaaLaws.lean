/- The ways of the laws of package draw, put together. -/
import Derived.Test.YtlpfleefbngdaaaTells
import Derived.Test.YtlpfleefbngdaaaSkips
import Derived.Test.YtlpfleefbngdaaaKeeps
import Derived.Test.YtlpfleefbngdaaaOpen
namespace Go.Proofs.Ytlpfleefbngdaaa
open Go Go.RowKit
theorem cells35 : Try.prog.cellsOf 35 = 1 := by kernel_rfl
theorem cells32 : Try.prog.cellsOf 32 = 2 := by kernel_rfl
theorem cells3 : Try.prog.cellsOf 3 = 1 := by kernel_rfl
theorem drawSkips_walk (A : Option Addr) (n cap : Nat) (N : Int) (f : Nat → Int) (w : World) (hn : n ≤ 9223372036854775807) (hnil : A = none → n = 0 ∧ cap = 0) (hs : SeesU w w.heap.size A n f) :
    Calls Try.prog 5 #[.slice A n cap, .int .i64 N] w fun e w' => e = .returned (.bool true) ∧ Below w.heap.size w w' := by
  by_cases h : 100 < n
  · exact drawSkips_many A n cap N w hn h
  · by_cases hN : N < 0 ∨ (0 ≤ N ∧ (n : Int) < N)
    · exact drawSkips_out A n cap N f w (by omega) hnil hs hN
    · obtain ⟨j, rfl⟩ : ∃ j : Nat, N = (j : Int) := ⟨N.toNat, by omega⟩
      exact drawSkips_in A n cap j f w (by omega) hnil hs (by omega)
theorem drawKeeps_walk (A : Option Addr) (n cap : Nat) (N : Int) (f : Nat → Int) (w : World) (hn : n ≤ 9223372036854775807) (hN : N ≤ 9223372036854775807) (hs : SeesU w w.heap.size A n f) :
    Calls Try.prog 4 #[.slice A n cap, .int .i64 N] w fun e w' => e = .returned (.bool true) ∧ Below w.heap.size w w' := by
  by_cases h : 100 < n
  · exact drawKeeps_many A n cap N w hn h
  · exact drawKeeps_few A n cap N f w (by omega) hN hs
theorem drawTells_walk (A E : Option Addr) (n cap m cp : Nat) (f p q : Nat → Int) (w : World) (hn : n ≤ 9223372036854775807) (hm : m ≤ 9223372036854775807) (hnil : A = none → n = 0 ∧ cap = 0) (hs : SeesU w w.heap.size A n f)
    (hf : ∀ i, i < n → 0 ≤ f i ∧ f i ≤ 18446744073709551615) (hl : SeesE w w.heap.size E m p q) (hq : ∀ i, i < m → q i ≤ 9223372036854775807) :
    Calls Try.prog 3 #[.slice A n cap, .slice E m cp] w fun e w' => e = .returned (.bool true) ∧ Below w.heap.size w w' := by
  by_cases h : 100 < n ∨ (n ≤ 100 ∧ 100 < m)
  · exact drawTells_many A E n cap m cp w hn hm h
  · exact drawTells_few A E n cap m cp f p q w (by omega) (by omega) hnil hs hf hl hq
end Go.Proofs.Ytlpfleefbngdaaa
