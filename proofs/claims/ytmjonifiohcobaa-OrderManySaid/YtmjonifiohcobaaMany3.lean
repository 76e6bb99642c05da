/- The ways of the law OrderMany, put together. -/
import Derived.Test.YtmjonifiohcobaaMany2
namespace Go.Proofs.Ytmjonifiohcobaa
open Go Go.RowKit
theorem orderMany_walk (n v u : Int) (w : World) (hv : 0 ≤ v ∧ v ≤ 18446744073709551615) (hu : 0 ≤ u ∧ u ≤ 18446744073709551615) : Calls Try.prog 9 #[.int .i64 n, .int .u64 v, .int .u64 u] w fun e w' => e = .returned (.bool true) ∧ Below w.heap.size w w' := by
  by_cases h : ¬ (1 ≤ n ∧ n ≤ 64) ∨ n < 3
  · exact orderMany_none n v u w h
  · obtain ⟨m, rfl⟩ : ∃ m : Nat, n = (m : Int) := ⟨n.toNat, by omega⟩
    obtain ⟨V, rfl⟩ : ∃ m : Nat, v = (m : Int) := ⟨v.toNat, by omega⟩
    obtain ⟨U, rfl⟩ : ∃ m : Nat, u = (m : Int) := ⟨u.toNat, by omega⟩
    exact orderMany_ok m V U w (by omega) (by omega) (by omega) (by omega)
end Go.Proofs.Ytmjonifiohcobaa
