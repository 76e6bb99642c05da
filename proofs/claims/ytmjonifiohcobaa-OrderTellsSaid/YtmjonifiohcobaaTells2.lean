/- The law OrderTells, as a call. -/
import Derived.Test.YtmjonifiohcobaaTells
namespace Go.Proofs.Ytmjonifiohcobaa
open Go Go.RowKit
theorem orderTells_walk (n v : Int) (w : World) (hv : 0 ≤ v ∧ v ≤ 18446744073709551615) : Calls Try.prog 7 #[.int .i64 n, .int .u64 v] w fun e w' => e = .returned (.bool true) ∧ Below w.heap.size w w' := by
  obtain ⟨V, rfl⟩ : ∃ m : Nat, v = (m : Int) := ⟨v.toNat, by omega⟩
  exact callsIn_wide.1 (orderTells_in n V w (by omega))
end Go.Proofs.Ytmjonifiohcobaa
