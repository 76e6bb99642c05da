/- The walk of the law IdlepBits. -/
import Derived.Test.YtggbohakpkplkaaIpAw
import Derived.Test.YtggbohakpkplkaaRefIb
namespace Go.Proofs.Ytggbohakpkplkaa
open Go Go.RowKit
set_option linter.unusedVariables false
set_option maxRecDepth 100000
set_option linter.unusedSimpArgs false

theorem ip_masked (v p : Int) (w : World) (hv : 0 ≤ v ∧ v ≤ 18446744073709551615) : Calls Try.prog 32 #[.int .u64 v, .int .i64 p] w fun e w' => e = .returned (.bool (mskB v p)) ∧ w = w' := by
  have hB := ip_bit w p
  have hA := and_bit v p hv
  rw [← hA]
  generalize bitOf p = b at *
  clear hA hv
  go_enter Try.func32, Try.ntmps32
  go_wp2_with fail
  go_at_call 30; refine hB.mono ?_; rintro e w1 ⟨rfl, rfl⟩
  go_wp2_with fail
  go_ret
  first
    | exact ⟨rfl, rfl⟩
    | (generalize bits .and .u64 v b = z
       refine ⟨?_, rfl⟩
       by_cases hz : z = 0
       · simp [hz]
       · simp [hz])
theorem idlepBits_walk (v p : Int) (w : World) (hAw : ∀ w, Calls Try.prog 11 #[] w fun e w' => e = .returned (.bool true) ∧ Below w.heap.size w w') (hv : 0 ≤ v ∧ v ≤ 18446744073709551615) :
    Calls Try.prog 5 #[.int .u64 v, .int .i64 p] w fun e w' => e = .returned (.bool true) ∧ Below w.heap.size w w' := by
  have hA := hAw w
  have hB := fun Y => ip_bit Y p
  have hR := fun Y => rbit_any p Y
  have hM := fun Y => ip_masked v p Y hv
  have hN := fun Y => rmasked_any v p Y hv
  generalize mskB v p = z at *
  generalize bitOf p = b at *
  clear hAw hv
  go_enter Try.func5, Try.ntmps5
  go_wp2_with fail
  go_at_call 11; refine hA.mono ?_; rintro e w1 ⟨rfl, h1⟩
  have HB : Hid (Below w.heap.size w w1) := h1
  clear hA h1
  go_wp2_with fail
  go_at_call 30; refine (hB _).mono ?_; rintro e w2 ⟨rfl, rfl⟩
  go_wp2_with fail
  go_at_call 31; refine (hR _).mono ?_; rintro e w2 ⟨rfl, rfl⟩
  go_wp2_with fail
  go_at_call 32; refine (hM _).mono ?_; rintro e w2 ⟨rfl, rfl⟩
  go_wp2_with fail
  go_at_call 33; refine (hN _).mono ?_; rintro e w2 ⟨rfl, rfl⟩
  go_wp2_with fail
  go_ret
  exact ⟨rfl, HB.out⟩
end Go.Proofs.Ytggbohakpkplkaa
