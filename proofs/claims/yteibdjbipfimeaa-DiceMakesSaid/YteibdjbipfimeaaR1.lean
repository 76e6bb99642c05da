/- slices.Repeat of one entry. -/
import Derived.Test.YteibdjbipfimeaaR0
namespace Go.Proofs.Yteibdjbipfimeaa
open Go Go.RowKit
set_option linter.unusedVariables false
set_option linter.unusedSimpArgs false
set_option maxRecDepth 100000

theorem and_small (c : Nat) (h : c ≤ 16) : bits BinOp.and IntKind.u64 (c : Int) 4294967295 = (c : Int) := by
  have : ∀ k : Fin 17, bits BinOp.and IntKind.u64 ((k.val : Nat) : Int) 4294967295 = ((k.val : Nat) : Int) := by decide +kernel
  exact this ⟨c, by omega⟩
theorem mul64_one (c : Nat) (h : c ≤ 16) (w : World) :
    Calls Try.prog 30 #[.int .u64 1, .int .u64 (c : Int)] w fun e w' => e = .returned (.tuple #[.int .u64 0, .int .u64 (c : Int)]) ∧ w = w' := by
  have a1 := and_small c h
  have a2 : bits BinOp.and IntKind.u64 1 4294967295 = 1 := by decide +kernel
  have a3 : (c : Int) / 4294967296 = 0 := by omega
  have a4 : bits BinOp.and IntKind.u64 0 4294967295 = 0 := by decide +kernel
  go_enter Try.func30, Try.ntmps30
  go_wp2_with fail
  go_ret2
  exact ⟨rfl, rfl⟩
theorem mul_one (c : Nat) (h : c ≤ 16) (w : World) :
    Calls Try.prog 28 #[.int .u64 1, .int .u64 (c : Int)] w fun e w' => e = .returned (.tuple #[.int .u64 0, .int .u64 (c : Int)]) ∧ w = w' := by
  go_enter Try.func28, Try.ntmps28
  go_wp2_with fail
  go_at_call 30; refine (mul64_one c h _).mono ?_; rintro e w1 ⟨rfl, rfl⟩
  go_wp2_with fail
  go_ret2
  exact ⟨rfl, rfl⟩
end Go.Proofs.Yteibdjbipfimeaa
