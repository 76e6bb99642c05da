/- The walk of the law LockNone. -/
import Derived.Test.YtjbkhnolnlcjnaaLock4
namespace Go.Proofs.Ytjbkhnolnlcjnaa
open Go Go.RowKit
set_option linter.unusedVariables false
set_option maxRecDepth 100000
set_option linter.unusedSimpArgs false

theorem lockNone_walk (N : Int) (w : World) (hN : -9223372036854775808 ≤ N ∧ N ≤ 9223372036854775807) : Calls Try.prog 9 #[.int .i64 N] w fun e w' => e = .returned (.bool true) ∧ Below w.heap.size w w' := by
  have hS := fun w => acq_step_nil w (.pointer none)
  have hR := fun w => rel_step_nil w (.pointer none)
  go_enter Try.func9, Try.ntmps9
  go_wp2_with fail
  go_loopw [5] (fun i wr => ∃ k : Nat, k ≤ 9 ∧ i = .int .i64 k ∧ wr = w) (fun i _ => 9 - (intOf i).toNat)
  case atStart => exact ⟨0, Nat.zero_le _, rfl, rfl⟩
  case round =>
    obtain ⟨k, hk, rfl, rfl⟩ := hrel
    by_cases h : (k : Int) < N ∧ k < 9
    · obtain ⟨h1, h2⟩ := h
      have h3 : (k : Int) < 9 := by omega
      go_wp2_with fail
      go_at_call 38; refine (hS wr).mono ?_; rintro e w1 ⟨rfl, rfl⟩
      go_wp2_with fail
      go_at_call 42; refine (hR wr).mono ?_; rintro e w1 ⟨rfl, rfl⟩
      go_wp2_with fail
      go_roundw
      case rel => exact ⟨k + 1, by omega, by go_num, trivial⟩
      case measure => simp [intOf]; omega
    · by_cases h1 : (k : Int) < N
      · have h2 : decide ((k : Int) < 9) = false := decide_eq_false (by omega)
        go_wp2_with fail
        go_at_call 36; refine (turn_nil wr).mono ?_; rintro e w1 ⟨rfl, rfl⟩
        go_wp2_with fail
        go_at_call 33; refine (lock_awake _).mono ?_; rintro e w1 ⟨rfl, hb⟩
        go_wp2_with fail
        go_at_call 37; refine (acq_done_nil w1).mono ?_; rintro e w1 ⟨rfl, rfl⟩
        go_wp2_with fail
        go_at_call 41; refine (rel_done_nil w1).mono ?_; rintro e w1 ⟨rfl, rfl⟩
        go_wp2_with fail
        go_ret
        exact ⟨rfl, hb⟩
      · have h2 : decide ((k : Int) < N) = false := decide_eq_false h1
        clear h
        go_wp2_with fail
        go_at_call 36; refine (turn_nil wr).mono ?_; rintro e w1 ⟨rfl, rfl⟩
        go_wp2_with fail
        go_at_call 33; refine (lock_awake _).mono ?_; rintro e w1 ⟨rfl, hb⟩
        go_wp2_with fail
        go_at_call 37; refine (acq_done_nil w1).mono ?_; rintro e w1 ⟨rfl, rfl⟩
        go_wp2_with fail
        go_at_call 41; refine (rel_done_nil w1).mono ?_; rintro e w1 ⟨rfl, rfl⟩
        go_wp2_with fail
        go_ret
        exact ⟨rfl, hb⟩
end Go.Proofs.Ytjbkhnolnlcjnaa
