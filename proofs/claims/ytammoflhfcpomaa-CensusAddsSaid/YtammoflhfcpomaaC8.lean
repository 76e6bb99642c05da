/- No census of a config that may not be; Total; Live. -/
import Derived.Test.YtammoflhfcpomaaC6
namespace Go.Proofs.Ytammoflhfcpomaa
open Go Go.RowKit
set_option linter.unusedVariables false
set_option linter.unusedSimpArgs false
set_option maxRecDepth 100000

/-- A census in cells. -/
def cen16 (K : Nat → Int) (A1 : Option Addr) (n1 c1 : Nat) (A2 : Option Addr) (n2 c2 : Nat) (most now : Int) : Array Value :=
  #[.int .i64 (K 0), .int .i64 (K 1), .int .i64 (K 2), .int .i64 (K 3), .int .i64 (K 4), .int .i64 (K 5), .int .i64 (K 6), .int .i64 (K 7), .int .i64 (K 8), .int .i64 (K 9), .int .i64 (K 10), .int .i64 (K 11), .slice A1 n1 c1, .slice A2 n2 c2, .int .i64 most, .int .i64 now]
def sumK (K : Nat → Int) : Nat → Int
  | 0 => 0
  | n + 1 => sumK K n + K n
theorem sumK_bd (K : Nat → Int) (hK : ∀ k, 0 ≤ K k ∧ K k ≤ 1000) : ∀ n : Nat, 0 ≤ sumK K n ∧ sumK K n ≤ 1000 * n
  | 0 => ⟨by simp [sumK], by simp [sumK]⟩
  | n + 1 => by have := sumK_bd K hK n; have := hK n; unfold sumK; omega
theorem live_any (w : World) (K : Nat → Int) (A1 : Option Addr) (n1 c1 : Nat) (A2 : Option Addr) (n2 c2 : Nat) (most now : Int) (hK : ∀ k, 0 ≤ K k ∧ K k ≤ 1000) :
    Calls Try.prog 10 #[.agg (cen16 K A1 n1 c1 A2 n2 c2 most now)] w fun e w' => e = .returned (.int .i64 (1 + K 2 - K 11)) ∧ Below w.heap.size w w' := by
  have h2 := hK 2
  have h11 := hK 11
  unfold cen16
  clear hK
  have HB := Lib.hid (fun o => (Below.refl w.heap.size w).alloc (Nat.le_refl _) o)
  go_enter Try.func10, Try.ntmps10
  go_wp2_with fail
  go_ret
  exact ⟨rfl, HB.out _⟩
set_option maxHeartbeats 2000000 in
theorem idx26 (K : Nat → Int) (j : Nat) (hj : j < 12) (w : World) : (Instr.index 26 (.agg #[.int .i64 (K 0), .int .i64 (K 1), .int .i64 (K 2), .int .i64 (K 3), .int .i64 (K 4), .int .i64 (K 5), .int .i64 (K 6), .int .i64 (K 7), .int .i64 (K 8), .int .i64 (K 9), .int .i64 (K 10), .int .i64 (K 11)]) (.int .i64 (j : Int))).run Try.prog w = .ok (.int .i64 (K j)) w := by
  match j, hj with
  | 0, _ | 1, _ | 2, _ | 3, _ | 4, _ | 5, _ | 6, _ | 7, _ | 8, _ | 9, _ | 10, _ | 11, _ => first | rfl | kernel_rfl | go_simp
  | n + 12, h => omega
theorem total_any (w : World) (K : Nat → Int) (A1 : Option Addr) (n1 c1 : Nat) (A2 : Option Addr) (n2 c2 : Nat) (most now : Int) (hK : ∀ k, 0 ≤ K k ∧ K k ≤ 1000) :
    Calls Try.prog 7 #[.agg (cen16 K A1 n1 c1 A2 n2 c2 most now)] w fun e w' => e = .returned (.int .i64 (sumK K 12)) ∧ Below w.heap.size w w' := by
  have HK := Lib.hid hK
  have HS := Lib.hid (sumK_bd K hK)
  unfold cen16
  clear hK
  have HB := Lib.hid (fun o => (Below.refl w.heap.size w).alloc (Nat.le_refl _) o)
  go_enter Try.func7, Try.ntmps7
  go_wp2_with fail
  go_loop [3, 8] (fun s i => ∃ j : Nat, j ≤ 12 ∧ i = .int .i64 j ∧ s = .int .i64 (sumK K j)) (fun _ i => 12 - (intOf i).toNat)
  case atStart => exact ⟨0, Nat.zero_le _, rfl, rfl⟩
  case round =>
    obtain ⟨j, hj, rfl, rfl⟩ := hrel
    have hs := HS.out j
    have hk := HK.out j
    by_cases hlt : j < 12
    · have HU := Lib.hid (show sumK K j + K j = sumK K (j + 1) from rfl)
      have hix := idx26 K j hlt
      generalize sumK K j = s at *
      go_wp2_with fail
      go_round
      case rel => exact ⟨j + 1, by omega, by go_num, by rw [← HU.out]⟩
      case measure => simp [intOf]; omega
    · obtain rfl : j = 12 := by omega
      go_wp2_with fail
      go_ret
      exact ⟨rfl, HB.out _⟩
theorem of_bad (w : World) (p T gs : Int) (n cap : Nat) (A : Option Addr) (hb : p < 1 ∨ 64 < p ∨ gs < 1 ∨ 65536 < gs) :
    Calls Try.prog 6 #[.agg #[.int .i64 p, .int .i64 T, .int .i64 gs], .slice A n cap] w fun e w' => e = .returned (.tuple #[.agg zero16, .int .i64 1]) ∧ Below w.heap.size w w' := by
  have HB := Lib.hid (fun o1 o2 => ((Below.refl w.heap.size w).alloc (Nat.le_refl _) o1).alloc (by simp) o2)
  rcases (show p < 1 ∨ (1 ≤ p ∧ 64 < p) ∨ (1 ≤ p ∧ p ≤ 64 ∧ gs < 1) ∨ (1 ≤ p ∧ p ≤ 64 ∧ 1 ≤ gs ∧ 65536 < gs) by omega) with h | h | h | h
  all_goals
    go_enter Try.func6, Try.ntmps6
    go_wp2_with fail
    exact bodyPost_ret (v := .tuple #[.agg zero16, .int .i64 1]) (res_pair rfl _ _ (w.heap.size + 1) _ _ rfl rfl (run_loadVar_row _ (w.heap.size + 1) 30 30 zero16 (0, 0) _ (heap_alloc2_new w _ _) Try.underlying30 rfl info30)) rfl ⟨rfl, HB.out _ _⟩
end Go.Proofs.Ytammoflhfcpomaa
