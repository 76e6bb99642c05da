/- Strides and orders, and the contracts of package order's plain functions. -/
import Derived.Test.YtmjonifiohcobaaMem
namespace Go.Proofs.Ytmjonifiohcobaa
open Go Go.RowKit
set_option linter.unusedVariables false
set_option linter.unusedSimpArgs false

/-- A stride of n things. -/
def isS (n s : Nat) : Bool := Nat.gcd s n == 1
/-- The strides of n things among the first k numbers. -/
def sU (n : Nat) : Nat → List Nat
  | 0 => []
  | k + 1 => if isS n (k + 1) = true then sU n k ++ [k + 1] else sU n k
theorem sU_len (n : Nat) : ∀ k, (sU n k).length ≤ k
  | 0 => Nat.le_refl _
  | k + 1 => by
    have := sU_len n k
    unfold sU
    split
    · simp; omega
    · omega
theorem sU_pos (n : Nat) : ∀ k, 0 < (sU n (k + 1)).length
  | 0 => by simp [sU, isS]
  | k + 1 => by
    have := sU_pos n k
    rw [sU]
    split
    · simp
    · exact this
theorem sU_mem (n : Nat) : ∀ k s, s ∈ sU n k → 1 ≤ s ∧ s ≤ k ∧ Nat.gcd s n = 1
  | 0, s, h => by simp [sU] at h
  | k + 1, s, h => by
    rw [sU] at h
    split at h
    · rename_i hs
      rcases List.mem_append.1 h with h | h
      · have := sU_mem n k s h; omega
      · simp at h; subst h; exact ⟨by omega, Nat.le_refl _, by simpa [isS] using hs⟩
    · have := sU_mem n k s h; omega
/-- The strides as cells. -/
def cellsN (l : List Nat) : List Value := l.map fun s : Nat => .int .i64 (s : Int)
theorem cellsN_one (l : List Nat) : ∀ u ∈ cellsN l, u.oneCell' = true := by
  intro u hu
  simp [cellsN] at hu
  obtain ⟨i, _, rfl⟩ := hu
  rfl

theorem may_any (n : Int) (w : World) : Calls Try.prog 47 #[.int .i64 n] w fun e w' => e = .returned (.bool (decide (1 ≤ n ∧ n ≤ 64))) ∧ w = w' := by
  by_cases h : 1 ≤ n
  · go_enter Try.func47, Try.ntmps47
    go_wp2_with fail
    go_ret
    exact ⟨ret_bool (by simp [h]), rfl⟩
  · go_enter Try.func47, Try.ntmps47
    go_wp2_with fail
    go_ret
    exact ⟨ret_bool (by simp; omega), rfl⟩
theorem known_any (n : Int) (w : World) : Calls Try.prog 29 #[.int .i64 n] w fun e w' => e = .returned (.bool (decide (1 ≤ n ∧ n ≤ 64))) ∧ w = w' := by
  by_cases h : 1 ≤ n
  · go_enter Try.func29, Try.ntmps29
    go_wp2_with fail
    go_ret
    exact ⟨ret_bool (by simp [h]), rfl⟩
  · go_enter Try.func29, Try.ntmps29
    go_wp2_with fail
    go_ret
    exact ⟨ret_bool (by simp; omega), rfl⟩

theorem drewN_add (w : World) (m k : Nat) : (w.drewN m).drewN k = w.drewN (m + k) := by simp [World.drewN, Nat.add_assoc]
theorem divisor_any (a b : Nat) (ha : a ≤ 1000) (hb : b ≤ 1000) (w : World) : Calls Try.prog 48 #[.int .i64 a, .int .i64 b] w fun e w' => e = .returned (.int .i64 ((Nat.gcd a b : Nat) : Int)) ∧ ∃ m, w' = w.drewN m := by
  go_enter Try.func48, Try.ntmps48
  go_wp2_with fail
  go_loopw [0, 1] (fun x y wr => ∃ p q m : Nat, x = .int .i64 p ∧ y = .int .i64 q ∧ Nat.gcd p q = Nat.gcd a b ∧ p ≤ 1000 ∧ q ≤ 1000 ∧ wr = w.drewN m) (fun _ y _ => (intOf y).toNat)
  case atStart => exact ⟨a, b, 0, rfl, rfl, rfl, ha, hb, rfl⟩
  case round =>
    obtain ⟨p, q, m, rfl, rfl, hg, hp, hq, rfl⟩ := hrel
    by_cases hz : q = 0
    · subst hz
      have hp' : p = Nat.gcd a b := by rw [← hg]; simp
      go_wp2_with fail
      go_ret
      exact ⟨ret_int (by rw [hp']), m, rfl⟩
    · have hzz : (q == 0) = false := by simpa using hz
      have hqi : ¬ (q : Int) = 0 := by omega
      have hm : (p : Int).tmod (q : Int) = ((p % q : Nat) : Int) := by
        rw [Int.tmod_eq_emod_of_nonneg (by omega)]; simp
      have hlt : p % q < q := Nat.mod_lt _ (by omega)
      have hgg : Nat.gcd q (p % q) = Nat.gcd a b := by rw [← hg, Nat.gcd_comm q, ← Nat.gcd_rec, Nat.gcd_comm]
      generalize p % q = r at hm hlt hgg
      go_wp2_with fail
      go_quiet (fail)
      go_wp2_with fail
      go_roundw
      case rel => exact ⟨q, r, m + nq, rfl, by go_num, hgg, hq, by omega, drewN_add _ _ _⟩
      case measure => simp [intOf]; omega
end Go.Proofs.Ytmjonifiohcobaa
