/- A word's code, its parts, its instruction: of package code and of the document's answer. -/
import Derived.Test.YtlnjjcfkcoaceaaKBase
namespace Go.Proofs.Ytlnjjcfkcoaceaa
open Go Go.RowKit
set_option linter.unusedVariables false
set_option maxRecDepth 100000
set_option linter.unusedSimpArgs false

theorem pow_pos2 (n : Nat) : (0 : Int) < 2 ^ n := Int.pow_pos (by decide)
theorem mask_eq (y : Int) (n : Int) (hy0 : 0 ≤ y) (hy : y ≤ 18446744073709551615) (h0 : 0 ≤ n) (h : n ≤ 64) :
    bits .and .u64 y (IntKind.u64.wrap (IntKind.u64.wrap (2 ^ n.toNat) - 1)) = y % 2 ^ n.toNat := by
  obtain ⟨k, rfl⟩ : ∃ k : Nat, n = (k : Int) := ⟨n.toNat, by omega⟩
  obtain ⟨z, rfl⟩ : ∃ z : Nat, y = (z : Int) := ⟨y.toNat, by omega⟩
  simp only [Int.toNat_natCast]
  have hk : k ≤ 64 := by omega
  have hz : z < 18446744073709551616 := by omega
  have hp : (0 : Nat) < 2 ^ k := Nat.pow_pos (by decide)
  have hb : (((2 : Nat) ^ k : Nat) : Int) = (2 : Int) ^ k := by simp
  have hm : IntKind.u64.wrap (IntKind.u64.wrap ((2 : Int) ^ k) - 1) = ((2 ^ k - 1 : Nat) : Int) := by
    rw [← hb]
    by_cases e : k = 64
    · subst e; decide
    · have h1 : (2 : Nat) ^ k ≤ 2 ^ 63 := Nat.pow_le_pow_right (by decide) (by omega)
      have h2 : (2 : Nat) ^ 63 = 9223372036854775808 := by decide
      generalize 2 ^ k = c at hp h1
      rw [IntWalk.u64_in (c : Int) (by omega), IntWalk.u64_in _ (by omega)]
      omega
  have hl : (2 : Nat) ^ k - 1 < 18446744073709551616 := by
    have h1 : (2 : Nat) ^ k ≤ 2 ^ 64 := Nat.pow_le_pow_right (by decide) hk
    have h2 : (2 : Nat) ^ 64 = 18446744073709551616 := by decide
    omega
  rw [hm, bits_and_u64_nat z (2 ^ k - 1) hz hl, Nat.and_two_pow_sub_one_eq_mod, ← hb]
  simp
theorem div_bd (x : Int) (k : Nat) (h0 : 0 ≤ x) : 0 ≤ x / 2 ^ k ∧ x / 2 ^ k ≤ x := by
  have hp := pow_pos2 k
  refine ⟨Int.ediv_nonneg h0 (Int.le_of_lt hp), ?_⟩
  exact Int.ediv_le_self _ h0

theorem bits_near (x f n : Int) (w : World) (x0 : 0 ≤ x) (x1 : x ≤ 18446744073709551615) (h0 : 0 ≤ f) (h1 : f ≤ 63) (h2 : 0 ≤ n) (h3 : n ≤ 64) :
    Calls Try.prog 161 #[.int .u64 x, .int .i64 f, .int .i64 n] w fun e w' => e = .returned (.int .u64 (x / 2 ^ f.toNat % 2 ^ n.toNat)) ∧ ∃ k, w' = w.drewN k := by
  have hb := div_bd x f.toNat x0
  have hm := mask_eq (x / 2 ^ f.toNat) n hb.1 (by omega) h2 h3
  have H : Hid (bits .and .u64 (x / 2 ^ f.toNat) (IntKind.u64.wrap (IntKind.u64.wrap (2 ^ n.toNat) - 1)) = (x / 2 ^ f.toNat) % 2 ^ n.toNat) := hm
  clear hm hb
  go_enter Try.func161, Try.ntmps161
  go_wp2
  go_quiet (fail)
  go_wp2
  go_ret
  exact ⟨ret_int H.out, nq, rfl⟩
theorem low3 (x : Int) (w : World) (x0 : 0 ≤ x ∧ x ≤ 18446744073709551615) : Calls Try.prog 161 #[.int .u64 x, .int .i64 0, .int .i64 3] w fun e w' => e = .returned (.int .u64 (x % 8)) ∧ ∃ k, w' = w.drewN k := by
  have h := bits_near x 0 3 w x0.1 x0.2 (by omega) (by omega) (by omega) (by omega)
  have e : x / 2 ^ (0 : Int).toNat % 2 ^ (3 : Int).toNat = x % 8 := by simp
  rwa [e] at h
theorem high61 (x : Int) (w : World) (x0 : 0 ≤ x ∧ x ≤ 18446744073709551615) : Calls Try.prog 161 #[.int .u64 x, .int .i64 3, .int .i64 61] w fun e w' => e = .returned (.int .u64 (x / 8)) ∧ ∃ k, w' = w.drewN k := by
  have h := bits_near x 3 61 w x0.1 x0.2 (by omega) (by omega) (by omega) (by omega)
  have e : x / 2 ^ (3 : Int).toNat % 2 ^ (61 : Int).toNat = x / 8 := by
    have e1 : (2 : Int) ^ (3 : Int).toNat = 8 := by decide
    have e2 : (2 : Int) ^ (61 : Int).toNat = 2305843009213693952 := by decide
    rw [e1, e2]
    omega
  rwa [e] at h
theorem mid4 (x : Int) (w : World) (x0 : 0 ≤ x ∧ x ≤ 18446744073709551615) : Calls Try.prog 161 #[.int .u64 x, .int .i64 3, .int .i64 4] w fun e w' => e = .returned (.int .u64 (x / 8 % 16)) ∧ ∃ k, w' = w.drewN k := by
  have h := bits_near x 3 4 w x0.1 x0.2 (by omega) (by omega) (by omega) (by omega)
  have e : x / 2 ^ (3 : Int).toNat % 2 ^ (4 : Int).toNat = x / 8 % 16 := by
    have e1 : (2 : Int) ^ (3 : Int).toNat = 8 := by decide
    have e2 : (2 : Int) ^ (4 : Int).toNat = 16 := by decide
    rw [e1, e2]
  rwa [e] at h

theorem kindOf_any (x : Int) (w : World) (x0 : 0 ≤ x ∧ x ≤ 18446744073709551615) : Calls Try.prog 138 #[.int .u64 x] w fun e w' => e = .returned (.int .i64 (x % 8)) ∧ ∃ k, w' = w.drewN k := by
  have h1 : 0 ≤ x % 8 ∧ x % 8 < 8 := by omega
  have H := low3 x w x0
  clear x0
  generalize x % 8 = r at H h1 ⊢
  go_enter Try.func138, Try.ntmps138
  go_wp2_with fail
  go_at_call 161; refine H.mono ?_; rintro e w1 ⟨rfl, k, rfl⟩
  go_wp2_with fail
  go_ret
  exact ⟨rfl, k, rfl⟩

/-- Does a word part programs? -/
def pt (x : Int) : Bool := decide (x < 281474976710656) && (x % 8 == 7)
theorem parts_any (x : Int) (w : World) (x0 : 0 ≤ x ∧ x ≤ 18446744073709551615) : Calls Try.prog 98 #[.int .u64 x] w fun e w' => e = .returned (.bool (pt x)) ∧ ∃ k, w' = w.drewN k := by
  unfold pt
  by_cases h : x < 281474976710656
  · rw [decide_eq_true h, Bool.true_and]
    go_enter Try.func98, Try.ntmps98
    go_wp2_with fail
    go_at_call 138; refine (kindOf_any x w x0).mono ?_; rintro e w1 ⟨rfl, k, rfl⟩
    go_wp2_with fail
    all_goals
      go_ret
      refine ⟨ret_bool ?_, k, rfl⟩
      first | rfl | simp [*] | (simp; omega)
  · rw [decide_eq_false h, Bool.false_and]
    go_enter Try.func98, Try.ntmps98
    go_wp2_with fail
    go_ret
    exact ⟨ret_bool rfl, 0, rfl⟩
theorem refParts_any (x : Int) (w : World) (x0 : 0 ≤ x ∧ x ≤ 18446744073709551615) : Calls Try.prog 104 #[.int .u64 x] w fun e w' => e = .returned (.bool (pt x)) ∧ w = w' := by
  have hm : x.tmod 8 = x % 8 := Int.tmod_eq_emod_of_nonneg (by omega)
  unfold pt
  by_cases h : x < 281474976710656
  · rw [decide_eq_true h, Bool.true_and]
    generalize x % 8 = r at *
    go_enter Try.func104, Try.ntmps104
    go_wp2_with fail
    all_goals
      go_ret
      refine ⟨ret_bool ?_, rfl⟩
      first | rfl | simp [*] | (simp; omega)
  · rw [decide_eq_false h, Bool.false_and]
    go_enter Try.func104, Try.ntmps104
    go_wp2_with fail
    go_ret
    exact ⟨ret_bool rfl, rfl⟩
end Go.Proofs.Ytlnjjcfkcoaceaa
