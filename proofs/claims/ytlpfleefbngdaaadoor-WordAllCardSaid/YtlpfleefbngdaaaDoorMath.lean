/- The plain arithmetic of words: bits by division, by shifts and masks, and by doubling; no program is spoken of here. -/
import Derived.WalkKit
namespace Go.Proofs.YtlpfleefbngdaaaDoor
open Go

/-- The bits of a word. -/
def bitsV (x f n : Int) : Int := if f < 0 ∨ 63 < f ∨ n < 0 ∨ 64 < n then 0 else x / 2 ^ f.toNat % 2 ^ n.toNat

theorem pow_pos2 (n : Nat) : (0 : Int) < 2 ^ n := Int.pow_pos (by decide)

theorem pow_le64 (n : Nat) (h : n ≤ 64) : (2 : Int) ^ n ≤ 18446744073709551616 := by
  have h1 : (2 : Nat) ^ n ≤ 2 ^ 64 := Nat.pow_le_pow_right (by decide) h
  have h2 : (((2 : Nat) ^ n : Nat) : Int) = 2 ^ n := by simp
  have h3 : (((2 : Nat) ^ 64 : Nat) : Int) = 18446744073709551616 := by decide
  omega

theorem pow_lt63 (n : Nat) (h : n < 64) : (2 : Int) ^ n ≤ 9223372036854775808 := by
  have h1 : (2 : Nat) ^ n ≤ 2 ^ 63 := Nat.pow_le_pow_right (by decide) (by omega)
  have h2 : (((2 : Nat) ^ n : Nat) : Int) = 2 ^ n := by simp
  have h3 : (((2 : Nat) ^ 63 : Nat) : Int) = 9223372036854775808 := by decide
  omega

/-- The mask of the lowest bits. -/
theorem mask_eq (y : Int) (n : Int) (hy0 : 0 ≤ y) (hy : y ≤ 18446744073709551615) (h0 : 0 ≤ n) (h : n ≤ 64) :
    bits .and .u64 y (IntKind.u64.wrap (IntKind.u64.wrap (2 ^ n.toNat) - 1)) = y % 2 ^ n.toNat := by
  obtain ⟨k, rfl⟩ : ∃ k : Nat, n = (k : Int) := ⟨n.toNat, by omega⟩
  obtain ⟨z, rfl⟩ : ∃ z : Nat, y = (z : Int) := ⟨y.toNat, by omega⟩
  simp only [Int.toNat_natCast]
  have hk : k ≤ 64 := by omega
  have hz : z < 18446744073709551616 := by omega
  have hp : (0 : Nat) < 2 ^ k := Nat.pow_pos (by decide)
  have hb : (((2 : Nat) ^ k : Nat) : Int) = (2 : Int) ^ k := by simp
  have hm : IntKind.u64.wrap (IntKind.u64.wrap ((2 : Int) ^ k) - 1) = ((2 ^ k - 1 : Nat) : Int) := by
    rw [← hb]
    by_cases e : k = 64
    · subst e; decide
    · have h1 : (2 : Nat) ^ k ≤ 2 ^ 63 := Nat.pow_le_pow_right (by decide) (by omega)
      have h2 : (2 : Nat) ^ 63 = 9223372036854775808 := by decide
      generalize 2 ^ k = c at hp h1
      rw [IntWalk.u64_in (c : Int) (by omega), IntWalk.u64_in _ (by omega)]
      omega
  have hl : (2 : Nat) ^ k - 1 < 18446744073709551616 := by
    have h1 : (2 : Nat) ^ k ≤ 2 ^ 64 := Nat.pow_le_pow_right (by decide) hk
    have h2 : (2 : Nat) ^ 64 = 18446744073709551616 := by decide
    omega
  rw [hm, bits_and_u64_nat z (2 ^ k - 1) hz hl, Nat.and_two_pow_sub_one_eq_mod, ← hb]
  simp

theorem div_bd (x : Int) (k : Nat) (h0 : 0 ≤ x) : 0 ≤ x / 2 ^ k ∧ x / 2 ^ k ≤ x := by
  have hp := pow_pos2 k
  refine ⟨Int.ediv_nonneg h0 (Int.le_of_lt hp), ?_⟩
  exact Int.ediv_le_self _ h0

theorem div_step (x : Int) (k : Nat) : x / 2 ^ (k + 1) = x / 2 ^ k / 2 := by
  rw [Int.pow_succ, Int.ediv_ediv_of_nonneg (Int.le_of_lt (pow_pos2 k))]

theorem mod_bd (y : Int) (k : Nat) : 0 ≤ y % 2 ^ k ∧ y % 2 ^ k < 2 ^ k :=
  ⟨Int.emod_nonneg _ (Int.ne_of_gt (pow_pos2 k)), Int.emod_lt_of_pos _ (pow_pos2 k)⟩

theorem mod_step (y : Int) (k : Nat) (h0 : 0 ≤ y) : y % 2 ^ (k + 1) = y % 2 ^ k + y / 2 ^ k % 2 * 2 ^ k := by
  obtain ⟨z, rfl⟩ : ∃ z : Nat, y = (z : Int) := ⟨y.toNat, by omega⟩
  have h := @Nat.mod_pow_succ z 2 k
  have h2 : ((z % 2 ^ (k + 1) : Nat) : Int) = ((z % 2 ^ k + 2 ^ k * (z / 2 ^ k % 2) : Nat) : Int) := by rw [h]
  simp only [Int.natCast_emod, Int.natCast_add, Int.natCast_mul, Int.natCast_ediv, Int.natCast_pow] at h2
  rw [Int.mul_comm (((z : Int)) / 2 ^ k % 2)]
  exact h2

/-- One round of the gathering of bits. -/
theorem gather_step (y : Int) (k : Nat) (h0 : 0 ≤ y) (hk : k < 64) :
    IntKind.u64.wrap (y % 2 ^ k + IntKind.u64.wrap (y / 2 ^ k % 2 * 2 ^ k)) = y % 2 ^ (k + 1) := by
  have hs := mod_step y k h0
  have hb := mod_bd y (k + 1)
  have hb2 := mod_bd y k
  have hl := pow_le64 (k + 1) (by omega)
  have hn : 0 ≤ y / 2 ^ k % 2 * 2 ^ k := Int.mul_nonneg (Int.emod_nonneg _ (by decide)) (Int.le_of_lt (pow_pos2 k))
  rw [IntWalk.u64_in (y / 2 ^ k % 2 * 2 ^ k) (by omega), ← hs, IntWalk.u64_in _ (by omega)]

theorem unit_step (k : Nat) (hk : k + 1 < 64) : IntKind.u64.wrap (2 * (2 : Int) ^ k) = 2 ^ (k + 1) := by
  have h := pow_lt63 (k + 1) hk
  have hp := pow_pos2 (k + 1)
  have e : (2 : Int) ^ (k + 1) = 2 * 2 ^ k := by rw [Int.pow_succ, Int.mul_comm]
  rw [← e, IntWalk.u64_in _ (by omega)]

theorem bitsV_far (x f n : Int) (h : f < 0 ∨ 63 < f ∨ n < 0 ∨ 64 < n) : bitsV x f n = 0 := by unfold bitsV; rw [if_pos h]
theorem bitsV_near (x f n : Int) (h0 : 0 ≤ f) (h1 : f ≤ 63) (h2 : 0 ≤ n) (h3 : n ≤ 64) : bitsV x f n = x / 2 ^ f.toNat % 2 ^ n.toNat := by unfold bitsV; rw [if_neg (by omega)]
theorem bitsV_low (x : Int) : bitsV x 0 3 = x % 8 := by rw [bitsV_near _ _ _ (by decide) (by decide) (by decide) (by decide)]; simp
theorem bitsV_high (x : Int) (h0 : 0 ≤ x) (h : x ≤ 18446744073709551615) : bitsV x 3 61 = x / 8 := by
  rw [bitsV_near _ _ _ (by decide) (by decide) (by decide) (by decide)]
  show x / 8 % 2305843009213693952 = x / 8
  omega

/-- The number of threads that a number is taken as. -/
def thr (t : Int) : Int := if t < 1 then 1 else if 256 < t then 256 else t
theorem thr_bd (t : Int) : 1 ≤ thr t ∧ thr t ≤ 256 := by unfold thr; split <;> (try split) <;> omega
def kindV (x : Int) : Int := if x % 8 < 4 then 1 else if x % 8 = 5 then 3 else if x % 8 = 6 then 4 else 2
def whoV (x t : Int) : Int := if x % 8 < 4 ∨ x % 8 = 6 then x / 8 % thr t else 0
def rightB (k o t : Int) : Bool := decide (((k = 2 ∨ k = 3) ∧ o = 0) ∨ ((k = 1 ∨ k = 4) ∧ 0 ≤ o ∧ o < thr t))
def fitsB (k o t : Int) : Bool := decide (((k ≠ 1 ∧ k ≠ 4) ∧ o = 0) ∨ ((k = 1 ∨ k = 4) ∧ 0 ≤ o ∧ o < t))
theorem right_word (x t : Int) : rightB (kindV x) (whoV x t) t = true := by
  unfold rightB kindV whoV
  have ht := thr_bd t
  have h1 := Int.emod_nonneg (x / 8) (b := thr t) (by omega)
  have h2 := Int.emod_lt_of_pos (x / 8) (b := thr t) (by omega)
  generalize x / 8 % thr t = r at h1 h2
  by_cases a : x % 8 < 4
  · simp [a]; omega
  · by_cases b : x % 8 = 5
    · simp [b]
    · by_cases c : x % 8 = 6
      · simp [c]; omega
      · simp [a, b, c]

end Go.Proofs.YtlpfleefbngdaaaDoor
