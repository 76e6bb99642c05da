/- The contracts of Instr, of package code and of the document's answer. -/
import Derived.Test.YtlnjjcfkcoaceaaKWords
namespace Go.Proofs.Ytlnjjcfkcoaceaa
open Go Go.RowKit
set_option linter.unusedVariables false
set_option maxRecDepth 100000
set_option linter.unusedSimpArgs false

theorem below_drewN2 {B : Nat} {a w : World} (h : Below B a w) (n : Nat) : Below B a (w.drewN n) := ⟨h.os, h.tape, h.output, h.size, h.block⟩
/-- A word's kind, and its Arg, of m programs. -/
def kd (x : Int) : Int := if 281474976710656 ≤ x then 0 else x % 8
def mx (m : Int) : Int := if 1 ≤ m then m else 1
def ag (x m : Int) : Int := if 281474976710656 ≤ x then 0 else if x % 8 = 1 then 1 + x / 8 % 16 else if x % 8 = 2 then x / 8 % mx m else if x % 8 = 5 then x / 8 % 65536 else 0

theorem emod_le {q m : Int} (hq : 0 ≤ q) (hm : 1 ≤ m) : q % m ≤ q := by
  have h := Int.emod_def q m
  have h2 : 0 ≤ m * (q / m) := Int.mul_nonneg (by omega) (Int.ediv_nonneg hq (by omega))
  omega
theorem mx_le (m : Int) (hm : -9223372036854775808 ≤ m ∧ m ≤ 9223372036854775807) : 1 ≤ mx m ∧ mx m ≤ 9223372036854775807 := by unfold mx; split <;> omega

theorem refInstr_far (x m : Int) (w : World) (h : 281474976710656 ≤ x) : Calls Try.prog 105 #[.int .u64 x, .int .i64 m] w fun e w' => e = .returned (.agg #[.int .i64 0, .int .i64 0]) ∧ Below w.heap.size w w' := by
  go_enter Try.func105, Try.ntmps105
  go_wp2_with fail
  go_returns
  exact ⟨rfl, (Below.refl _ _).alloc (Nat.le_refl _) _⟩
theorem refInstr_near (x m : Int) (w : World) (x0 : 0 ≤ x) (h : x < 281474976710656) (hm : -9223372036854775808 ≤ m ∧ m ≤ 9223372036854775807) : Calls Try.prog 105 #[.int .u64 x, .int .i64 m] w fun e w' => e = .returned (.agg #[.int .i64 (kd x), .int .i64 (ag x m)]) ∧ Below w.heap.size w w' := by
  have hmm : 1 ≤ mx m ∧ mx m ≤ 9223372036854775807 := by unfold mx; split <;> omega
  have h8 : x.tmod 8 = x % 8 := Int.tmod_eq_emod_of_nonneg (by omega)
  have hq : x.tdiv 8 = x / 8 := Int.tdiv_eq_ediv_of_nonneg (by omega)
  have h16 : (x / 8).tmod 16 = x / 8 % 16 := Int.tmod_eq_emod_of_nonneg (by omega)
  have h65 : (x / 8).tmod 65536 = x / 8 % 65536 := Int.tmod_eq_emod_of_nonneg (by omega)
  have b8 : 0 ≤ x % 8 ∧ x % 8 < 8 := by omega
  have ba : 0 ≤ x / 8 % 16 ∧ x / 8 % 16 < 16 := by omega
  have b6 : 0 ≤ x / 8 % 65536 ∧ x / 8 % 65536 < 65536 := by omega
  have hk : kd x = x % 8 := by unfold kd; rw [if_neg (by omega)]
  rw [hk]
  by_cases h1 : x % 8 = 1
  · have ea : ag x m = 1 + x / 8 % 16 := by unfold ag; rw [if_neg (by omega), if_pos h1]
    rw [ea, h1]
    rw [h1] at h8
    generalize x / 8 % 16 = r at *
    go_enter Try.func105, Try.ntmps105
    go_wp2_with fail
    go_returns
    exact ⟨rfl, (Below.refl _ _).alloc (Nat.le_refl _) _⟩
  · by_cases h2 : x % 8 = 2
    · have ea : ag x m = x / 8 % mx m := by unfold ag; rw [if_neg (by omega), if_neg (by omega), if_pos h2]
      rw [ea, h2]
      rw [h2] at h8
      have hM : (x / 8).tmod (mx m) = x / 8 % mx m := Int.tmod_eq_emod_of_nonneg (by omega)
      have bM : 0 ≤ x / 8 % mx m ∧ x / 8 % mx m ≤ x / 8 := ⟨Int.emod_nonneg _ (by omega), emod_le (by omega) (by omega)⟩
      have hd : 0 ≤ x / 8 ∧ x / 8 ≤ 35184372088832 := by omega
      clear ba b6 h16 h65
      by_cases hm1 : 1 ≤ m
      · have e1 : mx m = m := by unfold mx; rw [if_pos hm1]
        rw [e1] at hM bM ⊢
        generalize x / 8 % m = r at *
        generalize x / 8 = q at *
        go_enter Try.func105, Try.ntmps105
        go_wp2_with fail
        go_returns
        exact ⟨rfl, (Below.refl _ _).alloc (Nat.le_refl _) _⟩
      · have e1 : mx m = 1 := by unfold mx; rw [if_neg hm1]
        rw [e1] at hM bM ⊢
        generalize x / 8 % 1 = r at *
        generalize x / 8 = q at *
        go_enter Try.func105, Try.ntmps105
        go_wp2_with fail
        go_returns
        exact ⟨rfl, (Below.refl _ _).alloc (Nat.le_refl _) _⟩
    · by_cases h5 : x % 8 = 5
      · have ea : ag x m = x / 8 % 65536 := by unfold ag; rw [if_neg (by omega), if_neg h1, if_neg h2, if_pos h5]
        rw [ea, h5]
        rw [h5] at h8
        generalize x / 8 % 65536 = r at *
        go_enter Try.func105, Try.ntmps105
        go_wp2_with fail
        go_returns
        exact ⟨rfl, (Below.refl _ _).alloc (Nat.le_refl _) _⟩
      · have ea : ag x m = 0 := by unfold ag; rw [if_neg (by omega), if_neg h1, if_neg h2, if_neg h5]
        rw [ea]
        generalize x % 8 = r at *
        go_enter Try.func105, Try.ntmps105
        go_wp2_with fail
        go_returns
        exact ⟨rfl, (Below.refl _ _).alloc (Nat.le_refl _) _⟩
theorem refInstr_any (x m : Int) (w : World) (x0 : 0 ≤ x ∧ x ≤ 18446744073709551615) (hm : -9223372036854775808 ≤ m ∧ m ≤ 9223372036854775807) : Calls Try.prog 105 #[.int .u64 x, .int .i64 m] w fun e w' => e = .returned (.agg #[.int .i64 (kd x), .int .i64 (ag x m)]) ∧ Below w.heap.size w w' := by
  by_cases h : 281474976710656 ≤ x
  · have e1 : kd x = 0 := by unfold kd; rw [if_pos h]
    have e2 : ag x m = 0 := by unfold ag; rw [if_pos h]
    rw [e1, e2]
    exact refInstr_far x m w h
  · exact refInstr_near x m w x0.1 (by omega) hm
end Go.Proofs.Ytlnjjcfkcoaceaa
