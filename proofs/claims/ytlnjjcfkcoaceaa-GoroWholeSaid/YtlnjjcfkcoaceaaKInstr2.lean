/- The contract of code.Instr. -/
import Derived.Test.YtlnjjcfkcoaceaaKInstr1
namespace Go.Proofs.Ytlnjjcfkcoaceaa
open Go Go.RowKit
set_option linter.unusedVariables false
set_option maxRecDepth 100000
set_option linter.unusedSimpArgs false

theorem instr_far (x m : Int) (w : World) (h : 281474976710656 ≤ x) : Calls Try.prog 139 #[.int .u64 x, .int .i64 m] w fun e w' => e = .returned (.tuple #[.agg #[.int .i64 0, .int .i64 0], .bool true]) ∧ Below w.heap.size w w' := by
  go_enter Try.func139, Try.ntmps139
  go_wp2_with fail
  go_returns
  exact ⟨rfl, (Below.refl _ _).alloc (Nat.le_refl _) _⟩
theorem instr_part (x m : Int) (w : World) (x0 : 0 ≤ x ∧ x ≤ 18446744073709551615) (h : pt x = true) : Calls Try.prog 139 #[.int .u64 x, .int .i64 m] w fun e w' => e = .returned (.tuple #[.agg #[.int .i64 0, .int .i64 0], .bool false]) ∧ Below w.heap.size w w' := by
  have h1 : x < 281474976710656 := by unfold pt at h; simp at h; exact h.1
  have hP := parts_any x (w.alloc (.cells #[.int .i64 0, .int .i64 0] 90)) x0
  rw [h] at hP
  go_enter Try.func139, Try.ntmps139
  go_wp2_with fail
  go_at_call 98; refine hP.mono ?_; rintro e w1 ⟨rfl, k, rfl⟩
  go_wp2_with fail
  go_returns
  refine ⟨rfl, ?_⟩
  (repeat first | exact Below.refl _ _ | refine below_drewN2 ?_ _ | refine Below.setCell ?_ (by simp) _ | refine Below.alloc ?_ (by simp) _)
theorem instr_one (x m : Int) (w : World) (x0 : 0 ≤ x) (h : x < 281474976710656) (hm : -9223372036854775808 ≤ m ∧ m ≤ 9223372036854775807) (hk : x % 8 = 1) : Calls Try.prog 139 #[.int .u64 x, .int .i64 m] w fun e w' => e = .returned (.tuple #[.agg #[.int .i64 1, .int .i64 (1 + x / 8 % 16)], .bool true]) ∧ Below w.heap.size w w' := by
  have hp : pt x = false := by unfold pt; simp; omega
  have hP := fun w => parts_any x w ⟨x0, by omega⟩
  rw [hp] at hP
  have HP : Hid (∀ w, Calls Try.prog 98 #[.int .u64 x] w fun e w' => e = .returned (.bool false) ∧ ∃ k, w' = w.drewN k) := hP
  have HK : Hid (∀ w, Calls Try.prog 138 #[.int .u64 x] w fun e w' => e = .returned (.int .i64 (x % 8)) ∧ ∃ k, w' = w.drewN k) := fun w => kindOf_any x w ⟨x0, by omega⟩
  have HH : Hid (∀ w, Calls Try.prog 161 #[.int .u64 x, .int .i64 3, .int .i64 61] w fun e w' => e = .returned (.int .u64 (x / 8)) ∧ ∃ k, w' = w.drewN k) := fun w => high61 x w ⟨x0, by omega⟩
  have HM : Hid (∀ w, Calls Try.prog 161 #[.int .u64 x, .int .i64 3, .int .i64 4] w fun e w' => e = .returned (.int .u64 (x / 8 % 16)) ∧ ∃ k, w' = w.drewN k) := fun w => mid4 x w ⟨x0, by omega⟩
  clear hP hp
  rw [hk] at HK
  have b1 : 0 ≤ x / 8 % 16 ∧ x / 8 % 16 < 16 := by omega
  have b2 : 0 ≤ x / 8 ∧ x / 8 ≤ 35184372088832 := by omega
  generalize x / 8 % 16 = r at *
  generalize x / 8 = q at *
  go_enter Try.func139, Try.ntmps139
  go_wp2_with fail
  go_at_call 98; refine (HP.out _).mono ?_; rintro e w1 ⟨rfl, k1, rfl⟩
  go_wp2_with fail
  go_at_call 138; refine (HK.out _).mono ?_; rintro e w2 ⟨rfl, k2, rfl⟩
  go_wp2_with fail
  go_at_call 161; refine (HH.out _).mono ?_; rintro e w3 ⟨rfl, k3, rfl⟩
  go_wp2_with fail
  go_at_call 161; refine (HM.out _).mono ?_; rintro e w4 ⟨rfl, k4, rfl⟩
  go_wp2_with fail
  go_returns
  refine ⟨rfl, ?_⟩
  (repeat first | exact Below.refl _ _ | refine below_drewN2 ?_ _ | refine Below.setCell ?_ (by simp) _ | refine Below.alloc ?_ (by simp) _)
theorem instr_twoM (x m : Int) (w : World) (x0 : 0 ≤ x) (h : x < 281474976710656) (hm : -9223372036854775808 ≤ m ∧ m ≤ 9223372036854775807) (hk : x % 8 = 2) (hm1 : 1 ≤ m) : Calls Try.prog 139 #[.int .u64 x, .int .i64 m] w fun e w' => e = .returned (.tuple #[.agg #[.int .i64 2, .int .i64 (x / 8 % m)], .bool true]) ∧ Below w.heap.size w w' := by
  have hp : pt x = false := by unfold pt; simp; omega
  have hP := fun w => parts_any x w ⟨x0, by omega⟩
  rw [hp] at hP
  have HP : Hid (∀ w, Calls Try.prog 98 #[.int .u64 x] w fun e w' => e = .returned (.bool false) ∧ ∃ k, w' = w.drewN k) := hP
  have HK : Hid (∀ w, Calls Try.prog 138 #[.int .u64 x] w fun e w' => e = .returned (.int .i64 (x % 8)) ∧ ∃ k, w' = w.drewN k) := fun w => kindOf_any x w ⟨x0, by omega⟩
  have HH : Hid (∀ w, Calls Try.prog 161 #[.int .u64 x, .int .i64 3, .int .i64 61] w fun e w' => e = .returned (.int .u64 (x / 8)) ∧ ∃ k, w' = w.drewN k) := fun w => high61 x w ⟨x0, by omega⟩
  have HM : Hid (∀ w, Calls Try.prog 161 #[.int .u64 x, .int .i64 3, .int .i64 4] w fun e w' => e = .returned (.int .u64 (x / 8 % 16)) ∧ ∃ k, w' = w.drewN k) := fun w => mid4 x w ⟨x0, by omega⟩
  clear hP hp
  rw [hk] at HK
  have hM : (x / 8).tmod m = x / 8 % m := Int.tmod_eq_emod_of_nonneg (by omega)
  have bM : 0 ≤ x / 8 % m ∧ x / 8 % m ≤ x / 8 := ⟨Int.emod_nonneg _ (by omega), emod_le (by omega) (by omega)⟩
  have b2 : 0 ≤ x / 8 ∧ x / 8 ≤ 35184372088832 := by omega
  clear HM
  generalize x / 8 % m = r at *
  generalize x / 8 = q at *
  go_enter Try.func139, Try.ntmps139
  go_wp2_with fail
  go_at_call 98; refine (HP.out _).mono ?_; rintro e w1 ⟨rfl, k1, rfl⟩
  go_wp2_with fail
  go_at_call 138; refine (HK.out _).mono ?_; rintro e w2 ⟨rfl, k2, rfl⟩
  go_wp2_with fail
  go_at_call 161; refine (HH.out _).mono ?_; rintro e w3 ⟨rfl, k3, rfl⟩
  go_wp2_with fail
  go_returns
  refine ⟨rfl, ?_⟩
  (repeat first | exact Below.refl _ _ | refine below_drewN2 ?_ _ | refine Below.setCell ?_ (by simp) _ | refine Below.alloc ?_ (by simp) _)
theorem instr_two1 (x m : Int) (w : World) (x0 : 0 ≤ x) (h : x < 281474976710656) (hm : -9223372036854775808 ≤ m ∧ m ≤ 9223372036854775807) (hk : x % 8 = 2) (hm1 : m < 1) : Calls Try.prog 139 #[.int .u64 x, .int .i64 m] w fun e w' => e = .returned (.tuple #[.agg #[.int .i64 2, .int .i64 (x / 8 % 1)], .bool true]) ∧ Below w.heap.size w w' := by
  have hp : pt x = false := by unfold pt; simp; omega
  have hP := fun w => parts_any x w ⟨x0, by omega⟩
  rw [hp] at hP
  have HP : Hid (∀ w, Calls Try.prog 98 #[.int .u64 x] w fun e w' => e = .returned (.bool false) ∧ ∃ k, w' = w.drewN k) := hP
  have HK : Hid (∀ w, Calls Try.prog 138 #[.int .u64 x] w fun e w' => e = .returned (.int .i64 (x % 8)) ∧ ∃ k, w' = w.drewN k) := fun w => kindOf_any x w ⟨x0, by omega⟩
  have HH : Hid (∀ w, Calls Try.prog 161 #[.int .u64 x, .int .i64 3, .int .i64 61] w fun e w' => e = .returned (.int .u64 (x / 8)) ∧ ∃ k, w' = w.drewN k) := fun w => high61 x w ⟨x0, by omega⟩
  have HM : Hid (∀ w, Calls Try.prog 161 #[.int .u64 x, .int .i64 3, .int .i64 4] w fun e w' => e = .returned (.int .u64 (x / 8 % 16)) ∧ ∃ k, w' = w.drewN k) := fun w => mid4 x w ⟨x0, by omega⟩
  clear hP hp
  rw [hk] at HK
  have hM : (x / 8).tmod 1 = x / 8 % 1 := Int.tmod_eq_emod_of_nonneg (by omega)
  have bM : 0 ≤ x / 8 % 1 ∧ x / 8 % 1 ≤ x / 8 := ⟨Int.emod_nonneg _ (by omega), emod_le (by omega) (by omega)⟩
  have b2 : 0 ≤ x / 8 ∧ x / 8 ≤ 35184372088832 := by omega
  clear HM
  generalize x / 8 % 1 = r at *
  generalize x / 8 = q at *
  go_enter Try.func139, Try.ntmps139
  go_wp2_with fail
  go_at_call 98; refine (HP.out _).mono ?_; rintro e w1 ⟨rfl, k1, rfl⟩
  go_wp2_with fail
  go_at_call 138; refine (HK.out _).mono ?_; rintro e w2 ⟨rfl, k2, rfl⟩
  go_wp2_with fail
  go_at_call 161; refine (HH.out _).mono ?_; rintro e w3 ⟨rfl, k3, rfl⟩
  go_wp2_with fail
  go_returns
  refine ⟨rfl, ?_⟩
  (repeat first | exact Below.refl _ _ | refine below_drewN2 ?_ _ | refine Below.setCell ?_ (by simp) _ | refine Below.alloc ?_ (by simp) _)
theorem instr_five (x m : Int) (w : World) (x0 : 0 ≤ x) (h : x < 281474976710656) (hm : -9223372036854775808 ≤ m ∧ m ≤ 9223372036854775807) (hk : x % 8 = 5) : Calls Try.prog 139 #[.int .u64 x, .int .i64 m] w fun e w' => e = .returned (.tuple #[.agg #[.int .i64 5, .int .i64 (x / 8 % 65536)], .bool true]) ∧ Below w.heap.size w w' := by
  have hp : pt x = false := by unfold pt; simp; omega
  have hP := fun w => parts_any x w ⟨x0, by omega⟩
  rw [hp] at hP
  have HP : Hid (∀ w, Calls Try.prog 98 #[.int .u64 x] w fun e w' => e = .returned (.bool false) ∧ ∃ k, w' = w.drewN k) := hP
  have HK : Hid (∀ w, Calls Try.prog 138 #[.int .u64 x] w fun e w' => e = .returned (.int .i64 (x % 8)) ∧ ∃ k, w' = w.drewN k) := fun w => kindOf_any x w ⟨x0, by omega⟩
  have HH : Hid (∀ w, Calls Try.prog 161 #[.int .u64 x, .int .i64 3, .int .i64 61] w fun e w' => e = .returned (.int .u64 (x / 8)) ∧ ∃ k, w' = w.drewN k) := fun w => high61 x w ⟨x0, by omega⟩
  have HM : Hid (∀ w, Calls Try.prog 161 #[.int .u64 x, .int .i64 3, .int .i64 4] w fun e w' => e = .returned (.int .u64 (x / 8 % 16)) ∧ ∃ k, w' = w.drewN k) := fun w => mid4 x w ⟨x0, by omega⟩
  clear hP hp
  rw [hk] at HK
  have hM : (x / 8).tmod 65536 = x / 8 % 65536 := Int.tmod_eq_emod_of_nonneg (by omega)
  have b1 : 0 ≤ x / 8 % 65536 ∧ x / 8 % 65536 < 65536 := by omega
  have b2 : 0 ≤ x / 8 ∧ x / 8 ≤ 35184372088832 := by omega
  clear HM
  generalize x / 8 % 65536 = r at *
  generalize x / 8 = q at *
  go_enter Try.func139, Try.ntmps139
  go_wp2_with fail
  go_at_call 98; refine (HP.out _).mono ?_; rintro e w1 ⟨rfl, k1, rfl⟩
  go_wp2_with fail
  go_at_call 138; refine (HK.out _).mono ?_; rintro e w2 ⟨rfl, k2, rfl⟩
  go_wp2_with fail
  go_at_call 161; refine (HH.out _).mono ?_; rintro e w3 ⟨rfl, k3, rfl⟩
  go_wp2_with fail
  go_returns
  refine ⟨rfl, ?_⟩
  (repeat first | exact Below.refl _ _ | refine below_drewN2 ?_ _ | refine Below.setCell ?_ (by simp) _ | refine Below.alloc ?_ (by simp) _)
theorem instr_else (x m : Int) (w : World) (x0 : 0 ≤ x) (h : x < 281474976710656) (hm : -9223372036854775808 ≤ m ∧ m ≤ 9223372036854775807) (hk : x % 8 ≠ 1 ∧ x % 8 ≠ 2 ∧ x % 8 ≠ 5 ∧ x % 8 ≠ 7) : Calls Try.prog 139 #[.int .u64 x, .int .i64 m] w fun e w' => e = .returned (.tuple #[.agg #[.int .i64 (x % 8), .int .i64 0], .bool true]) ∧ Below w.heap.size w w' := by
  have hp : pt x = false := by unfold pt; simp; omega
  have hP := fun w => parts_any x w ⟨x0, by omega⟩
  rw [hp] at hP
  have HP : Hid (∀ w, Calls Try.prog 98 #[.int .u64 x] w fun e w' => e = .returned (.bool false) ∧ ∃ k, w' = w.drewN k) := hP
  have HK : Hid (∀ w, Calls Try.prog 138 #[.int .u64 x] w fun e w' => e = .returned (.int .i64 (x % 8)) ∧ ∃ k, w' = w.drewN k) := fun w => kindOf_any x w ⟨x0, by omega⟩
  have HH : Hid (∀ w, Calls Try.prog 161 #[.int .u64 x, .int .i64 3, .int .i64 61] w fun e w' => e = .returned (.int .u64 (x / 8)) ∧ ∃ k, w' = w.drewN k) := fun w => high61 x w ⟨x0, by omega⟩
  have HM : Hid (∀ w, Calls Try.prog 161 #[.int .u64 x, .int .i64 3, .int .i64 4] w fun e w' => e = .returned (.int .u64 (x / 8 % 16)) ∧ ∃ k, w' = w.drewN k) := fun w => mid4 x w ⟨x0, by omega⟩
  clear hP hp
  obtain ⟨n1, n2, n5, n7⟩ := hk
  have b1 : 0 ≤ x % 8 ∧ x % 8 < 8 := by omega
  clear HM
  generalize x % 8 = r at *
  generalize x / 8 = q at *
  go_enter Try.func139, Try.ntmps139
  go_wp2_with fail
  go_at_call 98; refine (HP.out _).mono ?_; rintro e w1 ⟨rfl, k1, rfl⟩
  go_wp2_with fail
  go_at_call 138; refine (HK.out _).mono ?_; rintro e w2 ⟨rfl, k2, rfl⟩
  go_wp2_with fail
  go_at_call 161; refine (HH.out _).mono ?_; rintro e w3 ⟨rfl, k3, rfl⟩
  go_wp2_with fail
  go_returns
  refine ⟨rfl, ?_⟩
  (repeat first | exact Below.refl _ _ | refine below_drewN2 ?_ _ | refine Below.setCell ?_ (by simp) _ | refine Below.alloc ?_ (by simp) _)
theorem instr_any (x m : Int) (w : World) (x0 : 0 ≤ x ∧ x ≤ 18446744073709551615) (hm : -9223372036854775808 ≤ m ∧ m ≤ 9223372036854775807) (hp : pt x = false) : Calls Try.prog 139 #[.int .u64 x, .int .i64 m] w fun e w' => e = .returned (.tuple #[.agg #[.int .i64 (kd x), .int .i64 (ag x m)], .bool true]) ∧ Below w.heap.size w w' := by
  by_cases h : 281474976710656 ≤ x
  · have e1 : kd x = 0 := by unfold kd; rw [if_pos h]
    have e2 : ag x m = 0 := by unfold ag; rw [if_pos h]
    rw [e1, e2]
    exact instr_far x m w h
  · have h7 : x % 8 ≠ 7 := by
      intro h7
      unfold pt at hp
      rw [decide_eq_true (by omega), h7] at hp
      simp at hp
    have hk : kd x = x % 8 := by unfold kd; rw [if_neg (by omega)]
    rw [hk]
    by_cases h1 : x % 8 = 1
    · have ea : ag x m = 1 + x / 8 % 16 := by unfold ag; rw [if_neg (by omega), if_pos h1]
      rw [ea, h1]
      exact instr_one x m w x0.1 (by omega) hm h1
    · by_cases h2 : x % 8 = 2
      · by_cases hm1 : 1 ≤ m
        · have ea : ag x m = x / 8 % m := by unfold ag mx; rw [if_neg (by omega), if_neg (by omega), if_pos h2, if_pos hm1]
          rw [ea, h2]
          exact instr_twoM x m w x0.1 (by omega) hm h2 hm1
        · have ea : ag x m = x / 8 % 1 := by unfold ag mx; rw [if_neg (by omega), if_neg (by omega), if_pos h2, if_neg hm1]
          rw [ea, h2]
          exact instr_two1 x m w x0.1 (by omega) hm h2 (by omega)
      · by_cases h5 : x % 8 = 5
        · have ea : ag x m = x / 8 % 65536 := by unfold ag; rw [if_neg (by omega), if_neg h1, if_neg h2, if_pos h5]
          rw [ea, h5]
          exact instr_five x m w x0.1 (by omega) hm h5
        · have ea : ag x m = 0 := by unfold ag; rw [if_neg (by omega), if_neg h1, if_neg h2, if_neg h5]
          rw [ea]
          exact instr_else x m w x0.1 (by omega) hm ⟨h1, h2, h5, h7⟩
end Go.Proofs.Ytlnjjcfkcoaceaa
