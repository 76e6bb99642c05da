/- The kind of a word. -/
import Derived.Test.YtalilnnjpemmlaaDoorU1
namespace Go.Proofs.YtalilnnjpemmlaaDoor
open Go Go.RowKit
set_option linter.unusedVariables false
set_option linter.unusedSimpArgs false

theorem bA_inj {a b : List UInt8} (h : bA a = bA b) : a = b := by
  unfold bA at h
  injection h with h
  simpa using h
theorem kind_first {s : List UInt8} {i : Nat} (hi : i < 12) (h : kw i = s) (hn : ∀ j, j < i → kw j ≠ s) : kind s = i := by
  subst h; exact kind_kw i (by omega)
theorem kind_none {s : List UInt8} (hn : ∀ j, j < 12 → kw j ≠ s) : kind s = 0 := by
  unfold kind
  have : (List.range 12).find? (fun i => kw i == s) = none := by
    rw [List.find?_eq_none]
    intro i hi
    rw [List.mem_range] at hi
    simp [hn i hi]
  rw [this]; rfl
theorem kind_le (s : List UInt8) : kind s ≤ 11 := by
  unfold kind
  cases h : (List.range 12).find? (fun i => kw i == s) with
  | none => simp
  | some i =>
    have := List.mem_of_find?_eq_some h
    rw [List.mem_range] at this
    simp; omega

theorem idx12 (K : Nat → ByteArray) (i : Nat) (hi : i < 12) (w : World) : (Instr.index 44 (.agg #[.string (K 0), .string (K 1), .string (K 2), .string (K 3), .string (K 4), .string (K 5), .string (K 6), .string (K 7), .string (K 8), .string (K 9), .string (K 10), .string (K 11)]) (.int .i64 (i : Int))).run Tryd.prog w = .ok (.string (K i)) w := by
  obtain rfl | rfl | rfl | rfl | rfl | rfl | rfl | rfl | rfl | rfl | rfl | rfl : i = 0 ∨ i = 1 ∨ i = 2 ∨ i = 3 ∨ i = 4 ∨ i = 5 ∨ i = 6 ∨ i = 7 ∨ i = 8 ∨ i = 9 ∨ i = 10 ∨ i = 11 := by omega
  all_goals (simp [Instr.index, run_underlying Tryd.underlying44, asIntOf, go_sem])
set_option maxRecDepth 100000 in
set_option maxHeartbeats 8000000 in
theorem kind_any (s : List UInt8) (w : World) (hT : Tab w) : Calls Tryd.prog 11 #[.string (bA s)] w fun e w' => e = .returned (.int .i64 (kind s : Int)) ∧ w' = w := by
  have k0 := hT.word 0 (by omega)
  have k1 := hT.word 1 (by omega)
  have k2 := hT.word 2 (by omega)
  have k3 := hT.word 3 (by omega)
  have k4 := hT.word 4 (by omega)
  have k5 := hT.word 5 (by omega)
  have k6 := hT.word 6 (by omega)
  have k7 := hT.word 7 (by omega)
  have k8 := hT.word 8 (by omega)
  have k9 := hT.word 9 (by omega)
  have k10 := hT.word 10 (by omega)
  have k11 := hT.word 11 (by omega)
  simp only [str_eq] at k0 k1 k2 k3 k4 k5 k6 k7 k8 k9 k10 k11
  clear hT
  have HQ : Hid (∀ i, ((bA (kw i)).toList == (bA s).toList) = (kw i == s)) := fun i => bA_beq _ _
  have HK : Hid (∀ i, i < 12 → kw i = s → (∀ j, j < i → kw j ≠ s) → kind s = i) := fun i h1 h2 h3 => kind_first h1 h2 h3
  have HN : Hid ((∀ j, j < 12 → kw j ≠ s) → kind s = 0) := kind_none
  generalize bA s = S at *
  obtain ⟨K, hK⟩ : ∃ K : Nat → ByteArray, ∀ i, bA (kw i) = K i := ⟨_, fun _ => rfl⟩
  simp only [hK] at k0 k1 k2 k3 k4 k5 k6 k7 k8 k9 k10 k11 HQ
  go_enter Tryd.func11, Tryd.ntmps11
  go_wp2
  have HX : Hid (∀ (i : Nat) (x : World), i < 12 → (Instr.index 44 (.agg #[.string (K 0), .string (K 1), .string (K 2), .string (K 3), .string (K 4), .string (K 5), .string (K 6), .string (K 7), .string (K 8), .string (K 9), .string (K 10), .string (K 11)]) (.int .i64 (i : Int))).run Tryd.prog x = .ok (.string (K i)) x) := fun i x h => idx12 K i h x
  generalize #[Value.string (K 0), Value.string (K 1), Value.string (K 2), Value.string (K 3), Value.string (K 4), Value.string (K 5), Value.string (K 6), Value.string (K 7), Value.string (K 8), Value.string (K 9), Value.string (K 10), Value.string (K 11)] = A at HX ⊢
  clear k0 k1 k2 k3 k4 k5 k6 k7 k8 k9 k10 k11 hK
  go_loopw [6] (fun p wr => ∃ (i : Nat), i ≤ 12 ∧ p = .int .i64 (i : Int) ∧ wr = w ∧ Hid (∀ j, j < i → kw j ≠ s)) (fun p _ => 12 - (intOf p).toNat)
  case atStart => exact ⟨0, by omega, rfl, rfl, fun j hj => by omega⟩
  case round =>
    obtain ⟨i, hi, rfl, rfl, HP⟩ := hrel
    by_cases h12 : i < 12
    · have hb := HQ.out i
      have HKi := Lib.hid (HK.out i h12)
      have hx := fun x => HX.out i x h12
      have hlt : (decide ((i : Int) < 12)) = true := by simp; omega
      by_cases he : kw i = s
      · have HR := Lib.hid (HKi.out he HP.out)
        have hb2 : ((K i).toList == S.toList) = true := by rw [hb, beq_iff_eq]; exact he
        clear hb he
        go_wp2
        go_ret
        exact ⟨by rw [HR.out]; rfl, rfl⟩
      · have hb2 : ((K i).toList == S.toList) = false := by rw [hb, beq_eq_false_iff_ne]; exact he
        have HP2 : Hid (∀ j, j < i + 1 → kw j ≠ s) := fun j hj => by
          by_cases e : j = i
          · subst e; exact he
          · exact HP.out j (by omega)
        clear hb he HP
        go_wp2
        go_roundw
        case rel => exact ⟨i + 1, by omega, by go_num, by simp, HP2⟩
        case measure => simp [intOf]; omega
    · obtain rfl : i = 12 := by omega
      have HR := Lib.hid (HN.out HP.out)
      go_wp2
      go_ret
      exact ⟨by rw [HR.out]; rfl, rfl⟩
end Go.Proofs.YtalilnnjpemmlaaDoor
