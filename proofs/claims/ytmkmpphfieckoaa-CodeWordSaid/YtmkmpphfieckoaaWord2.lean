/- The walk of the law CodeWord. -/
import Derived.Test.YtmkmpphfieckoaaWord1
import Derived.Deep.Cut
import Derived.Deep.RegionWith
namespace Go.Proofs.Ytmkmpphfieckoaa
open Go Go.RowKit
set_option linter.unusedVariables false
set_option linter.unusedSimpArgs false

theorem seq' {w w1 w2 : World} (h1 : Below w.heap.size w w1) (h2 : Below w1.heap.size w1 w2) : Below w.heap.size w w2 := h1.trans (h2.mono h1.size)
theorem kinds (K : Int) : ∃ b1 b2 : Int, Hid ((K = 1 → lo K = 1 ∧ b1 = 16) ∧ (K ≠ 1 → lo K = 0 ∧ b1 = 0) ∧ (K = 2 → b2 = 4096) ∧ (K ≠ 2 → b2 = b1) ∧ (K = 5 → hi K = 65535) ∧ (K ≠ 5 → hi K = b2)) := by
  refine ⟨if K = 1 then 16 else 0, if K = 2 then 4096 else if K = 1 then 16 else 0, ?_⟩
  refine ⟨fun h => ?_, fun h => ?_, fun h => ?_, fun h => ?_, fun h => ?_, fun h => ?_⟩
  · exact ⟨by unfold lo; rw [if_pos h], by rw [if_pos h]⟩
  · exact ⟨by unfold lo; rw [if_neg h], by rw [if_neg h]⟩
  · rw [if_pos h]
  · rw [if_neg h]
  · unfold hi; rw [if_neg (by omega), if_neg (by omega), if_pos h]
  · unfold hi
    rw [if_neg h]
    by_cases h1 : K = 1
    · rw [if_pos h1, if_neg (by omega), if_pos h1]
    · rw [if_neg h1, if_neg h1]
set_option maxHeartbeats 4000000 in
set_option maxRecDepth 100000 in
theorem codeWord_bad (K B V : Int) (w : World) (bV : 0 ≤ V ∧ V ≤ 18446744073709551615) (h : K < 0 ∨ 6 < K) : Calls Try.prog 8 #[.agg #[.int .i64 K, .int .i64 B], .int .u64 V] w fun e w' => e = .returned (.bool true) ∧ Below w.heap.size w w' := by
  have heq := eq_instr
  have hb0 : Below w.heap.size w (w.alloc (.cells #[.int .i64 K, .int .i64 B] 54)) := (Below.refl _ _).alloc (Nat.le_refl _) _
  have hh0 := heap_alloc_new w (.cells #[.int .i64 K, .int .i64 B] 54)
  have HC : Hid (∀ X, Below (w.alloc (.cells #[.int .i64 K, .int .i64 B] 54)).heap.size (w.alloc (.cells #[.int .i64 K, .int .i64 B] 54)) X → X.cell? ⟨w.heap.size, 0, none⟩ = some (.int .i64 K) ∧ X.cell? ⟨w.heap.size, 1, none⟩ = some (.int .i64 B)) := fun X hX => by
    have hh := (hX.block w.heap.size (by simp)).trans hh0
    exact ⟨by simp [World.cell?, hh], by simp [World.cell?, hh]⟩
  clear hh0
  have hq : w.heap.size < (w.alloc (.cells #[.int .i64 K, .int .i64 B] 54)).heap.size := by simp
  go_enter Try.func8, Try.ntmps8
  go_wp2_with fail
  generalize hX : (w.alloc (.cells #[.int .i64 K, .int .i64 B] 54)) = X at hb0 HC hq ⊢
  clear hX
  go_at_call 45; refine (word_bad K B _ h).mono ?_; rintro e w1 ⟨rfl, h1⟩
  obtain ⟨c0, c1⟩ := HC.out _ h1
  obtain ⟨b1, b2, hB1⟩ := kinds K
  go_upto_if 19 with fail
  go_cut [7, 8] from 12 (fun x y wx => x = .int .i64 (lo K) ∧ y = .int .i64 b1 ∧ wx = w1)
  case first =>
    by_cases hk : K = 1
    · have hkb : (K == 1) = true := by simpa using hk
      obtain ⟨e1, e2⟩ := hB1.out.1 hk
      clear hk
      go_wp2_with fail
      all_goals
        go_meet
        case rel => exact ⟨by rw [e1], by rw [e2], rfl⟩
    · have hkb : (K == 1) = false := by simpa using hk
      obtain ⟨e1, e2⟩ := hB1.out.2.1 hk
      clear hk
      go_wp2_with fail
      all_goals
        go_meet
        case rel => exact ⟨by rw [e1], by rw [e2], rfl⟩
  case rest =>
  obtain ⟨rfl, rfl, hw⟩ := hcut
  subst hw
  go_upto_if 22 with fail
  go_cut [8] from 12 (fun y wx => y = .int .i64 b2 ∧ wx = wc)
  case first =>
    by_cases hk : K = 2
    · have hkb : (K == 2) = true := by simpa using hk
      have e1 := hB1.out.2.2.1 hk
      clear hk
      go_wp2_with fail
      all_goals
        go_meet
        case rel => exact ⟨by rw [e1], rfl⟩
    · have hkb : (K == 2) = false := by simpa using hk
      have e1 := hB1.out.2.2.2.1 hk
      clear hk
      go_wp2_with fail
      all_goals
        go_meet
        case rel => exact ⟨by rw [e1], rfl⟩
  case rest =>
  obtain ⟨rfl, hw⟩ := hcut
  subst hw
  go_upto_if 25 with fail
  go_cut [8] from 12 (fun y wx => y = .int .i64 (hi K) ∧ wx = wc)
  case first =>
    by_cases hk : K = 5
    · have hkb : (K == 5) = true := by simpa using hk
      have e1 := hB1.out.2.2.2.2.1 hk
      clear hk
      go_wp2_with fail
      all_goals
        go_meet
        case rel => exact ⟨by rw [e1], rfl⟩
    · have hkb : (K == 5) = false := by simpa using hk
      have e1 := hB1.out.2.2.2.2.2 hk
      clear hk
      go_wp2_with fail
      all_goals
        go_meet
        case rel => exact ⟨by rw [e1], rfl⟩
  case rest =>
  obtain ⟨rfl, hw⟩ := hcut
  subst hw
  clear hB1
  go_wp2_with fail
  all_goals
    first
    | (exfalso; omega)
    | skip
  all_goals
    go_at_call 34; refine (awakeC_any _).mono ?_; rintro e w2 ⟨rfl, h2⟩
    have h2 := hb0.trans ((seq' h1 h2).mono hb0.size)
    go_wp2_with fail
    go_ret
    exact ⟨rfl, h2⟩

set_option maxHeartbeats 4000000 in
set_option maxRecDepth 100000 in
theorem codeWord_range (K B V : Int) (w : World) (bV : 0 ≤ V ∧ V ≤ 18446744073709551615) (h : 0 ≤ K ∧ K ≤ 6) (hb : B < lo K ∨ hi K < B) : Calls Try.prog 8 #[.agg #[.int .i64 K, .int .i64 B], .int .u64 V] w fun e w' => e = .returned (.bool true) ∧ Below w.heap.size w w' := by
  obtain ⟨k1, k2⟩ := id h
  have heq := eq_instr
  have hb0 : Below w.heap.size w (w.alloc (.cells #[.int .i64 K, .int .i64 B] 54)) := (Below.refl _ _).alloc (Nat.le_refl _) _
  have hh0 := heap_alloc_new w (.cells #[.int .i64 K, .int .i64 B] 54)
  have HC : Hid (∀ X, Below (w.alloc (.cells #[.int .i64 K, .int .i64 B] 54)).heap.size (w.alloc (.cells #[.int .i64 K, .int .i64 B] 54)) X → X.cell? ⟨w.heap.size, 0, none⟩ = some (.int .i64 K) ∧ X.cell? ⟨w.heap.size, 1, none⟩ = some (.int .i64 B)) := fun X hX => by
    have hh := (hX.block w.heap.size (by simp)).trans hh0
    exact ⟨by simp [World.cell?, hh], by simp [World.cell?, hh]⟩
  clear hh0
  have hq : w.heap.size < (w.alloc (.cells #[.int .i64 K, .int .i64 B] 54)).heap.size := by simp
  go_enter Try.func8, Try.ntmps8
  go_wp2_with fail
  generalize hX : (w.alloc (.cells #[.int .i64 K, .int .i64 B] 54)) = X at hb0 HC hq ⊢
  clear hX
  go_at_call 45; refine (word_range K B _ h hb).mono ?_; rintro e w1 ⟨rfl, h1⟩
  obtain ⟨c0, c1⟩ := HC.out _ h1
  obtain ⟨b1, b2, hB1⟩ := kinds K
  go_upto_if 19 with fail
  go_cut [7, 8] from 12 (fun x y wx => x = .int .i64 (lo K) ∧ y = .int .i64 b1 ∧ wx = w1)
  case first =>
    by_cases hk : K = 1
    · have hkb : (K == 1) = true := by simpa using hk
      obtain ⟨e1, e2⟩ := hB1.out.1 hk
      clear hk
      go_wp2_with fail
      all_goals
        go_meet
        case rel => exact ⟨by rw [e1], by rw [e2], rfl⟩
    · have hkb : (K == 1) = false := by simpa using hk
      obtain ⟨e1, e2⟩ := hB1.out.2.1 hk
      clear hk
      go_wp2_with fail
      all_goals
        go_meet
        case rel => exact ⟨by rw [e1], by rw [e2], rfl⟩
  case rest =>
  obtain ⟨rfl, rfl, hw⟩ := hcut
  subst hw
  go_upto_if 22 with fail
  go_cut [8] from 12 (fun y wx => y = .int .i64 b2 ∧ wx = wc)
  case first =>
    by_cases hk : K = 2
    · have hkb : (K == 2) = true := by simpa using hk
      have e1 := hB1.out.2.2.1 hk
      clear hk
      go_wp2_with fail
      all_goals
        go_meet
        case rel => exact ⟨by rw [e1], rfl⟩
    · have hkb : (K == 2) = false := by simpa using hk
      have e1 := hB1.out.2.2.2.1 hk
      clear hk
      go_wp2_with fail
      all_goals
        go_meet
        case rel => exact ⟨by rw [e1], rfl⟩
  case rest =>
  obtain ⟨rfl, hw⟩ := hcut
  subst hw
  go_upto_if 25 with fail
  go_cut [8] from 12 (fun y wx => y = .int .i64 (hi K) ∧ wx = wc)
  case first =>
    by_cases hk : K = 5
    · have hkb : (K == 5) = true := by simpa using hk
      have e1 := hB1.out.2.2.2.2.1 hk
      clear hk
      go_wp2_with fail
      all_goals
        go_meet
        case rel => exact ⟨by rw [e1], rfl⟩
    · have hkb : (K == 5) = false := by simpa using hk
      have e1 := hB1.out.2.2.2.2.2 hk
      clear hk
      go_wp2_with fail
      all_goals
        go_meet
        case rel => exact ⟨by rw [e1], rfl⟩
  case rest =>
  obtain ⟨rfl, hw⟩ := hcut
  subst hw
  clear hB1
  go_wp2_with fail
  all_goals
    first
    | (exfalso; omega)
    | skip
  all_goals
    go_at_call 34; refine (awakeC_any _).mono ?_; rintro e w2 ⟨rfl, h2⟩
    have h2 := hb0.trans ((seq' h1 h2).mono hb0.size)
    go_wp2_with fail
    go_ret
    exact ⟨rfl, h2⟩

end Go.Proofs.Ytmkmpphfieckoaa
