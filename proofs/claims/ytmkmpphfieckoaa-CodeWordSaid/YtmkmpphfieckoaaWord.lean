/- The walk of the law CodeWord: instructions that have a word. -/
import Derived.Test.YtmkmpphfieckoaaWord2
namespace Go.Proofs.Ytmkmpphfieckoaa
open Go Go.RowKit
set_option linter.unusedVariables false
set_option linter.unusedSimpArgs false
set_option maxHeartbeats 4000000 in
set_option maxRecDepth 100000 in
theorem codeWord_a (K B V : Int) (w : World) (bV : 0 ≤ V ∧ V ≤ 18446744073709551615) (h : 0 ≤ K ∧ K ≤ 6) (hb : lo K ≤ B ∧ B ≤ hi K) (hv : lw K B ≤ V) : Calls Try.prog 8 #[.agg #[.int .i64 K, .int .i64 B], .int .u64 V] w fun e w' => e = .returned (.bool true) ∧ Below w.heap.size w w' := by
  have heq1 : ∀ w, (binOp .eql 54 (.agg #[.int .i64 K, .int .i64 B]) (.agg #[.int .i64 K, .int .i64 B])).run Try.prog w = .ok (.bool true) w := fun w => by
    have h := eq_instr w K B K B
    simpa using h
  obtain ⟨g0, g1, g2, g3, g4⟩ := lw_kd K B h hb
  have hI := fun (w : World) => instr_any (lw K B) 5000 w (by omega) (by omega) g2
  rw [g3, g4] at hI
  have HI : Hid (∀ w, Calls Try.prog 42 #[.int .u64 (lw K B), .int .i64 5000] w fun e w' => e = .returned (.tuple #[.agg #[.int .i64 K, .int .i64 B], .bool true]) ∧ Below w.heap.size w w') := hI
  obtain ⟨hb1, hb2⟩ := id hb
  clear hI g3 g4 g2
  have hb0 : Below w.heap.size w (w.alloc (.cells #[.int .i64 K, .int .i64 B] 54)) := (Below.refl _ _).alloc (Nat.le_refl _) _
  have hh0 := heap_alloc_new w (.cells #[.int .i64 K, .int .i64 B] 54)
  have HC : Hid (∀ X, Below (w.alloc (.cells #[.int .i64 K, .int .i64 B] 54)).heap.size (w.alloc (.cells #[.int .i64 K, .int .i64 B] 54)) X → X.cell? ⟨w.heap.size, 0, none⟩ = some (.int .i64 K) ∧ X.cell? ⟨w.heap.size, 1, none⟩ = some (.int .i64 B)) := fun X hX => by
    have hh := (hX.block w.heap.size (by simp)).trans hh0
    exact ⟨by simp [World.cell?, hh], by simp [World.cell?, hh]⟩
  clear hh0
  have hq : w.heap.size < (w.alloc (.cells #[.int .i64 K, .int .i64 B] 54)).heap.size := by simp
  go_enter Try.func8, Try.ntmps8
  go_wp2_with fail
  generalize hX : (w.alloc (.cells #[.int .i64 K, .int .i64 B] 54)) = X at hb0 HC hq ⊢
  clear hX
  go_at_call 45; refine (word_ok K B _ h hb).mono ?_; rintro e w1 ⟨rfl, h1⟩
  obtain ⟨c0, c1⟩ := HC.out _ h1
  obtain ⟨b1, b2, hB1⟩ := kinds K
  go_upto_if 19 with fail
  go_cut [7, 8] from 12 (fun x y wx => x = .int .i64 (lo K) ∧ y = .int .i64 b1 ∧ wx = w1)
  case first =>
    by_cases hk : K = 1
    · have hkb : (K == 1) = true := by simpa using hk
      obtain ⟨e1, e2⟩ := hB1.out.1 hk
      clear hk
      go_wp2_with fail
      all_goals
        go_meet
        case rel => exact ⟨by rw [e1], by rw [e2], rfl⟩
    · have hkb : (K == 1) = false := by simpa using hk
      obtain ⟨e1, e2⟩ := hB1.out.2.1 hk
      clear hk
      go_wp2_with fail
      all_goals
        go_meet
        case rel => exact ⟨by rw [e1], by rw [e2], rfl⟩
  case rest =>
  obtain ⟨rfl, rfl, hw⟩ := hcut
  subst hw
  go_upto_if 22 with fail
  go_cut [8] from 12 (fun y wx => y = .int .i64 b2 ∧ wx = wc)
  case first =>
    by_cases hk : K = 2
    · have hkb : (K == 2) = true := by simpa using hk
      have e1 := hB1.out.2.2.1 hk
      clear hk
      go_wp2_with fail
      all_goals
        go_meet
        case rel => exact ⟨by rw [e1], rfl⟩
    · have hkb : (K == 2) = false := by simpa using hk
      have e1 := hB1.out.2.2.2.1 hk
      clear hk
      go_wp2_with fail
      all_goals
        go_meet
        case rel => exact ⟨by rw [e1], rfl⟩
  case rest =>
  obtain ⟨rfl, hw⟩ := hcut
  subst hw
  go_upto_if 25 with fail
  go_cut [8] from 12 (fun y wx => y = .int .i64 (hi K) ∧ wx = wc)
  case first =>
    by_cases hk : K = 5
    · have hkb : (K == 5) = true := by simpa using hk
      have e1 := hB1.out.2.2.2.2.1 hk
      clear hk
      go_wp2_with fail
      all_goals
        go_meet
        case rel => exact ⟨by rw [e1], rfl⟩
    · have hkb : (K == 5) = false := by simpa using hk
      have e1 := hB1.out.2.2.2.2.2 hk
      clear hk
      go_wp2_with fail
      all_goals
        go_meet
        case rel => exact ⟨by rw [e1], rfl⟩
  case rest =>
  obtain ⟨rfl, hw⟩ := hcut
  subst hw
  clear hB1
  have hvd : decide (V < lw K B) = false := by simp; omega
  go_wp2_with fail
  go_at_call 42; refine (HI.out _).mono ?_; rintro e w2 ⟨rfl, h2⟩
  have h2 := seq' h1 h2
  have h3 := h2.alloc h2.size (.cells #[.int .i64 K, .int .i64 B] 54)
  have hh3 := heap_alloc_new w2 (.cells #[.int .i64 K, .int .i64 B] 54)
  have hq2 : w2.heap.size < (w2.alloc (.cells #[.int .i64 K, .int .i64 B] 54)).heap.size := by simp
  clear h1 h2 c0 c1
  go_wp2_with fail
  generalize hW : (w2.alloc (.cells #[.int .i64 K, .int .i64 B] 54)) = W at h3 hh3 hq2 ⊢
  generalize w2.heap.size = q2 at *
  clear hW
  have HD : Hid (∀ Y, Below W.heap.size W Y → Y.cell? ⟨q2, 0, none⟩ = some (.int .i64 K) ∧ Y.cell? ⟨q2, 1, none⟩ = some (.int .i64 B)) := fun Y hY => by
    have hh := (hY.block q2 hq2).trans hh3
    exact ⟨by simp [World.cell?, hh], by simp [World.cell?, hh]⟩
  have HC2 : Hid (∀ Y, Below W.heap.size W Y → Y.cell? ⟨w.heap.size, 0, none⟩ = some (.int .i64 K) ∧ Y.cell? ⟨w.heap.size, 1, none⟩ = some (.int .i64 B)) := fun Y hY => HC.out _ (h3.trans (hY.mono h3.size))
  have hd0 : Below W.heap.size W W.drew := (Below.refl _ _).drew
  clear hh3
  go_quiet (fail)
  have hz : Below W.heap.size W (W.drewN nq) := below_drewN2 (Below.refl _ _) nq
  go_wp2_with fail
  go_at_call 34; refine (awakeC_any _).mono ?_; rintro e z4 ⟨rfl, hz4⟩
  have hzz := seq' hz hz4
  obtain ⟨y0, y1⟩ := HD.out _ hzz
  obtain ⟨y2, y3⟩ := HC2.out _ hzz
  go_wp2_with fail
  go_ret
  exact ⟨rfl, hb0.trans ((h3.trans (hzz.mono h3.size)).mono hb0.size)⟩
set_option maxHeartbeats 4000000 in
set_option maxRecDepth 100000 in
theorem codeWord_b (K B V : Int) (w : World) (bV : 0 ≤ V ∧ V ≤ 18446744073709551615) (h : 0 ≤ K ∧ K ≤ 6) (hb : lo K ≤ B ∧ B ≤ hi K) (hv : V < lw K B) (hp : pt V = true) : Calls Try.prog 8 #[.agg #[.int .i64 K, .int .i64 B], .int .u64 V] w fun e w' => e = .returned (.bool true) ∧ Below w.heap.size w w' := by
  have heq1 : ∀ w, (binOp .eql 54 (.agg #[.int .i64 K, .int .i64 B]) (.agg #[.int .i64 K, .int .i64 B])).run Try.prog w = .ok (.bool true) w := fun w => by
    have h := eq_instr w K B K B
    simpa using h
  obtain ⟨g0, g1, g2, g3, g4⟩ := lw_kd K B h hb
  have hI := fun (w : World) => instr_any (lw K B) 5000 w (by omega) (by omega) g2
  rw [g3, g4] at hI
  have HI : Hid (∀ w, Calls Try.prog 42 #[.int .u64 (lw K B), .int .i64 5000] w fun e w' => e = .returned (.tuple #[.agg #[.int .i64 K, .int .i64 B], .bool true]) ∧ Below w.heap.size w w') := hI
  obtain ⟨hb1, hb2⟩ := id hb
  clear hI g3 g4 g2
  have hb0 : Below w.heap.size w (w.alloc (.cells #[.int .i64 K, .int .i64 B] 54)) := (Below.refl _ _).alloc (Nat.le_refl _) _
  have hh0 := heap_alloc_new w (.cells #[.int .i64 K, .int .i64 B] 54)
  have HC : Hid (∀ X, Below (w.alloc (.cells #[.int .i64 K, .int .i64 B] 54)).heap.size (w.alloc (.cells #[.int .i64 K, .int .i64 B] 54)) X → X.cell? ⟨w.heap.size, 0, none⟩ = some (.int .i64 K) ∧ X.cell? ⟨w.heap.size, 1, none⟩ = some (.int .i64 B)) := fun X hX => by
    have hh := (hX.block w.heap.size (by simp)).trans hh0
    exact ⟨by simp [World.cell?, hh], by simp [World.cell?, hh]⟩
  clear hh0
  have hq : w.heap.size < (w.alloc (.cells #[.int .i64 K, .int .i64 B] 54)).heap.size := by simp
  go_enter Try.func8, Try.ntmps8
  go_wp2_with fail
  generalize hX : (w.alloc (.cells #[.int .i64 K, .int .i64 B] 54)) = X at hb0 HC hq ⊢
  clear hX
  go_at_call 45; refine (word_ok K B _ h hb).mono ?_; rintro e w1 ⟨rfl, h1⟩
  obtain ⟨c0, c1⟩ := HC.out _ h1
  obtain ⟨b1, b2, hB1⟩ := kinds K
  go_upto_if 19 with fail
  go_cut [7, 8] from 12 (fun x y wx => x = .int .i64 (lo K) ∧ y = .int .i64 b1 ∧ wx = w1)
  case first =>
    by_cases hk : K = 1
    · have hkb : (K == 1) = true := by simpa using hk
      obtain ⟨e1, e2⟩ := hB1.out.1 hk
      clear hk
      go_wp2_with fail
      all_goals
        go_meet
        case rel => exact ⟨by rw [e1], by rw [e2], rfl⟩
    · have hkb : (K == 1) = false := by simpa using hk
      obtain ⟨e1, e2⟩ := hB1.out.2.1 hk
      clear hk
      go_wp2_with fail
      all_goals
        go_meet
        case rel => exact ⟨by rw [e1], by rw [e2], rfl⟩
  case rest =>
  obtain ⟨rfl, rfl, hw⟩ := hcut
  subst hw
  go_upto_if 22 with fail
  go_cut [8] from 12 (fun y wx => y = .int .i64 b2 ∧ wx = wc)
  case first =>
    by_cases hk : K = 2
    · have hkb : (K == 2) = true := by simpa using hk
      have e1 := hB1.out.2.2.1 hk
      clear hk
      go_wp2_with fail
      all_goals
        go_meet
        case rel => exact ⟨by rw [e1], rfl⟩
    · have hkb : (K == 2) = false := by simpa using hk
      have e1 := hB1.out.2.2.2.1 hk
      clear hk
      go_wp2_with fail
      all_goals
        go_meet
        case rel => exact ⟨by rw [e1], rfl⟩
  case rest =>
  obtain ⟨rfl, hw⟩ := hcut
  subst hw
  go_upto_if 25 with fail
  go_cut [8] from 12 (fun y wx => y = .int .i64 (hi K) ∧ wx = wc)
  case first =>
    by_cases hk : K = 5
    · have hkb : (K == 5) = true := by simpa using hk
      have e1 := hB1.out.2.2.2.2.1 hk
      clear hk
      go_wp2_with fail
      all_goals
        go_meet
        case rel => exact ⟨by rw [e1], rfl⟩
    · have hkb : (K == 5) = false := by simpa using hk
      have e1 := hB1.out.2.2.2.2.2 hk
      clear hk
      go_wp2_with fail
      all_goals
        go_meet
        case rel => exact ⟨by rw [e1], rfl⟩
  case rest =>
  obtain ⟨rfl, hw⟩ := hcut
  subst hw
  clear hB1
  have HP : Hid (∀ z, Calls Try.prog 43 #[.int .u64 V] z fun e z' => e = .returned (.bool true) ∧ z = z') := fun z => by
    have h := refParts_any V z bV
    rwa [hp] at h
  have hvd : decide (V < lw K B) = true := by simp; omega
  go_wp2_with fail
  go_at_call 42; refine (HI.out _).mono ?_; rintro e w2 ⟨rfl, h2⟩
  have h2 := seq' h1 h2
  have h3 := h2.alloc h2.size (.cells #[.int .i64 K, .int .i64 B] 54)
  have hh3 := heap_alloc_new w2 (.cells #[.int .i64 K, .int .i64 B] 54)
  have hq2 : w2.heap.size < (w2.alloc (.cells #[.int .i64 K, .int .i64 B] 54)).heap.size := by simp
  clear h1 h2 c0 c1
  go_wp2_with fail
  generalize hW : (w2.alloc (.cells #[.int .i64 K, .int .i64 B] 54)) = W at h3 hh3 hq2 ⊢
  generalize w2.heap.size = q2 at *
  clear hW
  have HD : Hid (∀ Y, Below W.heap.size W Y → Y.cell? ⟨q2, 0, none⟩ = some (.int .i64 K) ∧ Y.cell? ⟨q2, 1, none⟩ = some (.int .i64 B)) := fun Y hY => by
    have hh := (hY.block q2 hq2).trans hh3
    exact ⟨by simp [World.cell?, hh], by simp [World.cell?, hh]⟩
  have HC2 : Hid (∀ Y, Below W.heap.size W Y → Y.cell? ⟨w.heap.size, 0, none⟩ = some (.int .i64 K) ∧ Y.cell? ⟨w.heap.size, 1, none⟩ = some (.int .i64 B)) := fun Y hY => HC.out _ (h3.trans (hY.mono h3.size))
  have hd0 : Below W.heap.size W W.drew := (Below.refl _ _).drew
  clear hh3
  have HPq : Hid (∀ z, Calls Try.prog 43 #[.int .u64 V] z fun e z' => e = .returned (.bool true) ∧ z' = z) := fun z => (HP.out z).mono fun e z' h => ⟨h.1, h.2.symm⟩
  go_quiet ((go_at_call 43; exact Calls.quiet_of_same (HPq.out _)))
  have hz : Below W.heap.size W (W.drewN nq) := below_drewN2 (Below.refl _ _) nq
  go_wp2_with fail
  go_at_call 34; refine (awakeC_any _).mono ?_; rintro e z4 ⟨rfl, hz4⟩
  have hzz := seq' hz hz4
  obtain ⟨y0, y1⟩ := HD.out _ hzz
  obtain ⟨y2, y3⟩ := HC2.out _ hzz
  go_wp2_with fail
  go_ret
  exact ⟨rfl, hb0.trans ((h3.trans (hzz.mono h3.size)).mono hb0.size)⟩
set_option maxHeartbeats 4000000 in
set_option maxRecDepth 100000 in
theorem codeWord_c (K B V : Int) (w : World) (bV : 0 ≤ V ∧ V ≤ 18446744073709551615) (h : 0 ≤ K ∧ K ≤ 6) (hb : lo K ≤ B ∧ B ≤ hi K) (hv : V < lw K B) (hp : pt V = false) : Calls Try.prog 8 #[.agg #[.int .i64 K, .int .i64 B], .int .u64 V] w fun e w' => e = .returned (.bool true) ∧ Below w.heap.size w w' := by
  have heq1 : ∀ w, (binOp .eql 54 (.agg #[.int .i64 K, .int .i64 B]) (.agg #[.int .i64 K, .int .i64 B])).run Try.prog w = .ok (.bool true) w := fun w => by
    have h := eq_instr w K B K B
    simpa using h
  obtain ⟨g0, g1, g2, g3, g4⟩ := lw_kd K B h hb
  have hI := fun (w : World) => instr_any (lw K B) 5000 w (by omega) (by omega) g2
  rw [g3, g4] at hI
  have HI : Hid (∀ w, Calls Try.prog 42 #[.int .u64 (lw K B), .int .i64 5000] w fun e w' => e = .returned (.tuple #[.agg #[.int .i64 K, .int .i64 B], .bool true]) ∧ Below w.heap.size w w') := hI
  obtain ⟨hb1, hb2⟩ := id hb
  clear hI g3 g4 g2
  have hb0 : Below w.heap.size w (w.alloc (.cells #[.int .i64 K, .int .i64 B] 54)) := (Below.refl _ _).alloc (Nat.le_refl _) _
  have hh0 := heap_alloc_new w (.cells #[.int .i64 K, .int .i64 B] 54)
  have HC : Hid (∀ X, Below (w.alloc (.cells #[.int .i64 K, .int .i64 B] 54)).heap.size (w.alloc (.cells #[.int .i64 K, .int .i64 B] 54)) X → X.cell? ⟨w.heap.size, 0, none⟩ = some (.int .i64 K) ∧ X.cell? ⟨w.heap.size, 1, none⟩ = some (.int .i64 B)) := fun X hX => by
    have hh := (hX.block w.heap.size (by simp)).trans hh0
    exact ⟨by simp [World.cell?, hh], by simp [World.cell?, hh]⟩
  clear hh0
  have hq : w.heap.size < (w.alloc (.cells #[.int .i64 K, .int .i64 B] 54)).heap.size := by simp
  go_enter Try.func8, Try.ntmps8
  go_wp2_with fail
  generalize hX : (w.alloc (.cells #[.int .i64 K, .int .i64 B] 54)) = X at hb0 HC hq ⊢
  clear hX
  go_at_call 45; refine (word_ok K B _ h hb).mono ?_; rintro e w1 ⟨rfl, h1⟩
  obtain ⟨c0, c1⟩ := HC.out _ h1
  obtain ⟨b1, b2, hB1⟩ := kinds K
  go_upto_if 19 with fail
  go_cut [7, 8] from 12 (fun x y wx => x = .int .i64 (lo K) ∧ y = .int .i64 b1 ∧ wx = w1)
  case first =>
    by_cases hk : K = 1
    · have hkb : (K == 1) = true := by simpa using hk
      obtain ⟨e1, e2⟩ := hB1.out.1 hk
      clear hk
      go_wp2_with fail
      all_goals
        go_meet
        case rel => exact ⟨by rw [e1], by rw [e2], rfl⟩
    · have hkb : (K == 1) = false := by simpa using hk
      obtain ⟨e1, e2⟩ := hB1.out.2.1 hk
      clear hk
      go_wp2_with fail
      all_goals
        go_meet
        case rel => exact ⟨by rw [e1], by rw [e2], rfl⟩
  case rest =>
  obtain ⟨rfl, rfl, hw⟩ := hcut
  subst hw
  go_upto_if 22 with fail
  go_cut [8] from 12 (fun y wx => y = .int .i64 b2 ∧ wx = wc)
  case first =>
    by_cases hk : K = 2
    · have hkb : (K == 2) = true := by simpa using hk
      have e1 := hB1.out.2.2.1 hk
      clear hk
      go_wp2_with fail
      all_goals
        go_meet
        case rel => exact ⟨by rw [e1], rfl⟩
    · have hkb : (K == 2) = false := by simpa using hk
      have e1 := hB1.out.2.2.2.1 hk
      clear hk
      go_wp2_with fail
      all_goals
        go_meet
        case rel => exact ⟨by rw [e1], rfl⟩
  case rest =>
  obtain ⟨rfl, hw⟩ := hcut
  subst hw
  go_upto_if 25 with fail
  go_cut [8] from 12 (fun y wx => y = .int .i64 (hi K) ∧ wx = wc)
  case first =>
    by_cases hk : K = 5
    · have hkb : (K == 5) = true := by simpa using hk
      have e1 := hB1.out.2.2.2.2.1 hk
      clear hk
      go_wp2_with fail
      all_goals
        go_meet
        case rel => exact ⟨by rw [e1], rfl⟩
    · have hkb : (K == 5) = false := by simpa using hk
      have e1 := hB1.out.2.2.2.2.2 hk
      clear hk
      go_wp2_with fail
      all_goals
        go_meet
        case rel => exact ⟨by rw [e1], rfl⟩
  case rest =>
  obtain ⟨rfl, hw⟩ := hcut
  subst hw
  clear hB1
  have HP : Hid (∀ z, Calls Try.prog 43 #[.int .u64 V] z fun e z' => e = .returned (.bool false) ∧ z = z') := fun z => by
    have h := refParts_any V z bV
    rwa [hp] at h
  have hvd : decide (V < lw K B) = true := by simp; omega
  have hless := lw_least K B V h hb bV.1 hv
  have HR : Hid (∀ w, Calls Try.prog 44 #[.int .u64 V, .int .i64 5000] w fun e w' => e = .returned (.agg #[.int .i64 (kd V), .int .i64 (ag V 5000)]) ∧ Below w.heap.size w w') := fun w => refInstr_any V 5000 w bV (by omega)
  have heq2 : ∀ w, (binOp .eql 54 (.agg #[.int .i64 (kd V), .int .i64 (ag V 5000)]) (.agg #[.int .i64 K, .int .i64 B])).run Try.prog w = .ok (.bool false) w := fun w => by
    have h := eq_instr w (kd V) (ag V 5000) K B
    rwa [hless] at h
  clear hless
  generalize kd V = k' at *
  generalize ag V 5000 = a' at *
  go_wp2_with fail
  go_at_call 42; refine (HI.out _).mono ?_; rintro e w2 ⟨rfl, h2⟩
  have h2 := seq' h1 h2
  have h3 := h2.alloc h2.size (.cells #[.int .i64 K, .int .i64 B] 54)
  have hh3 := heap_alloc_new w2 (.cells #[.int .i64 K, .int .i64 B] 54)
  have hq2 : w2.heap.size < (w2.alloc (.cells #[.int .i64 K, .int .i64 B] 54)).heap.size := by simp
  clear h1 h2 c0 c1
  go_wp2_with fail
  generalize hW : (w2.alloc (.cells #[.int .i64 K, .int .i64 B] 54)) = W at h3 hh3 hq2 ⊢
  generalize w2.heap.size = q2 at *
  clear hW
  have HD : Hid (∀ Y, Below W.heap.size W Y → Y.cell? ⟨q2, 0, none⟩ = some (.int .i64 K) ∧ Y.cell? ⟨q2, 1, none⟩ = some (.int .i64 B)) := fun Y hY => by
    have hh := (hY.block q2 hq2).trans hh3
    exact ⟨by simp [World.cell?, hh], by simp [World.cell?, hh]⟩
  have HC2 : Hid (∀ Y, Below W.heap.size W Y → Y.cell? ⟨w.heap.size, 0, none⟩ = some (.int .i64 K) ∧ Y.cell? ⟨w.heap.size, 1, none⟩ = some (.int .i64 B)) := fun Y hY => HC.out _ (h3.trans (hY.mono h3.size))
  have hd0 : Below W.heap.size W W.drew := (Below.refl _ _).drew
  clear hh3
  have hH : Hid (W.drew.cell? ⟨w.heap.size, 0, none⟩ = some (.int .i64 K) ∧ W.drew.cell? ⟨w.heap.size, 1, none⟩ = some (.int .i64 B) ∧ Below W.heap.size W W.drew) := ⟨(HC2.out _ hd0).1, (HC2.out _ hd0).2, hd0⟩
  have KEEP : Hid (∀ Y w' : World, (Y.cell? ⟨w.heap.size, 0, none⟩ = some (.int .i64 K) ∧ Y.cell? ⟨w.heap.size, 1, none⟩ = some (.int .i64 B) ∧ Below W.heap.size W Y) → Below Y.heap.size Y w' → (w'.cell? ⟨w.heap.size, 0, none⟩ = some (.int .i64 K) ∧ w'.cell? ⟨w.heap.size, 1, none⟩ = some (.int .i64 B) ∧ Below W.heap.size W w')) := by
    show ∀ _ _, _
    rintro Y w' ⟨e1, e2, hb⟩ hB
    have h' := hb.trans (hB.mono hb.size)
    exact ⟨(HC2.out _ h').1, (HC2.out _ h').2, h'⟩
  go_region_held3 (fun w' => w'.cell? ⟨w.heap.size, 0, none⟩ = some (.int .i64 K) ∧ w'.cell? ⟨w.heap.size, 1, none⟩ = some (.int .i64 B) ∧ Below W.heap.size W w') (first | exact hH | assumption | exact KEEP.out _ _ ‹_› ‹_›) (first | (go_at_call 43; refine (HP.out _).mono ?_; rintro e z1 ⟨rfl, rfl⟩) | (go_at_call 44; refine (HR.out _).mono ?_; rintro e z2 ⟨rfl, hz2⟩))
  rename_i hS
  have hz := hS.2.2
  clear hS
  go_wp2_with fail
  go_at_call 34; refine (awakeC_any _).mono ?_; rintro e z4 ⟨rfl, hz4⟩
  have hzz := seq' hz hz4
  obtain ⟨y0, y1⟩ := HD.out _ hzz
  obtain ⟨y2, y3⟩ := HC2.out _ hzz
  go_wp2_with fail
  go_ret
  exact ⟨rfl, hb0.trans ((h3.trans (hzz.mono h3.size)).mono hb0.size)⟩
theorem codeWord_walk (K B V : Int) (w : World) (bK : -9223372036854775808 ≤ K ∧ K ≤ 9223372036854775807) (bB : -9223372036854775808 ≤ B ∧ B ≤ 9223372036854775807) (bV : 0 ≤ V ∧ V ≤ 18446744073709551615) : Calls Try.prog 8 #[.agg #[.int .i64 K, .int .i64 B], .int .u64 V] w fun e w' => e = .returned (.bool true) ∧ Below w.heap.size w w' := by
  by_cases h : 0 ≤ K ∧ K ≤ 6
  · by_cases hb : lo K ≤ B ∧ B ≤ hi K
    · by_cases hv : lw K B ≤ V
      · exact codeWord_a K B V w bV h hb hv
      · by_cases hp : pt V = true
        · exact codeWord_b K B V w bV h hb (by omega) hp
        · exact codeWord_c K B V w bV h hb (by omega) (by simpa using hp)
    · exact codeWord_range K B V w bV h (by omega)
  · exact codeWord_bad K B V w bV (by omega)
end Go.Proofs.Ytmkmpphfieckoaa
