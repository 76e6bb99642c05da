/- The document's line of a run. -/
import Derived.Test.YtemdhcegelddlaaDoorSB
namespace Go.Proofs.YtemdhcegelddlaaDoor
open Go Go.RowKit
set_option linter.unusedVariables false
set_option linter.unusedSimpArgs false

set_option maxRecDepth 100000 in
set_option maxHeartbeats 2000000 in
theorem rline_10 (a : Nat) (ha : a ≤ 255) (n : Int) (hm : n ≤ 1) (w : World) : Calls Tryd.prog 40 #[.agg #[.int .i64 1, .int .i64 (a : Int)], .int .i64 n] w fun e w' => e = .returned (.string (bA ((((kwS 1 ++ [32]) ++ Lib.decDigits a)) ++ [10]))) ∧ Below w.heap.size w w' := by
  have HB0 := Lib.hid (((Below.refl w.heap.size w).alloc (Nat.le_refl _) (.cells #[.int .i64 1, .int .i64 (a : Int)] 36)).alloc (by rw [size_al]; omega) (.cells #[.string ⟨#[]⟩, .string ⟨#[115, 116, 101, 112]⟩, .string ⟨#[109, 111, 110]⟩, .string ⟨#[116, 105, 99, 107]⟩, .string ⟨#[114, 101, 116, 117, 114, 110]⟩] 9))
  have hkl := kwS_len 1
  have hda := dig_len a (by omega)
  have HN1 : Hid (∀ x, Calls Tryd.prog 28 #[.int .i64 (a : Int)] x fun e w' => e = .returned (.string (bA (Lib.decDigits a))) ∧ ∃ k, w' = x.drewN k) := fun x => number_any a (by omega) x
  have f1 : ∀ x : World, (Op.stringOp .add ⟨#[115, 116, 101, 112]⟩ ⟨#[32]⟩).run Tryd.prog x = .ok (.string (bA (kwS 1 ++ [32]))) x := add_run (kwS 1) [32] (by simp; omega)
  have f2 : ∀ x : World, (Op.stringOp .add (bA (kwS 1 ++ [32])) (bA (Lib.decDigits a))).run Tryd.prog x = .ok (.string (bA (((kwS 1 ++ [32]) ++ Lib.decDigits a)))) x := add_run _ _ (by simp; omega)
  have hl1 : (((kwS 1 ++ [32]) ++ Lib.decDigits a)).length ≤ 40 := by first | omega | (simp; omega)
  have fz : ∀ x : World, (Op.stringOp .add (bA (((kwS 1 ++ [32]) ++ Lib.decDigits a))) ⟨#[10]⟩).run Tryd.prog x = .ok (.string (bA ((((kwS 1 ++ [32]) ++ Lib.decDigits a)) ++ [10]))) x := add_run _ [10] (by first | omega | (simp; omega))
  have hm1 : ¬ (1 : Int) < n := by omega
  clear hkl hl1 hda ha hm
  generalize bA ((((kwS 1 ++ [32]) ++ Lib.decDigits a)) ++ [10]) = Z at *
  generalize bA (((kwS 1 ++ [32]) ++ Lib.decDigits a)) = A4 at *
  generalize bA (kwS 1 ++ [32]) = A3 at *
  generalize bA (Lib.decDigits a) = A2 at *
  go_enter Tryd.func40, Tryd.ntmps40
  go_wp2_with fail
  go_at_call 28
  refine (HN1.out _).mono ?_
  rintro e w1 ⟨rfl, q1, rfl⟩
  go_wp2_with fail
  go_ret
  exact ⟨rfl, HB0.out.os, HB0.out.tape, HB0.out.output, HB0.out.size, HB0.out.block⟩

set_option maxRecDepth 100000 in
set_option maxHeartbeats 2000000 in
theorem rline_11 (a : Nat) (ha : a ≤ 255) (m : Nat) (hm : 2 ≤ m ∧ m ≤ 65536) (w : World) : Calls Tryd.prog 40 #[.agg #[.int .i64 1, .int .i64 (a : Int)], .int .i64 (m : Int)] w fun e w' => e = .returned (.string (bA (((((kwS 1 ++ [32]) ++ Lib.decDigits a) ++ [32, 120, 32]) ++ Lib.decDigits m) ++ [10]))) ∧ Below w.heap.size w w' := by
  have HB0 := Lib.hid (((Below.refl w.heap.size w).alloc (Nat.le_refl _) (.cells #[.int .i64 1, .int .i64 (a : Int)] 36)).alloc (by rw [size_al]; omega) (.cells #[.string ⟨#[]⟩, .string ⟨#[115, 116, 101, 112]⟩, .string ⟨#[109, 111, 110]⟩, .string ⟨#[116, 105, 99, 107]⟩, .string ⟨#[114, 101, 116, 117, 114, 110]⟩] 9))
  have hkl := kwS_len 1
  have hda := dig_len a (by omega)
  have HN1 : Hid (∀ x, Calls Tryd.prog 28 #[.int .i64 (a : Int)] x fun e w' => e = .returned (.string (bA (Lib.decDigits a))) ∧ ∃ k, w' = x.drewN k) := fun x => number_any a (by omega) x
  have f1 : ∀ x : World, (Op.stringOp .add ⟨#[115, 116, 101, 112]⟩ ⟨#[32]⟩).run Tryd.prog x = .ok (.string (bA (kwS 1 ++ [32]))) x := add_run (kwS 1) [32] (by simp; omega)
  have f2 : ∀ x : World, (Op.stringOp .add (bA (kwS 1 ++ [32])) (bA (Lib.decDigits a))).run Tryd.prog x = .ok (.string (bA (((kwS 1 ++ [32]) ++ Lib.decDigits a)))) x := add_run _ _ (by simp; omega)
  have hl1 : (((kwS 1 ++ [32]) ++ Lib.decDigits a)).length ≤ 40 := by first | omega | (simp; omega)
  have fz : ∀ x : World, (Op.stringOp .add (bA ((((kwS 1 ++ [32]) ++ Lib.decDigits a) ++ [32, 120, 32]) ++ Lib.decDigits m)) ⟨#[10]⟩).run Tryd.prog x = .ok (.string (bA (((((kwS 1 ++ [32]) ++ Lib.decDigits a) ++ [32, 120, 32]) ++ Lib.decDigits m) ++ [10]))) x := add_run _ [10] (by have := dig_len m (by omega); simp; omega)
  have hdm := dig_len m (by omega)
  have HN2 : Hid (∀ x, Calls Tryd.prog 28 #[.int .i64 (m : Int)] x fun e w' => e = .returned (.string (bA (Lib.decDigits m))) ∧ ∃ k, w' = x.drewN k) := fun x => number_any m (by omega) x
  have f3 : ∀ x : World, (Op.stringOp .add (bA (((kwS 1 ++ [32]) ++ Lib.decDigits a))) ⟨#[32, 120, 32]⟩).run Tryd.prog x = .ok (.string (bA (((kwS 1 ++ [32]) ++ Lib.decDigits a) ++ [32, 120, 32]))) x := add_run (((kwS 1 ++ [32]) ++ Lib.decDigits a)) [32, 120, 32] (by simp; omega)
  have f4 : ∀ x : World, (Op.stringOp .add (bA (((kwS 1 ++ [32]) ++ Lib.decDigits a) ++ [32, 120, 32])) (bA (Lib.decDigits m))).run Tryd.prog x = .ok (.string (bA ((((kwS 1 ++ [32]) ++ Lib.decDigits a) ++ [32, 120, 32]) ++ Lib.decDigits m))) x := add_run _ _ (by simp; omega)
  have hm1 : (1 : Int) < (m : Int) := by omega
  clear hkl hl1 hda ha hdm hm
  generalize bA (((((kwS 1 ++ [32]) ++ Lib.decDigits a) ++ [32, 120, 32]) ++ Lib.decDigits m) ++ [10]) = Z at *
  generalize bA ((((kwS 1 ++ [32]) ++ Lib.decDigits a) ++ [32, 120, 32]) ++ Lib.decDigits m) = Y4 at *
  generalize bA (((kwS 1 ++ [32]) ++ Lib.decDigits a) ++ [32, 120, 32]) = Y3 at *
  generalize bA (Lib.decDigits m) = Y2 at *
  generalize bA (((kwS 1 ++ [32]) ++ Lib.decDigits a)) = A4 at *
  generalize bA (kwS 1 ++ [32]) = A3 at *
  generalize bA (Lib.decDigits a) = A2 at *
  go_enter Tryd.func40, Tryd.ntmps40
  go_wp2_with fail
  go_at_call 28
  refine (HN1.out _).mono ?_
  rintro e w1 ⟨rfl, q1, rfl⟩
  go_wp2_with fail
  go_at_call 28
  refine (HN2.out _).mono ?_
  rintro e w2 ⟨rfl, q2, rfl⟩
  go_wp2_with fail
  go_ret
  exact ⟨rfl, HB0.out.os, HB0.out.tape, HB0.out.output, HB0.out.size, HB0.out.block⟩

set_option maxRecDepth 100000 in
set_option maxHeartbeats 2000000 in
theorem rline_20 (n : Int) (hm : n ≤ 1) (w : World) : Calls Tryd.prog 40 #[.agg #[.int .i64 2, .int .i64 0], .int .i64 n] w fun e w' => e = .returned (.string (bA ((kwS 2) ++ [10]))) ∧ Below w.heap.size w w' := by
  have HB0 := Lib.hid (((Below.refl w.heap.size w).alloc (Nat.le_refl _) (.cells #[.int .i64 2, .int .i64 0] 36)).alloc (by rw [size_al]; omega) (.cells #[.string ⟨#[]⟩, .string ⟨#[115, 116, 101, 112]⟩, .string ⟨#[109, 111, 110]⟩, .string ⟨#[116, 105, 99, 107]⟩, .string ⟨#[114, 101, 116, 117, 114, 110]⟩] 9))
  have hkl := kwS_len 2
  have hl1 : (kwS 2).length ≤ 40 := by first | omega | (simp; omega)
  have fz : ∀ x : World, (Op.stringOp .add (bA (kwS 2)) ⟨#[10]⟩).run Tryd.prog x = .ok (.string (bA ((kwS 2) ++ [10]))) x := add_run _ [10] (by first | omega | (simp; omega))
  have hm1 : ¬ (1 : Int) < n := by omega
  change ∀ x : World, (Op.stringOp .add ⟨#[109, 111, 110]⟩ ⟨#[10]⟩).run Tryd.prog x = .ok (.string (bA ((kwS 2) ++ [10]))) x at fz
  clear hkl hl1  hm
  generalize bA ((kwS 2) ++ [10]) = Z at *
  go_enter Tryd.func40, Tryd.ntmps40
  go_wp2_with fail
  go_ret
  exact ⟨rfl, HB0.out.os, HB0.out.tape, HB0.out.output, HB0.out.size, HB0.out.block⟩

set_option maxRecDepth 100000 in
set_option maxHeartbeats 2000000 in
theorem rline_21 (m : Nat) (hm : 2 ≤ m ∧ m ≤ 65536) (w : World) : Calls Tryd.prog 40 #[.agg #[.int .i64 2, .int .i64 0], .int .i64 (m : Int)] w fun e w' => e = .returned (.string (bA (((kwS 2 ++ [32, 120, 32]) ++ Lib.decDigits m) ++ [10]))) ∧ Below w.heap.size w w' := by
  have HB0 := Lib.hid (((Below.refl w.heap.size w).alloc (Nat.le_refl _) (.cells #[.int .i64 2, .int .i64 0] 36)).alloc (by rw [size_al]; omega) (.cells #[.string ⟨#[]⟩, .string ⟨#[115, 116, 101, 112]⟩, .string ⟨#[109, 111, 110]⟩, .string ⟨#[116, 105, 99, 107]⟩, .string ⟨#[114, 101, 116, 117, 114, 110]⟩] 9))
  have hkl := kwS_len 2
  have hl1 : (kwS 2).length ≤ 40 := by first | omega | (simp; omega)
  have fz : ∀ x : World, (Op.stringOp .add (bA ((kwS 2 ++ [32, 120, 32]) ++ Lib.decDigits m)) ⟨#[10]⟩).run Tryd.prog x = .ok (.string (bA (((kwS 2 ++ [32, 120, 32]) ++ Lib.decDigits m) ++ [10]))) x := add_run _ [10] (by have := dig_len m (by omega); simp; omega)
  have hdm := dig_len m (by omega)
  have HN2 : Hid (∀ x, Calls Tryd.prog 28 #[.int .i64 (m : Int)] x fun e w' => e = .returned (.string (bA (Lib.decDigits m))) ∧ ∃ k, w' = x.drewN k) := fun x => number_any m (by omega) x
  have f3 : ∀ x : World, (Op.stringOp .add ⟨#[109, 111, 110]⟩ ⟨#[32, 120, 32]⟩).run Tryd.prog x = .ok (.string (bA (kwS 2 ++ [32, 120, 32]))) x := add_run (kwS 2) [32, 120, 32] (by simp; omega)
  have f4 : ∀ x : World, (Op.stringOp .add (bA (kwS 2 ++ [32, 120, 32])) (bA (Lib.decDigits m))).run Tryd.prog x = .ok (.string (bA ((kwS 2 ++ [32, 120, 32]) ++ Lib.decDigits m))) x := add_run _ _ (by simp; omega)
  have hm1 : (1 : Int) < (m : Int) := by omega
  clear hkl hl1  hdm hm
  generalize bA (((kwS 2 ++ [32, 120, 32]) ++ Lib.decDigits m) ++ [10]) = Z at *
  generalize bA ((kwS 2 ++ [32, 120, 32]) ++ Lib.decDigits m) = Y4 at *
  generalize bA (kwS 2 ++ [32, 120, 32]) = Y3 at *
  generalize bA (Lib.decDigits m) = Y2 at *
  go_enter Tryd.func40, Tryd.ntmps40
  go_wp2_with fail
  go_at_call 28
  refine (HN2.out _).mono ?_
  rintro e w2 ⟨rfl, q2, rfl⟩
  go_wp2_with fail
  go_ret
  exact ⟨rfl, HB0.out.os, HB0.out.tape, HB0.out.output, HB0.out.size, HB0.out.block⟩

set_option maxRecDepth 100000 in
set_option maxHeartbeats 2000000 in
theorem rline_30 (n : Int) (hm : n ≤ 1) (w : World) : Calls Tryd.prog 40 #[.agg #[.int .i64 3, .int .i64 0], .int .i64 n] w fun e w' => e = .returned (.string (bA ((kwS 3) ++ [10]))) ∧ Below w.heap.size w w' := by
  have HB0 := Lib.hid (((Below.refl w.heap.size w).alloc (Nat.le_refl _) (.cells #[.int .i64 3, .int .i64 0] 36)).alloc (by rw [size_al]; omega) (.cells #[.string ⟨#[]⟩, .string ⟨#[115, 116, 101, 112]⟩, .string ⟨#[109, 111, 110]⟩, .string ⟨#[116, 105, 99, 107]⟩, .string ⟨#[114, 101, 116, 117, 114, 110]⟩] 9))
  have hkl := kwS_len 3
  have hl1 : (kwS 3).length ≤ 40 := by first | omega | (simp; omega)
  have fz : ∀ x : World, (Op.stringOp .add (bA (kwS 3)) ⟨#[10]⟩).run Tryd.prog x = .ok (.string (bA ((kwS 3) ++ [10]))) x := add_run _ [10] (by first | omega | (simp; omega))
  have hm1 : ¬ (1 : Int) < n := by omega
  change ∀ x : World, (Op.stringOp .add ⟨#[116, 105, 99, 107]⟩ ⟨#[10]⟩).run Tryd.prog x = .ok (.string (bA ((kwS 3) ++ [10]))) x at fz
  clear hkl hl1  hm
  generalize bA ((kwS 3) ++ [10]) = Z at *
  go_enter Tryd.func40, Tryd.ntmps40
  go_wp2_with fail
  go_ret
  exact ⟨rfl, HB0.out.os, HB0.out.tape, HB0.out.output, HB0.out.size, HB0.out.block⟩

set_option maxRecDepth 100000 in
set_option maxHeartbeats 2000000 in
theorem rline_31 (m : Nat) (hm : 2 ≤ m ∧ m ≤ 65536) (w : World) : Calls Tryd.prog 40 #[.agg #[.int .i64 3, .int .i64 0], .int .i64 (m : Int)] w fun e w' => e = .returned (.string (bA (((kwS 3 ++ [32, 120, 32]) ++ Lib.decDigits m) ++ [10]))) ∧ Below w.heap.size w w' := by
  have HB0 := Lib.hid (((Below.refl w.heap.size w).alloc (Nat.le_refl _) (.cells #[.int .i64 3, .int .i64 0] 36)).alloc (by rw [size_al]; omega) (.cells #[.string ⟨#[]⟩, .string ⟨#[115, 116, 101, 112]⟩, .string ⟨#[109, 111, 110]⟩, .string ⟨#[116, 105, 99, 107]⟩, .string ⟨#[114, 101, 116, 117, 114, 110]⟩] 9))
  have hkl := kwS_len 3
  have hl1 : (kwS 3).length ≤ 40 := by first | omega | (simp; omega)
  have fz : ∀ x : World, (Op.stringOp .add (bA ((kwS 3 ++ [32, 120, 32]) ++ Lib.decDigits m)) ⟨#[10]⟩).run Tryd.prog x = .ok (.string (bA (((kwS 3 ++ [32, 120, 32]) ++ Lib.decDigits m) ++ [10]))) x := add_run _ [10] (by have := dig_len m (by omega); simp; omega)
  have hdm := dig_len m (by omega)
  have HN2 : Hid (∀ x, Calls Tryd.prog 28 #[.int .i64 (m : Int)] x fun e w' => e = .returned (.string (bA (Lib.decDigits m))) ∧ ∃ k, w' = x.drewN k) := fun x => number_any m (by omega) x
  have f3 : ∀ x : World, (Op.stringOp .add ⟨#[116, 105, 99, 107]⟩ ⟨#[32, 120, 32]⟩).run Tryd.prog x = .ok (.string (bA (kwS 3 ++ [32, 120, 32]))) x := add_run (kwS 3) [32, 120, 32] (by simp; omega)
  have f4 : ∀ x : World, (Op.stringOp .add (bA (kwS 3 ++ [32, 120, 32])) (bA (Lib.decDigits m))).run Tryd.prog x = .ok (.string (bA ((kwS 3 ++ [32, 120, 32]) ++ Lib.decDigits m))) x := add_run _ _ (by simp; omega)
  have hm1 : (1 : Int) < (m : Int) := by omega
  clear hkl hl1  hdm hm
  generalize bA (((kwS 3 ++ [32, 120, 32]) ++ Lib.decDigits m) ++ [10]) = Z at *
  generalize bA ((kwS 3 ++ [32, 120, 32]) ++ Lib.decDigits m) = Y4 at *
  generalize bA (kwS 3 ++ [32, 120, 32]) = Y3 at *
  generalize bA (Lib.decDigits m) = Y2 at *
  go_enter Tryd.func40, Tryd.ntmps40
  go_wp2_with fail
  go_at_call 28
  refine (HN2.out _).mono ?_
  rintro e w2 ⟨rfl, q2, rfl⟩
  go_wp2_with fail
  go_ret
  exact ⟨rfl, HB0.out.os, HB0.out.tape, HB0.out.output, HB0.out.size, HB0.out.block⟩

set_option maxRecDepth 100000 in
set_option maxHeartbeats 2000000 in
theorem rline_40 (a : Nat) (ha : a ≤ 255) (n : Int) (hm : n ≤ 1) (w : World) : Calls Tryd.prog 40 #[.agg #[.int .i64 4, .int .i64 (a : Int)], .int .i64 n] w fun e w' => e = .returned (.string (bA ((((kwS 4 ++ [32]) ++ Lib.decDigits a)) ++ [10]))) ∧ Below w.heap.size w w' := by
  have HB0 := Lib.hid (((Below.refl w.heap.size w).alloc (Nat.le_refl _) (.cells #[.int .i64 4, .int .i64 (a : Int)] 36)).alloc (by rw [size_al]; omega) (.cells #[.string ⟨#[]⟩, .string ⟨#[115, 116, 101, 112]⟩, .string ⟨#[109, 111, 110]⟩, .string ⟨#[116, 105, 99, 107]⟩, .string ⟨#[114, 101, 116, 117, 114, 110]⟩] 9))
  have hkl := kwS_len 4
  have hda := dig_len a (by omega)
  have HN1 : Hid (∀ x, Calls Tryd.prog 28 #[.int .i64 (a : Int)] x fun e w' => e = .returned (.string (bA (Lib.decDigits a))) ∧ ∃ k, w' = x.drewN k) := fun x => number_any a (by omega) x
  have f1 : ∀ x : World, (Op.stringOp .add ⟨#[114, 101, 116, 117, 114, 110]⟩ ⟨#[32]⟩).run Tryd.prog x = .ok (.string (bA (kwS 4 ++ [32]))) x := add_run (kwS 4) [32] (by simp; omega)
  have f2 : ∀ x : World, (Op.stringOp .add (bA (kwS 4 ++ [32])) (bA (Lib.decDigits a))).run Tryd.prog x = .ok (.string (bA (((kwS 4 ++ [32]) ++ Lib.decDigits a)))) x := add_run _ _ (by simp; omega)
  have hl1 : (((kwS 4 ++ [32]) ++ Lib.decDigits a)).length ≤ 40 := by first | omega | (simp; omega)
  have fz : ∀ x : World, (Op.stringOp .add (bA (((kwS 4 ++ [32]) ++ Lib.decDigits a))) ⟨#[10]⟩).run Tryd.prog x = .ok (.string (bA ((((kwS 4 ++ [32]) ++ Lib.decDigits a)) ++ [10]))) x := add_run _ [10] (by first | omega | (simp; omega))
  have hm1 : ¬ (1 : Int) < n := by omega
  clear hkl hl1 hda ha hm
  generalize bA ((((kwS 4 ++ [32]) ++ Lib.decDigits a)) ++ [10]) = Z at *
  generalize bA (((kwS 4 ++ [32]) ++ Lib.decDigits a)) = A4 at *
  generalize bA (kwS 4 ++ [32]) = A3 at *
  generalize bA (Lib.decDigits a) = A2 at *
  go_enter Tryd.func40, Tryd.ntmps40
  go_wp2_with fail
  go_at_call 28
  refine (HN1.out _).mono ?_
  rintro e w1 ⟨rfl, q1, rfl⟩
  go_wp2_with fail
  go_ret
  exact ⟨rfl, HB0.out.os, HB0.out.tape, HB0.out.output, HB0.out.size, HB0.out.block⟩

set_option maxRecDepth 100000 in
set_option maxHeartbeats 2000000 in
theorem rline_41 (a : Nat) (ha : a ≤ 255) (m : Nat) (hm : 2 ≤ m ∧ m ≤ 65536) (w : World) : Calls Tryd.prog 40 #[.agg #[.int .i64 4, .int .i64 (a : Int)], .int .i64 (m : Int)] w fun e w' => e = .returned (.string (bA (((((kwS 4 ++ [32]) ++ Lib.decDigits a) ++ [32, 120, 32]) ++ Lib.decDigits m) ++ [10]))) ∧ Below w.heap.size w w' := by
  have HB0 := Lib.hid (((Below.refl w.heap.size w).alloc (Nat.le_refl _) (.cells #[.int .i64 4, .int .i64 (a : Int)] 36)).alloc (by rw [size_al]; omega) (.cells #[.string ⟨#[]⟩, .string ⟨#[115, 116, 101, 112]⟩, .string ⟨#[109, 111, 110]⟩, .string ⟨#[116, 105, 99, 107]⟩, .string ⟨#[114, 101, 116, 117, 114, 110]⟩] 9))
  have hkl := kwS_len 4
  have hda := dig_len a (by omega)
  have HN1 : Hid (∀ x, Calls Tryd.prog 28 #[.int .i64 (a : Int)] x fun e w' => e = .returned (.string (bA (Lib.decDigits a))) ∧ ∃ k, w' = x.drewN k) := fun x => number_any a (by omega) x
  have f1 : ∀ x : World, (Op.stringOp .add ⟨#[114, 101, 116, 117, 114, 110]⟩ ⟨#[32]⟩).run Tryd.prog x = .ok (.string (bA (kwS 4 ++ [32]))) x := add_run (kwS 4) [32] (by simp; omega)
  have f2 : ∀ x : World, (Op.stringOp .add (bA (kwS 4 ++ [32])) (bA (Lib.decDigits a))).run Tryd.prog x = .ok (.string (bA (((kwS 4 ++ [32]) ++ Lib.decDigits a)))) x := add_run _ _ (by simp; omega)
  have hl1 : (((kwS 4 ++ [32]) ++ Lib.decDigits a)).length ≤ 40 := by first | omega | (simp; omega)
  have fz : ∀ x : World, (Op.stringOp .add (bA ((((kwS 4 ++ [32]) ++ Lib.decDigits a) ++ [32, 120, 32]) ++ Lib.decDigits m)) ⟨#[10]⟩).run Tryd.prog x = .ok (.string (bA (((((kwS 4 ++ [32]) ++ Lib.decDigits a) ++ [32, 120, 32]) ++ Lib.decDigits m) ++ [10]))) x := add_run _ [10] (by have := dig_len m (by omega); simp; omega)
  have hdm := dig_len m (by omega)
  have HN2 : Hid (∀ x, Calls Tryd.prog 28 #[.int .i64 (m : Int)] x fun e w' => e = .returned (.string (bA (Lib.decDigits m))) ∧ ∃ k, w' = x.drewN k) := fun x => number_any m (by omega) x
  have f3 : ∀ x : World, (Op.stringOp .add (bA (((kwS 4 ++ [32]) ++ Lib.decDigits a))) ⟨#[32, 120, 32]⟩).run Tryd.prog x = .ok (.string (bA (((kwS 4 ++ [32]) ++ Lib.decDigits a) ++ [32, 120, 32]))) x := add_run (((kwS 4 ++ [32]) ++ Lib.decDigits a)) [32, 120, 32] (by simp; omega)
  have f4 : ∀ x : World, (Op.stringOp .add (bA (((kwS 4 ++ [32]) ++ Lib.decDigits a) ++ [32, 120, 32])) (bA (Lib.decDigits m))).run Tryd.prog x = .ok (.string (bA ((((kwS 4 ++ [32]) ++ Lib.decDigits a) ++ [32, 120, 32]) ++ Lib.decDigits m))) x := add_run _ _ (by simp; omega)
  have hm1 : (1 : Int) < (m : Int) := by omega
  clear hkl hl1 hda ha hdm hm
  generalize bA (((((kwS 4 ++ [32]) ++ Lib.decDigits a) ++ [32, 120, 32]) ++ Lib.decDigits m) ++ [10]) = Z at *
  generalize bA ((((kwS 4 ++ [32]) ++ Lib.decDigits a) ++ [32, 120, 32]) ++ Lib.decDigits m) = Y4 at *
  generalize bA (((kwS 4 ++ [32]) ++ Lib.decDigits a) ++ [32, 120, 32]) = Y3 at *
  generalize bA (Lib.decDigits m) = Y2 at *
  generalize bA (((kwS 4 ++ [32]) ++ Lib.decDigits a)) = A4 at *
  generalize bA (kwS 4 ++ [32]) = A3 at *
  generalize bA (Lib.decDigits a) = A2 at *
  go_enter Tryd.func40, Tryd.ntmps40
  go_wp2_with fail
  go_at_call 28
  refine (HN1.out _).mono ?_
  rintro e w1 ⟨rfl, q1, rfl⟩
  go_wp2_with fail
  go_at_call 28
  refine (HN2.out _).mono ?_
  rintro e w2 ⟨rfl, q2, rfl⟩
  go_wp2_with fail
  go_ret
  exact ⟨rfl, HB0.out.os, HB0.out.tape, HB0.out.output, HB0.out.size, HB0.out.block⟩

theorem rline_any (e : En) (n : Int) (he : e.ok) (hn : n ≤ 65536) (w : World) : Calls Tryd.prog 40 #[.agg #[.int .i64 e.k, .int .i64 e.w], .int .i64 n] w fun r w' => r = .returned (.string (bA (lnR e n ++ [10]))) ∧ Below w.heap.size w w' := by
  obtain ⟨k, a⟩ := e
  obtain ⟨hk, h1, h2⟩ := he
  simp only at hk h1 h2
  obtain rfl | rfl | rfl | rfl : k = 1 ∨ k = 2 ∨ k = 3 ∨ k = 4 := by omega
  · obtain ⟨g1, g2⟩ := h1 (by omega)
    obtain ⟨a, rfl⟩ := Int.eq_ofNat_of_zero_le g1
    by_cases hm : 1 < n
    · obtain ⟨m, rfl⟩ := Int.eq_ofNat_of_zero_le (show 0 ≤ n by omega)
      have h := rline_11 a (by omega) m (by omega) w
      rw [show lnR (⟨1, (a : Int)⟩ : En) (m : Int) = (((kwS 1 ++ [32]) ++ Lib.decDigits a) ++ [32, 120, 32]) ++ Lib.decDigits m by simp [lnR, ahead, behind]; omega]
      exact h
    · have h := rline_10 a (by omega) n (by omega) w
      rw [show lnR (⟨1, (a : Int)⟩ : En) n = ((kwS 1 ++ [32]) ++ Lib.decDigits a) by simp [lnR, ahead, behind]; omega]
      exact h
  · obtain rfl : a = 0 := h2 (by omega)
    by_cases hm : 1 < n
    · obtain ⟨m, rfl⟩ := Int.eq_ofNat_of_zero_le (show 0 ≤ n by omega)
      have h := rline_21 m (by omega) w
      rw [show lnR (⟨2, 0⟩ : En) (m : Int) = (kwS 2 ++ [32, 120, 32]) ++ Lib.decDigits m by simp [lnR, ahead, behind]; omega]
      exact h
    · have h := rline_20 n (by omega) w
      rw [show lnR (⟨2, 0⟩ : En) n = kwS 2 by simp [lnR, ahead, behind]; omega]
      exact h
  · obtain rfl : a = 0 := h2 (by omega)
    by_cases hm : 1 < n
    · obtain ⟨m, rfl⟩ := Int.eq_ofNat_of_zero_le (show 0 ≤ n by omega)
      have h := rline_31 m (by omega) w
      rw [show lnR (⟨3, 0⟩ : En) (m : Int) = (kwS 3 ++ [32, 120, 32]) ++ Lib.decDigits m by simp [lnR, ahead, behind]; omega]
      exact h
    · have h := rline_30 n (by omega) w
      rw [show lnR (⟨3, 0⟩ : En) n = kwS 3 by simp [lnR, ahead, behind]; omega]
      exact h
  · obtain ⟨g1, g2⟩ := h1 (by omega)
    obtain ⟨a, rfl⟩ := Int.eq_ofNat_of_zero_le g1
    by_cases hm : 1 < n
    · obtain ⟨m, rfl⟩ := Int.eq_ofNat_of_zero_le (show 0 ≤ n by omega)
      have h := rline_41 a (by omega) m (by omega) w
      rw [show lnR (⟨4, (a : Int)⟩ : En) (m : Int) = (((kwS 4 ++ [32]) ++ Lib.decDigits a) ++ [32, 120, 32]) ++ Lib.decDigits m by simp [lnR, ahead, behind]; omega]
      exact h
    · have h := rline_40 a (by omega) n (by omega) w
      rw [show lnR (⟨4, (a : Int)⟩ : En) n = ((kwS 4 ++ [32]) ++ Lib.decDigits a) by simp [lnR, ahead, behind]; omega]
      exact h
end Go.Proofs.YtemdhcegelddlaaDoor
