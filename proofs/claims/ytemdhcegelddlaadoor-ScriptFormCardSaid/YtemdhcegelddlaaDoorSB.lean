/- A run's line. -/
import Derived.Test.YtemdhcegelddlaaDoorE1
import Derived.Test.YtemdhcegelddlaaDoorW5
namespace Go.Proofs.YtemdhcegelddlaaDoor
open Go Go.RowKit
set_option linter.unusedVariables false
set_option linter.unusedSimpArgs false

theorem kwB_eq : ∀ i, kwB i = kwS i
  | 0 => rfl
  | 1 => rfl
  | 2 => rfl
  | 3 => rfl
  | _ + 4 => rfl
theorem kwS_len (i : Nat) : (kwS i).length ≤ 6 := by
  unfold kwS
  split <;> simp
/-- the library's numeral -/
theorem itoa_any (a : Nat) (ha : a ≤ 99999) (w : World) (hT : Tab w) : Calls Tryd.prog 26 #[.int .i64 (a : Int)] w fun e w' => e = .returned (.string (bA (Lib.decDigits a))) ∧ Below w.heap.size w w' := by
  refine (strconv_Itoa (a : Int) (by omega) (by omega) w hT.p10).mono ?_
  rintro e w' ⟨rfl, k, os, rfl⟩
  refine ⟨?_, Lib.below_grow _ w (Nat.le_refl _) k os⟩
  have : Lib.itoa (a : Int) = Lib.decDigits a := by
    unfold Lib.itoa
    rw [if_neg (by omega)]
    simp
  rw [this]
  rfl

set_option maxRecDepth 100000 in
set_option maxHeartbeats 4000000 in
theorem line_00 (k : Nat) (n : Int) (hk : 1 ≤ k ∧ k ≤ 4) (hkw : ¬ (k = 1 ∨ k = 4)) (hn : n ≤ 1) (w : World) (hT : Tab w) : Calls Tryd.prog 34 #[.agg #[.int .i64 (k : Int), .int .i64 0, .int .i64 n]] w fun e w' => e = .returned (.string (bA (kwS k))) ∧ Below w.heap.size w w' := by
  have hkl := kwS_len k
  have HW : Hid (∀ x, Calls Tryd.prog 53 #[.int .i64 (k : Int)] x fun e w' => e = .returned (.bool false) ∧ x = w') := fun x => by
    have h := hasWho_any (k : Int) x
    rw [decide_eq_false (by omega)] at h
    exact h
  have kwk := hT.word k (by omega)
  rw [kwB_eq] at kwk
  change w.cell? ⟨1, k, none⟩ = some (.string (bA (kwS k))) at kwk
  have hk0 : (0 : Int) ≤ (k : Int) := by omega
  have hk5 : (k : Int) < 5 := by omega
  have HTT := Lib.hid (fun (X : World) (hb : Below w.heap.size w X) => hT.below hb hT.size)
  have hsz := hT.size
  have HB0 := Lib.hid ((Below.refl w.heap.size w).alloc (Nat.le_refl _) (.cells #[.int .i64 (k : Int), .int .i64 0, .int .i64 n] 76))
  have HCL : Hid (∀ X, Below (w.heap.size + 1) (w.alloc (.cells #[.int .i64 (k : Int), .int .i64 0, .int .i64 n] 76)) X → X.cell? ⟨w.heap.size, 0, none⟩ = some (.int .i64 (k : Int)) ∧ X.cell? ⟨w.heap.size, 1, none⟩ = some (.int .i64 0) ∧ X.cell? ⟨w.heap.size, 2, none⟩ = some (.int .i64 n)) := fun X hX => by
    have h := (hX.block w.heap.size (by omega)).trans (heap_alloc_new w (.cells #[.int .i64 (k : Int), .int .i64 0, .int .i64 n] 76))
    exact ⟨cell_blk h 0, cell_blk h 1, cell_blk h 2⟩
  have HSZ : Hid (w.heap.size + 1 ≤ (w.alloc (.cells #[.int .i64 (k : Int), .int .i64 0, .int .i64 n] 76)).heap.size) := by show _ ≤ _; rw [size_al]; omega
  have z1 : (1 : Nat) < w.heap.size := by omega

  have hl1 : (kwS k).length ≤ 40 := by omega

  have hm1 : ¬ (1 : Int) < n := by omega

  clear hkl hl1 hT hkw
  generalize bA (kwS k) = K at *
  go_enter Tryd.func34, Tryd.ntmps34
  go_wp2_with fail
  generalize (w.alloc (.cells #[.int .i64 (k : Int), .int .i64 0, .int .i64 n] 76)) = W at *
  go_at_call 53
  refine (HW.out _).mono ?_
  rintro e w1 ⟨rfl, rfl⟩
  have HX : Hid (Below (w.heap.size + 1) W W) := Below.refl _ _
  obtain ⟨c0, c1, c2⟩ := HCL.out _ HX.out

  go_wp2_with fail
  go_ret
  exact ⟨rfl, HB0.out⟩

set_option maxRecDepth 100000 in
set_option maxHeartbeats 4000000 in
theorem line_01 (k : Nat) (m : Nat) (hk : 1 ≤ k ∧ k ≤ 4) (hkw : ¬ (k = 1 ∨ k = 4)) (hm : 2 ≤ m ∧ m ≤ 65536) (w : World) (hT : Tab w) : Calls Tryd.prog 34 #[.agg #[.int .i64 (k : Int), .int .i64 0, .int .i64 (m : Int)]] w fun e w' => e = .returned (.string (bA (kwS k ++ ([32, 120, 32] ++ Lib.decDigits m)))) ∧ Below w.heap.size w w' := by
  have hkl := kwS_len k
  have HW : Hid (∀ x, Calls Tryd.prog 53 #[.int .i64 (k : Int)] x fun e w' => e = .returned (.bool false) ∧ x = w') := fun x => by
    have h := hasWho_any (k : Int) x
    rw [decide_eq_false (by omega)] at h
    exact h
  have kwk := hT.word k (by omega)
  rw [kwB_eq] at kwk
  change w.cell? ⟨1, k, none⟩ = some (.string (bA (kwS k))) at kwk
  have hk0 : (0 : Int) ≤ (k : Int) := by omega
  have hk5 : (k : Int) < 5 := by omega
  have HTT := Lib.hid (fun (X : World) (hb : Below w.heap.size w X) => hT.below hb hT.size)
  have hsz := hT.size
  have HB0 := Lib.hid ((Below.refl w.heap.size w).alloc (Nat.le_refl _) (.cells #[.int .i64 (k : Int), .int .i64 0, .int .i64 (m : Int)] 76))
  have HCL : Hid (∀ X, Below (w.heap.size + 1) (w.alloc (.cells #[.int .i64 (k : Int), .int .i64 0, .int .i64 (m : Int)] 76)) X → X.cell? ⟨w.heap.size, 0, none⟩ = some (.int .i64 (k : Int)) ∧ X.cell? ⟨w.heap.size, 1, none⟩ = some (.int .i64 0) ∧ X.cell? ⟨w.heap.size, 2, none⟩ = some (.int .i64 (m : Int))) := fun X hX => by
    have h := (hX.block w.heap.size (by omega)).trans (heap_alloc_new w (.cells #[.int .i64 (k : Int), .int .i64 0, .int .i64 (m : Int)] 76))
    exact ⟨cell_blk h 0, cell_blk h 1, cell_blk h 2⟩
  have HSZ : Hid (w.heap.size + 1 ≤ (w.alloc (.cells #[.int .i64 (k : Int), .int .i64 0, .int .i64 (m : Int)] 76)).heap.size) := by show _ ≤ _; rw [size_al]; omega
  have z1 : (1 : Nat) < w.heap.size := by omega

  have hl1 : (kwS k).length ≤ 40 := by omega

  have f3 : ∀ x : World, (Op.stringOp .add ⟨#[32, 120, 32]⟩ (bA (Lib.decDigits m))).run Tryd.prog x = .ok (.string (bA ([32, 120, 32] ++ Lib.decDigits m))) x := add_run [32, 120, 32] (Lib.decDigits m) (by have := dig_len m (by omega); simp; omega)
  have f4 : ∀ x : World, (Op.stringOp .add (bA (kwS k)) (bA ([32, 120, 32] ++ Lib.decDigits m))).run Tryd.prog x = .ok (.string (bA ((kwS k) ++ ([32, 120, 32] ++ Lib.decDigits m)))) x := add_run _ _ (by have := dig_len m (by omega); simp at hl1 ⊢; omega)
  have HI2 : Hid (∀ x, Tab x → Calls Tryd.prog 26 #[.int .i64 (m : Int)] x fun e w' => e = .returned (.string (bA (Lib.decDigits m))) ∧ Below x.heap.size x w') := fun x hx => itoa_any m (by omega) x hx
  have hm1 : (1 : Int) < (m : Int) := by omega

  clear hkl hl1 hT hkw
  generalize bA ((kwS k) ++ ([32, 120, 32] ++ Lib.decDigits m)) = Z at *
  generalize bA ([32, 120, 32] ++ Lib.decDigits m) = N2 at *
  generalize bA (Lib.decDigits m) = N1 at *
  generalize bA (kwS k) = K at *
  go_enter Tryd.func34, Tryd.ntmps34
  go_wp2_with fail
  generalize (w.alloc (.cells #[.int .i64 (k : Int), .int .i64 0, .int .i64 (m : Int)] 76)) = W at *
  go_at_call 53
  refine (HW.out _).mono ?_
  rintro e w1 ⟨rfl, rfl⟩
  have HX : Hid (Below (w.heap.size + 1) W W) := Below.refl _ _
  obtain ⟨c0, c1, c2⟩ := HCL.out _ HX.out

  go_wp2_with fail
  go_at_call 26
  refine (HI2.out _ (HTT.out _ HB0.out)).mono ?_
  rintro e w3 ⟨rfl, hb⟩
  have HB3 := Lib.hid (HB0.out.trans (hb.mono HB0.out.size))
  clear c0 c1 c2 hb

  go_wp2_with fail
  go_ret
  exact ⟨rfl, HB3.out⟩

set_option maxRecDepth 100000 in
set_option maxHeartbeats 4000000 in
theorem line_10 (k a : Nat) (n : Int) (hk : 1 ≤ k ∧ k ≤ 4) (hkw : k = 1 ∨ k = 4) (ha : a ≤ 255) (hn : n ≤ 1) (w : World) (hT : Tab w) : Calls Tryd.prog 34 #[.agg #[.int .i64 (k : Int), .int .i64 (a : Int), .int .i64 n]] w fun e w' => e = .returned (.string (bA ((kwS k ++ (32 :: Lib.decDigits a))))) ∧ Below w.heap.size w w' := by
  have hkl := kwS_len k
  have HW : Hid (∀ x, Calls Tryd.prog 53 #[.int .i64 (k : Int)] x fun e w' => e = .returned (.bool true) ∧ x = w') := fun x => by
    have h := hasWho_any (k : Int) x
    rw [decide_eq_true (by omega)] at h
    exact h
  have kwk := hT.word k (by omega)
  rw [kwB_eq] at kwk
  change w.cell? ⟨1, k, none⟩ = some (.string (bA (kwS k))) at kwk
  have hk0 : (0 : Int) ≤ (k : Int) := by omega
  have hk5 : (k : Int) < 5 := by omega
  have HTT := Lib.hid (fun (X : World) (hb : Below w.heap.size w X) => hT.below hb hT.size)
  have hsz := hT.size
  have HB0 := Lib.hid ((Below.refl w.heap.size w).alloc (Nat.le_refl _) (.cells #[.int .i64 (k : Int), .int .i64 (a : Int), .int .i64 n] 76))
  have HCL : Hid (∀ X, Below (w.heap.size + 1) (w.alloc (.cells #[.int .i64 (k : Int), .int .i64 (a : Int), .int .i64 n] 76)) X → X.cell? ⟨w.heap.size, 0, none⟩ = some (.int .i64 (k : Int)) ∧ X.cell? ⟨w.heap.size, 1, none⟩ = some (.int .i64 (a : Int)) ∧ X.cell? ⟨w.heap.size, 2, none⟩ = some (.int .i64 n)) := fun X hX => by
    have h := (hX.block w.heap.size (by omega)).trans (heap_alloc_new w (.cells #[.int .i64 (k : Int), .int .i64 (a : Int), .int .i64 n] 76))
    exact ⟨cell_blk h 0, cell_blk h 1, cell_blk h 2⟩
  have HSZ : Hid (w.heap.size + 1 ≤ (w.alloc (.cells #[.int .i64 (k : Int), .int .i64 (a : Int), .int .i64 n] 76)).heap.size) := by show _ ≤ _; rw [size_al]; omega
  have z1 : (1 : Nat) < w.heap.size := by omega

  have f1 : ∀ x : World, (Op.stringOp .add ⟨#[32]⟩ (bA (Lib.decDigits a))).run Tryd.prog x = .ok (.string (bA (32 :: Lib.decDigits a))) x := add_run [32] (Lib.decDigits a) (by have := dig_len a (by omega); simp; omega)
  have f2 : ∀ x : World, (Op.stringOp .add (bA (kwS k)) (bA (32 :: Lib.decDigits a))).run Tryd.prog x = .ok (.string (bA (kwS k ++ (32 :: Lib.decDigits a)))) x := add_run _ _ (by have := dig_len a (by omega); simp; omega)
  have HI1 : Hid (∀ x, Tab x → Calls Tryd.prog 26 #[.int .i64 (a : Int)] x fun e w' => e = .returned (.string (bA (Lib.decDigits a))) ∧ Below x.heap.size x w') := fun x hx => itoa_any a (by omega) x hx
  have hl1 : (kwS k ++ (32 :: Lib.decDigits a)).length ≤ 40 := by have := dig_len a (by omega); simp; omega

  have hm1 : ¬ (1 : Int) < n := by omega

  clear hkl hl1 hT hkw
  generalize bA (kwS k ++ (32 :: Lib.decDigits a)) = Y at *
  generalize bA (32 :: Lib.decDigits a) = A2 at *
  generalize bA (Lib.decDigits a) = A1 at *
  generalize bA (kwS k) = K at *
  go_enter Tryd.func34, Tryd.ntmps34
  go_wp2_with fail
  generalize (w.alloc (.cells #[.int .i64 (k : Int), .int .i64 (a : Int), .int .i64 n] 76)) = W at *
  go_at_call 53
  refine (HW.out _).mono ?_
  rintro e w1 ⟨rfl, rfl⟩
  have HX : Hid (Below (w.heap.size + 1) W W) := Below.refl _ _
  obtain ⟨c0, c1, c2⟩ := HCL.out _ HX.out

  go_wp2_with fail
  go_at_call 26
  refine (HI1.out _ (HTT.out _ HB0.out)).mono ?_
  rintro e w2 ⟨rfl, hb⟩
  have HB2 := Lib.hid (HB0.out.trans (hb.mono HB0.out.size))
  have HX2 : Hid (Below (w.heap.size + 1) W w2) := hb.mono HSZ.out
  clear c0 c1 c2 hb
  obtain ⟨c0, c1, c2⟩ := HCL.out _ HX2.out

  go_wp2_with fail
  go_ret
  exact ⟨rfl, HB2.out⟩

set_option maxRecDepth 100000 in
set_option maxHeartbeats 4000000 in
theorem line_11 (k a : Nat) (m : Nat) (hk : 1 ≤ k ∧ k ≤ 4) (hkw : k = 1 ∨ k = 4) (ha : a ≤ 255) (hm : 2 ≤ m ∧ m ≤ 65536) (w : World) (hT : Tab w) : Calls Tryd.prog 34 #[.agg #[.int .i64 (k : Int), .int .i64 (a : Int), .int .i64 (m : Int)]] w fun e w' => e = .returned (.string (bA ((kwS k ++ (32 :: Lib.decDigits a)) ++ ([32, 120, 32] ++ Lib.decDigits m)))) ∧ Below w.heap.size w w' := by
  have hkl := kwS_len k
  have HW : Hid (∀ x, Calls Tryd.prog 53 #[.int .i64 (k : Int)] x fun e w' => e = .returned (.bool true) ∧ x = w') := fun x => by
    have h := hasWho_any (k : Int) x
    rw [decide_eq_true (by omega)] at h
    exact h
  have kwk := hT.word k (by omega)
  rw [kwB_eq] at kwk
  change w.cell? ⟨1, k, none⟩ = some (.string (bA (kwS k))) at kwk
  have hk0 : (0 : Int) ≤ (k : Int) := by omega
  have hk5 : (k : Int) < 5 := by omega
  have HTT := Lib.hid (fun (X : World) (hb : Below w.heap.size w X) => hT.below hb hT.size)
  have hsz := hT.size
  have HB0 := Lib.hid ((Below.refl w.heap.size w).alloc (Nat.le_refl _) (.cells #[.int .i64 (k : Int), .int .i64 (a : Int), .int .i64 (m : Int)] 76))
  have HCL : Hid (∀ X, Below (w.heap.size + 1) (w.alloc (.cells #[.int .i64 (k : Int), .int .i64 (a : Int), .int .i64 (m : Int)] 76)) X → X.cell? ⟨w.heap.size, 0, none⟩ = some (.int .i64 (k : Int)) ∧ X.cell? ⟨w.heap.size, 1, none⟩ = some (.int .i64 (a : Int)) ∧ X.cell? ⟨w.heap.size, 2, none⟩ = some (.int .i64 (m : Int))) := fun X hX => by
    have h := (hX.block w.heap.size (by omega)).trans (heap_alloc_new w (.cells #[.int .i64 (k : Int), .int .i64 (a : Int), .int .i64 (m : Int)] 76))
    exact ⟨cell_blk h 0, cell_blk h 1, cell_blk h 2⟩
  have HSZ : Hid (w.heap.size + 1 ≤ (w.alloc (.cells #[.int .i64 (k : Int), .int .i64 (a : Int), .int .i64 (m : Int)] 76)).heap.size) := by show _ ≤ _; rw [size_al]; omega
  have z1 : (1 : Nat) < w.heap.size := by omega

  have f1 : ∀ x : World, (Op.stringOp .add ⟨#[32]⟩ (bA (Lib.decDigits a))).run Tryd.prog x = .ok (.string (bA (32 :: Lib.decDigits a))) x := add_run [32] (Lib.decDigits a) (by have := dig_len a (by omega); simp; omega)
  have f2 : ∀ x : World, (Op.stringOp .add (bA (kwS k)) (bA (32 :: Lib.decDigits a))).run Tryd.prog x = .ok (.string (bA (kwS k ++ (32 :: Lib.decDigits a)))) x := add_run _ _ (by have := dig_len a (by omega); simp; omega)
  have HI1 : Hid (∀ x, Tab x → Calls Tryd.prog 26 #[.int .i64 (a : Int)] x fun e w' => e = .returned (.string (bA (Lib.decDigits a))) ∧ Below x.heap.size x w') := fun x hx => itoa_any a (by omega) x hx
  have hl1 : (kwS k ++ (32 :: Lib.decDigits a)).length ≤ 40 := by have := dig_len a (by omega); simp; omega

  have f3 : ∀ x : World, (Op.stringOp .add ⟨#[32, 120, 32]⟩ (bA (Lib.decDigits m))).run Tryd.prog x = .ok (.string (bA ([32, 120, 32] ++ Lib.decDigits m))) x := add_run [32, 120, 32] (Lib.decDigits m) (by have := dig_len m (by omega); simp; omega)
  have f4 : ∀ x : World, (Op.stringOp .add (bA (kwS k ++ (32 :: Lib.decDigits a))) (bA ([32, 120, 32] ++ Lib.decDigits m))).run Tryd.prog x = .ok (.string (bA ((kwS k ++ (32 :: Lib.decDigits a)) ++ ([32, 120, 32] ++ Lib.decDigits m)))) x := add_run _ _ (by have := dig_len m (by omega); simp at hl1 ⊢; omega)
  have HI2 : Hid (∀ x, Tab x → Calls Tryd.prog 26 #[.int .i64 (m : Int)] x fun e w' => e = .returned (.string (bA (Lib.decDigits m))) ∧ Below x.heap.size x w') := fun x hx => itoa_any m (by omega) x hx
  have hm1 : (1 : Int) < (m : Int) := by omega

  clear hkl hl1 hT hkw
  generalize bA ((kwS k ++ (32 :: Lib.decDigits a)) ++ ([32, 120, 32] ++ Lib.decDigits m)) = Z at *
  generalize bA ([32, 120, 32] ++ Lib.decDigits m) = N2 at *
  generalize bA (Lib.decDigits m) = N1 at *
  generalize bA (kwS k ++ (32 :: Lib.decDigits a)) = Y at *
  generalize bA (32 :: Lib.decDigits a) = A2 at *
  generalize bA (Lib.decDigits a) = A1 at *
  generalize bA (kwS k) = K at *
  go_enter Tryd.func34, Tryd.ntmps34
  go_wp2_with fail
  generalize (w.alloc (.cells #[.int .i64 (k : Int), .int .i64 (a : Int), .int .i64 (m : Int)] 76)) = W at *
  go_at_call 53
  refine (HW.out _).mono ?_
  rintro e w1 ⟨rfl, rfl⟩
  have HX : Hid (Below (w.heap.size + 1) W W) := Below.refl _ _
  obtain ⟨c0, c1, c2⟩ := HCL.out _ HX.out

  go_wp2_with fail
  go_at_call 26
  refine (HI1.out _ (HTT.out _ HB0.out)).mono ?_
  rintro e w2 ⟨rfl, hb⟩
  have HB2 := Lib.hid (HB0.out.trans (hb.mono HB0.out.size))
  have HX2 : Hid (Below (w.heap.size + 1) W w2) := hb.mono HSZ.out
  clear c0 c1 c2 hb
  obtain ⟨c0, c1, c2⟩ := HCL.out _ HX2.out

  go_wp2_with fail
  go_at_call 26
  refine (HI2.out _ (HTT.out _ HB2.out)).mono ?_
  rintro e w3 ⟨rfl, hb⟩
  have HB3 := Lib.hid (HB2.out.trans (hb.mono HB2.out.size))
  clear c0 c1 c2 hb

  go_wp2_with fail
  go_ret
  exact ⟨rfl, HB3.out⟩

theorem line_any (e : En) (n : Int) (he : e.ok) (hn : n ≤ 65536) (w : World) (hT : Tab w) : Calls Tryd.prog 34 #[.agg #[.int .i64 e.k, .int .i64 e.w, .int .i64 n]] w fun r w' => r = .returned (.string (bA (lnR e n))) ∧ Below w.heap.size w w' := by
  obtain ⟨k, a⟩ := e
  obtain ⟨hk, h1, h2⟩ := he
  simp only at hk h1 h2
  obtain ⟨k, rfl⟩ := Int.eq_ofNat_of_zero_le (show 0 ≤ k by omega)
  by_cases hw : (k : Int) = 1 ∨ (k : Int) = 4
  · obtain ⟨g1, g2⟩ := h1 hw
    obtain ⟨a, rfl⟩ := Int.eq_ofNat_of_zero_le g1
    by_cases hm : 1 < n
    · obtain ⟨m, rfl⟩ := Int.eq_ofNat_of_zero_le (show 0 ≤ n by omega)
      have h := line_11 k a m (by omega) (by omega) (by omega) (by omega) w hT
      rw [show (kwS k ++ (32 :: Lib.decDigits a)) ++ ([32, 120, 32] ++ Lib.decDigits m) = lnR ⟨(k : Int), (a : Int)⟩ (m : Int) by simp [lnR, ahead, behind, hw, hm]] at h
      exact h
    · have h := line_10 k a n (by omega) (by omega) (by omega) (by omega) w hT
      rw [show (kwS k ++ (32 :: Lib.decDigits a)) = lnR ⟨(k : Int), (a : Int)⟩ n by simp [lnR, ahead, behind, hw, hm]] at h
      exact h
  · have ha := h2 hw
    subst ha
    by_cases hm : 1 < n
    · obtain ⟨m, rfl⟩ := Int.eq_ofNat_of_zero_le (show 0 ≤ n by omega)
      have h := line_01 k m (by omega) (by omega) (by omega) w hT
      rw [show kwS k ++ ([32, 120, 32] ++ Lib.decDigits m) = lnR ⟨(k : Int), 0⟩ (m : Int) by simp [lnR, ahead, behind, hw, hm]] at h
      exact h
    · have h := line_00 k n (by omega) (by omega) (by omega) w hT
      rw [show kwS k = lnR ⟨(k : Int), 0⟩ n by simp [lnR, ahead, behind, hw, hm]] at h
      exact h
end Go.Proofs.YtemdhcegelddlaaDoor
