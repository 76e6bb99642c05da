/- script.Instr: the line of an instruction that has a word, none of another. -/
import Derived.Test.YtemdhcegelddlaaDoorW3
import Derived.Lib.AppendIntMem
namespace Go.Proofs.YtemdhcegelddlaaDoor
open Go Go.RowKit
set_option linter.unusedVariables false
set_option linter.unusedSimpArgs false

theorem Tab.size {w : World} (h : Tab w) : 3 < w.heap.size := by
  have e := h.p10
  unfold Lib.TabIs World.var? at e
  rw [gPow] at e
  simp only [Option.bind_some] at e
  rcases Nat.lt_or_ge 3 w.heap.size with h' | h'
  · exact h'
  · rw [Array.getElem?_eq_none h'] at e
    simp at e

/-- the library's numeral of a number that is not negative -/
theorem itoa_any (a : Nat) (ha : a ≤ 65535) (w : World) (hT : Tab w) : Calls Tryd.prog 26 #[.int .i64 (a : Int)] w fun e w' => e = .returned (.string (dB a)) ∧ Below w.heap.size w w' := by
  refine (strconv_Itoa (a : Int) (by omega) (by omega) w hT.p10).mono ?_
  rintro e w' ⟨rfl, k, os, rfl⟩
  refine ⟨?_, Lib.below_grow _ w (Nat.le_refl _) k os⟩
  have : Lib.itoa (a : Int) = Lib.decDigits a := by
    unfold Lib.itoa
    rw [if_neg (by omega)]
    simp
  rw [this]
  rfl

theorem instr_bad (k a : Int) (hn : ¬ okI k a) (w : World) : Calls Tryd.prog 9 #[.agg #[.int .i64 k, .int .i64 a]] w fun e w' => e = .returned (.tuple #[.string ⟨#[]⟩, .bool false]) ∧ Below w.heap.size w w' := by
  have HW : Hid (∀ w, Calls Tryd.prog 10 #[.agg #[.int .i64 k, .int .i64 a]] w fun e w' => (∃ (u : Value) (c : Int), e = .returned (.tuple #[u, .int .i64 c]) ∧ ((c == (0 : Int)) = decide (okI k a))) ∧ Below w.heap.size w w') := word_any k a
  have HN : Hid (decide (okI k a) = false) := by show _ = _; simp [hn]
  clear hn
  go_enter Tryd.func9, Tryd.ntmps9
  go_wp2_with fail
  go_at_call 10
  refine (HW.out _).mono ?_
  rintro e w1 ⟨⟨u, c, rfl, hc⟩, hb1⟩
  have hc0 : (c == (0 : Int)) = false := hc.trans HN.out
  clear hc
  go_wp2
  go_ret2
  exact ⟨rfl, ((Below.refl _ w).alloc (Nat.le_refl _) _).trans (hb1.mono (by simp))⟩

theorem instr_0 (a : Nat) (ha : a ≤ 65535) (hk : okI 0 (a : Int)) (w : World) (hT : Tab w) : Calls Tryd.prog 9 #[.agg #[.int .i64 0, .int .i64 (a : Int)]] w fun e w' => e = .returned (.tuple #[.string (lineI 0 a), .bool true]) ∧ Below w.heap.size w w' := by
  have HW : Hid (∀ w, Calls Tryd.prog 10 #[.agg #[.int .i64 0, .int .i64 (a : Int)]] w fun e w' => (∃ (u : Value) (c : Int), e = .returned (.tuple #[u, .int .i64 c]) ∧ ((c == (0 : Int)) = decide (okI 0 (a : Int)))) ∧ Below w.heap.size w w') := word_any 0 (a : Int)
  have HN : Hid (decide (okI 0 (a : Int)) = true) := by show _ = _; simp [hk]
  clear hk
  have hsz := hT.size
  have HT : Hid (Tab w) := hT
  clear hT
  have HA : Hid (∀ w, Calls Tryd.prog 25 #[.int .i64 0] w fun e w' => e = .returned (.bool (decide ((0 : Int) = 1 ∨ (0 : Int) = 2 ∨ (0 : Int) = 5))) ∧ w = w') := hasArg_any 0
  go_enter Tryd.func9, Tryd.ntmps9
  go_wp2_with fail
  go_at_call 10
  have c0 : (w.alloc (.cells #[.int .i64 0, .int .i64 (a : Int)] 23)).cell? ⟨w.heap.size, 0, none⟩ = some (.int .i64 0) := by simp
  have c1 : (w.alloc (.cells #[.int .i64 0, .int .i64 (a : Int)] 23)).cell? ⟨w.heap.size, 1, none⟩ = some (.int .i64 (a : Int)) := by simp
  have B0 : Below w.heap.size w (w.alloc (.cells #[.int .i64 0, .int .i64 (a : Int)] 23)) := (Below.refl _ w).alloc (Nat.le_refl _) _
  have hs0 : (w.alloc (.cells #[.int .i64 0, .int .i64 (a : Int)] 23)).heap.size = w.heap.size + 1 := by simp
  generalize w.alloc (.cells #[.int .i64 0, .int .i64 (a : Int)] 23) = W at *
  refine (HW.out _).mono ?_
  rintro e w1 ⟨⟨u, c, rfl, hc⟩, hb1⟩
  have hc0 : (c == (0 : Int)) = true := hc.trans HN.out
  clear hc
  have d0 : w1.cell? ⟨w.heap.size, 0, none⟩ = some (.int .i64 0) := (hb1.cell (by show w.heap.size < _; omega)).trans c0
  have d1 : w1.cell? ⟨w.heap.size, 1, none⟩ = some (.int .i64 (a : Int)) := (hb1.cell (by show w.heap.size < _; omega)).trans c1
  have B1 : Below w.heap.size w w1 := B0.trans (hb1.mono (by omega))
  have T1 : Tab w1 := HT.out.below B1 hsz
  have t0 := T1.i0
  have hs1 : w.heap.size < w1.heap.size := by have := hb1.size; omega
  clear c0 c1 B0 hs0 hb1
  clear W
  go_wp2_with fail
  go_at_call 25
  refine (HA.out _).mono ?_
  rintro e w2 ⟨rfl, rfl⟩
  go_wp2
  go_ret2
  exact ⟨rfl, B1⟩

theorem instr_1 (a : Nat) (ha : a ≤ 65535) (hk : okI 1 (a : Int)) (w : World) (hT : Tab w) : Calls Tryd.prog 9 #[.agg #[.int .i64 1, .int .i64 (a : Int)]] w fun e w' => e = .returned (.tuple #[.string (lineI 1 a), .bool true]) ∧ Below w.heap.size w w' := by
  have HW : Hid (∀ w, Calls Tryd.prog 10 #[.agg #[.int .i64 1, .int .i64 (a : Int)]] w fun e w' => (∃ (u : Value) (c : Int), e = .returned (.tuple #[u, .int .i64 c]) ∧ ((c == (0 : Int)) = decide (okI 1 (a : Int)))) ∧ Below w.heap.size w w') := word_any 1 (a : Int)
  have HN : Hid (decide (okI 1 (a : Int)) = true) := by show _ = _; simp [hk]
  clear hk
  have hsz := hT.size
  have HT : Hid (Tab w) := hT
  clear hT
  have HA : Hid (∀ w, Calls Tryd.prog 25 #[.int .i64 1] w fun e w' => e = .returned (.bool (decide ((1 : Int) = 1 ∨ (1 : Int) = 2 ∨ (1 : Int) = 5))) ∧ w = w') := hasArg_any 1
  go_enter Tryd.func9, Tryd.ntmps9
  go_wp2_with fail
  go_at_call 10
  have c0 : (w.alloc (.cells #[.int .i64 1, .int .i64 (a : Int)] 23)).cell? ⟨w.heap.size, 0, none⟩ = some (.int .i64 1) := by simp
  have c1 : (w.alloc (.cells #[.int .i64 1, .int .i64 (a : Int)] 23)).cell? ⟨w.heap.size, 1, none⟩ = some (.int .i64 (a : Int)) := by simp
  have B0 : Below w.heap.size w (w.alloc (.cells #[.int .i64 1, .int .i64 (a : Int)] 23)) := (Below.refl _ w).alloc (Nat.le_refl _) _
  have hs0 : (w.alloc (.cells #[.int .i64 1, .int .i64 (a : Int)] 23)).heap.size = w.heap.size + 1 := by simp
  generalize w.alloc (.cells #[.int .i64 1, .int .i64 (a : Int)] 23) = W at *
  refine (HW.out _).mono ?_
  rintro e w1 ⟨⟨u, c, rfl, hc⟩, hb1⟩
  have hc0 : (c == (0 : Int)) = true := hc.trans HN.out
  clear hc
  have d0 : w1.cell? ⟨w.heap.size, 0, none⟩ = some (.int .i64 1) := (hb1.cell (by show w.heap.size < _; omega)).trans c0
  have d1 : w1.cell? ⟨w.heap.size, 1, none⟩ = some (.int .i64 (a : Int)) := (hb1.cell (by show w.heap.size < _; omega)).trans c1
  have B1 : Below w.heap.size w w1 := B0.trans (hb1.mono (by omega))
  have T1 : Tab w1 := HT.out.below B1 hsz
  have t0 := T1.i1
  have hs1 : w.heap.size < w1.heap.size := by have := hb1.size; omega
  clear c0 c1 B0 hs0 hb1
  clear W
  go_wp2_with fail
  go_at_call 25
  refine (HA.out _).mono ?_
  rintro e w2 ⟨rfl, rfl⟩
  have HT1 : Hid (∀ x : World, Below w1.heap.size w1 x → Tab x) := fun x hx => T1.below (hx.mono (Nat.le_refl _)) (by omega)
  have HI : Hid (∀ x : World, Below w1.heap.size w1 x → Calls Tryd.prog 26 #[.int .i64 (a : Int)] x fun e w' => e = .returned (.string (dB a)) ∧ Below x.heap.size x w') := fun x hx => itoa_any a ha x (HT1.out x hx)
  have hS0 := dB_size a (by omega)
  have hS : ¬ (9223372036854775807 < ((⟨#[99, 111, 109, 112, 117, 116, 101]⟩ : ByteArray) ++ ⟨#[32]⟩).size + (dB a).size) := by
    have : ((⟨#[99, 111, 109, 112, 117, 116, 101]⟩ : ByteArray) ++ ⟨#[32]⟩).size ≤ 8 := by decide +kernel
    omega
  have hadd : ∀ x : World, (Op.stringOp .add ((⟨#[99, 111, 109, 112, 117, 116, 101]⟩ : ByteArray) ++ ⟨#[32]⟩) (dB a)).run Tryd.prog x = .ok (.string (((⟨#[99, 111, 109, 112, 117, 116, 101]⟩ : ByteArray) ++ ⟨#[32]⟩) ++ dB a)) x := fun x => run_string_add_sum x _ _ (by omega)
  have HL : Hid (lineI 1 a = ((⟨#[99, 111, 109, 112, 117, 116, 101]⟩ : ByteArray) ++ ⟨#[32]⟩) ++ dB a) := rfl
  generalize dB a = D at *
  clear T1 HT HW HN HA hS0
  go_wp2
  have hH : w1.drew.cell? ⟨w.heap.size, 0, none⟩ = some (.int .i64 1) ∧ w1.drew.cell? ⟨w.heap.size, 1, none⟩ = some (.int .i64 (a : Int)) ∧ w1.drew.cell? ⟨0, 1, none⟩ = some (.string ⟨#[99, 111, 109, 112, 117, 116, 101]⟩) ∧ Below w1.heap.size w1 w1.drew := ⟨d0, d1, t0, (Below.refl _ _).drew⟩
  have KEEP : Hid (∀ X w' : World, (X.cell? ⟨w.heap.size, 0, none⟩ = some (.int .i64 1) ∧ X.cell? ⟨w.heap.size, 1, none⟩ = some (.int .i64 (a : Int)) ∧ X.cell? ⟨0, 1, none⟩ = some (.string ⟨#[99, 111, 109, 112, 117, 116, 101]⟩) ∧ Below w1.heap.size w1 X) → Below X.heap.size X w' →
      (w'.cell? ⟨w.heap.size, 0, none⟩ = some (.int .i64 1) ∧ w'.cell? ⟨w.heap.size, 1, none⟩ = some (.int .i64 (a : Int)) ∧ w'.cell? ⟨0, 1, none⟩ = some (.string ⟨#[99, 111, 109, 112, 117, 116, 101]⟩) ∧ Below w1.heap.size w1 w')) := by
    rintro X w' ⟨e0, e1, e2, e3⟩ hb
    have hz := e3.size
    exact ⟨(hb.cell (by show w.heap.size < _; omega)).trans e0, (hb.cell (by show w.heap.size < _; omega)).trans e1, (hb.cell (by show 0 < _; omega)).trans e2, e3.trans (hb.mono hz)⟩
  have HI2 : Hid (∀ X : World, (X.cell? ⟨w.heap.size, 0, none⟩ = some (.int .i64 1) ∧ X.cell? ⟨w.heap.size, 1, none⟩ = some (.int .i64 (a : Int)) ∧ X.cell? ⟨0, 1, none⟩ = some (.string ⟨#[99, 111, 109, 112, 117, 116, 101]⟩) ∧ Below w1.heap.size w1 X) → Calls Tryd.prog 26 #[.int .i64 (a : Int)] X fun e w' => e = .returned (.string D) ∧ Below X.heap.size X w') := fun X hX => HI.out X hX.2.2.2
  clear HI HT1
  go_region_held3 (fun w' : World => w'.cell? ⟨w.heap.size, 0, none⟩ = some (.int .i64 1) ∧ w'.cell? ⟨w.heap.size, 1, none⟩ = some (.int .i64 (a : Int)) ∧ w'.cell? ⟨0, 1, none⟩ = some (.string ⟨#[99, 111, 109, 112, 117, 116, 101]⟩) ∧ Below w1.heap.size w1 w') (first | (with_reducible exact hH) | (with_reducible assumption) | exact KEEP.out _ _ ‹_› ‹_›) (first | (go_at_call 26; refine (HI2.out _ ‹_›).mono ?_; rintro e w3 ⟨rfl, hb3⟩))
  all_goals (rename_i hC; go_wp2; go_ret2; rw [HL.out]; exact ⟨rfl, B1.trans (hC.2.2.2.mono (by omega))⟩)

theorem instr_2 (a : Nat) (ha : a ≤ 65535) (hk : okI 2 (a : Int)) (w : World) (hT : Tab w) : Calls Tryd.prog 9 #[.agg #[.int .i64 2, .int .i64 (a : Int)]] w fun e w' => e = .returned (.tuple #[.string (lineI 2 a), .bool true]) ∧ Below w.heap.size w w' := by
  have HW : Hid (∀ w, Calls Tryd.prog 10 #[.agg #[.int .i64 2, .int .i64 (a : Int)]] w fun e w' => (∃ (u : Value) (c : Int), e = .returned (.tuple #[u, .int .i64 c]) ∧ ((c == (0 : Int)) = decide (okI 2 (a : Int)))) ∧ Below w.heap.size w w') := word_any 2 (a : Int)
  have HN : Hid (decide (okI 2 (a : Int)) = true) := by show _ = _; simp [hk]
  clear hk
  have hsz := hT.size
  have HT : Hid (Tab w) := hT
  clear hT
  have HA : Hid (∀ w, Calls Tryd.prog 25 #[.int .i64 2] w fun e w' => e = .returned (.bool (decide ((2 : Int) = 1 ∨ (2 : Int) = 2 ∨ (2 : Int) = 5))) ∧ w = w') := hasArg_any 2
  go_enter Tryd.func9, Tryd.ntmps9
  go_wp2_with fail
  go_at_call 10
  have c0 : (w.alloc (.cells #[.int .i64 2, .int .i64 (a : Int)] 23)).cell? ⟨w.heap.size, 0, none⟩ = some (.int .i64 2) := by simp
  have c1 : (w.alloc (.cells #[.int .i64 2, .int .i64 (a : Int)] 23)).cell? ⟨w.heap.size, 1, none⟩ = some (.int .i64 (a : Int)) := by simp
  have B0 : Below w.heap.size w (w.alloc (.cells #[.int .i64 2, .int .i64 (a : Int)] 23)) := (Below.refl _ w).alloc (Nat.le_refl _) _
  have hs0 : (w.alloc (.cells #[.int .i64 2, .int .i64 (a : Int)] 23)).heap.size = w.heap.size + 1 := by simp
  generalize w.alloc (.cells #[.int .i64 2, .int .i64 (a : Int)] 23) = W at *
  refine (HW.out _).mono ?_
  rintro e w1 ⟨⟨u, c, rfl, hc⟩, hb1⟩
  have hc0 : (c == (0 : Int)) = true := hc.trans HN.out
  clear hc
  have d0 : w1.cell? ⟨w.heap.size, 0, none⟩ = some (.int .i64 2) := (hb1.cell (by show w.heap.size < _; omega)).trans c0
  have d1 : w1.cell? ⟨w.heap.size, 1, none⟩ = some (.int .i64 (a : Int)) := (hb1.cell (by show w.heap.size < _; omega)).trans c1
  have B1 : Below w.heap.size w w1 := B0.trans (hb1.mono (by omega))
  have T1 : Tab w1 := HT.out.below B1 hsz
  have t0 := T1.i2
  have hs1 : w.heap.size < w1.heap.size := by have := hb1.size; omega
  clear c0 c1 B0 hs0 hb1
  clear W
  go_wp2_with fail
  go_at_call 25
  refine (HA.out _).mono ?_
  rintro e w2 ⟨rfl, rfl⟩
  have HT1 : Hid (∀ x : World, Below w1.heap.size w1 x → Tab x) := fun x hx => T1.below (hx.mono (Nat.le_refl _)) (by omega)
  have HI : Hid (∀ x : World, Below w1.heap.size w1 x → Calls Tryd.prog 26 #[.int .i64 (a : Int)] x fun e w' => e = .returned (.string (dB a)) ∧ Below x.heap.size x w') := fun x hx => itoa_any a ha x (HT1.out x hx)
  have hS0 := dB_size a (by omega)
  have hS : ¬ (9223372036854775807 < ((⟨#[115, 112, 97, 119, 110]⟩ : ByteArray) ++ ⟨#[32]⟩).size + (dB a).size) := by
    have : ((⟨#[115, 112, 97, 119, 110]⟩ : ByteArray) ++ ⟨#[32]⟩).size ≤ 8 := by decide +kernel
    omega
  have hadd : ∀ x : World, (Op.stringOp .add ((⟨#[115, 112, 97, 119, 110]⟩ : ByteArray) ++ ⟨#[32]⟩) (dB a)).run Tryd.prog x = .ok (.string (((⟨#[115, 112, 97, 119, 110]⟩ : ByteArray) ++ ⟨#[32]⟩) ++ dB a)) x := fun x => run_string_add_sum x _ _ (by omega)
  have HL : Hid (lineI 2 a = ((⟨#[115, 112, 97, 119, 110]⟩ : ByteArray) ++ ⟨#[32]⟩) ++ dB a) := rfl
  generalize dB a = D at *
  clear T1 HT HW HN HA hS0
  go_wp2
  have hH : w1.drew.cell? ⟨w.heap.size, 0, none⟩ = some (.int .i64 2) ∧ w1.drew.cell? ⟨w.heap.size, 1, none⟩ = some (.int .i64 (a : Int)) ∧ w1.drew.cell? ⟨0, 2, none⟩ = some (.string ⟨#[115, 112, 97, 119, 110]⟩) ∧ Below w1.heap.size w1 w1.drew := ⟨d0, d1, t0, (Below.refl _ _).drew⟩
  have KEEP : Hid (∀ X w' : World, (X.cell? ⟨w.heap.size, 0, none⟩ = some (.int .i64 2) ∧ X.cell? ⟨w.heap.size, 1, none⟩ = some (.int .i64 (a : Int)) ∧ X.cell? ⟨0, 2, none⟩ = some (.string ⟨#[115, 112, 97, 119, 110]⟩) ∧ Below w1.heap.size w1 X) → Below X.heap.size X w' →
      (w'.cell? ⟨w.heap.size, 0, none⟩ = some (.int .i64 2) ∧ w'.cell? ⟨w.heap.size, 1, none⟩ = some (.int .i64 (a : Int)) ∧ w'.cell? ⟨0, 2, none⟩ = some (.string ⟨#[115, 112, 97, 119, 110]⟩) ∧ Below w1.heap.size w1 w')) := by
    rintro X w' ⟨e0, e1, e2, e3⟩ hb
    have hz := e3.size
    exact ⟨(hb.cell (by show w.heap.size < _; omega)).trans e0, (hb.cell (by show w.heap.size < _; omega)).trans e1, (hb.cell (by show 0 < _; omega)).trans e2, e3.trans (hb.mono hz)⟩
  have HI2 : Hid (∀ X : World, (X.cell? ⟨w.heap.size, 0, none⟩ = some (.int .i64 2) ∧ X.cell? ⟨w.heap.size, 1, none⟩ = some (.int .i64 (a : Int)) ∧ X.cell? ⟨0, 2, none⟩ = some (.string ⟨#[115, 112, 97, 119, 110]⟩) ∧ Below w1.heap.size w1 X) → Calls Tryd.prog 26 #[.int .i64 (a : Int)] X fun e w' => e = .returned (.string D) ∧ Below X.heap.size X w') := fun X hX => HI.out X hX.2.2.2
  clear HI HT1
  go_region_held3 (fun w' : World => w'.cell? ⟨w.heap.size, 0, none⟩ = some (.int .i64 2) ∧ w'.cell? ⟨w.heap.size, 1, none⟩ = some (.int .i64 (a : Int)) ∧ w'.cell? ⟨0, 2, none⟩ = some (.string ⟨#[115, 112, 97, 119, 110]⟩) ∧ Below w1.heap.size w1 w') (first | (with_reducible exact hH) | (with_reducible assumption) | exact KEEP.out _ _ ‹_› ‹_›) (first | (go_at_call 26; refine (HI2.out _ ‹_›).mono ?_; rintro e w3 ⟨rfl, hb3⟩))
  all_goals (rename_i hC; go_wp2; go_ret2; rw [HL.out]; exact ⟨rfl, B1.trans (hC.2.2.2.mono (by omega))⟩)

theorem instr_3 (a : Nat) (ha : a ≤ 65535) (hk : okI 3 (a : Int)) (w : World) (hT : Tab w) : Calls Tryd.prog 9 #[.agg #[.int .i64 3, .int .i64 (a : Int)]] w fun e w' => e = .returned (.tuple #[.string (lineI 3 a), .bool true]) ∧ Below w.heap.size w w' := by
  have HW : Hid (∀ w, Calls Tryd.prog 10 #[.agg #[.int .i64 3, .int .i64 (a : Int)]] w fun e w' => (∃ (u : Value) (c : Int), e = .returned (.tuple #[u, .int .i64 c]) ∧ ((c == (0 : Int)) = decide (okI 3 (a : Int)))) ∧ Below w.heap.size w w') := word_any 3 (a : Int)
  have HN : Hid (decide (okI 3 (a : Int)) = true) := by show _ = _; simp [hk]
  clear hk
  have hsz := hT.size
  have HT : Hid (Tab w) := hT
  clear hT
  have HA : Hid (∀ w, Calls Tryd.prog 25 #[.int .i64 3] w fun e w' => e = .returned (.bool (decide ((3 : Int) = 1 ∨ (3 : Int) = 2 ∨ (3 : Int) = 5))) ∧ w = w') := hasArg_any 3
  go_enter Tryd.func9, Tryd.ntmps9
  go_wp2_with fail
  go_at_call 10
  have c0 : (w.alloc (.cells #[.int .i64 3, .int .i64 (a : Int)] 23)).cell? ⟨w.heap.size, 0, none⟩ = some (.int .i64 3) := by simp
  have c1 : (w.alloc (.cells #[.int .i64 3, .int .i64 (a : Int)] 23)).cell? ⟨w.heap.size, 1, none⟩ = some (.int .i64 (a : Int)) := by simp
  have B0 : Below w.heap.size w (w.alloc (.cells #[.int .i64 3, .int .i64 (a : Int)] 23)) := (Below.refl _ w).alloc (Nat.le_refl _) _
  have hs0 : (w.alloc (.cells #[.int .i64 3, .int .i64 (a : Int)] 23)).heap.size = w.heap.size + 1 := by simp
  generalize w.alloc (.cells #[.int .i64 3, .int .i64 (a : Int)] 23) = W at *
  refine (HW.out _).mono ?_
  rintro e w1 ⟨⟨u, c, rfl, hc⟩, hb1⟩
  have hc0 : (c == (0 : Int)) = true := hc.trans HN.out
  clear hc
  have d0 : w1.cell? ⟨w.heap.size, 0, none⟩ = some (.int .i64 3) := (hb1.cell (by show w.heap.size < _; omega)).trans c0
  have d1 : w1.cell? ⟨w.heap.size, 1, none⟩ = some (.int .i64 (a : Int)) := (hb1.cell (by show w.heap.size < _; omega)).trans c1
  have B1 : Below w.heap.size w w1 := B0.trans (hb1.mono (by omega))
  have T1 : Tab w1 := HT.out.below B1 hsz
  have t0 := T1.i3
  have hs1 : w.heap.size < w1.heap.size := by have := hb1.size; omega
  clear c0 c1 B0 hs0 hb1
  clear W
  go_wp2_with fail
  go_at_call 25
  refine (HA.out _).mono ?_
  rintro e w2 ⟨rfl, rfl⟩
  go_wp2
  go_ret2
  exact ⟨rfl, B1⟩

theorem instr_4 (a : Nat) (ha : a ≤ 65535) (hk : okI 4 (a : Int)) (w : World) (hT : Tab w) : Calls Tryd.prog 9 #[.agg #[.int .i64 4, .int .i64 (a : Int)]] w fun e w' => e = .returned (.tuple #[.string (lineI 4 a), .bool true]) ∧ Below w.heap.size w w' := by
  have HW : Hid (∀ w, Calls Tryd.prog 10 #[.agg #[.int .i64 4, .int .i64 (a : Int)]] w fun e w' => (∃ (u : Value) (c : Int), e = .returned (.tuple #[u, .int .i64 c]) ∧ ((c == (0 : Int)) = decide (okI 4 (a : Int)))) ∧ Below w.heap.size w w') := word_any 4 (a : Int)
  have HN : Hid (decide (okI 4 (a : Int)) = true) := by show _ = _; simp [hk]
  clear hk
  have hsz := hT.size
  have HT : Hid (Tab w) := hT
  clear hT
  have HA : Hid (∀ w, Calls Tryd.prog 25 #[.int .i64 4] w fun e w' => e = .returned (.bool (decide ((4 : Int) = 1 ∨ (4 : Int) = 2 ∨ (4 : Int) = 5))) ∧ w = w') := hasArg_any 4
  go_enter Tryd.func9, Tryd.ntmps9
  go_wp2_with fail
  go_at_call 10
  have c0 : (w.alloc (.cells #[.int .i64 4, .int .i64 (a : Int)] 23)).cell? ⟨w.heap.size, 0, none⟩ = some (.int .i64 4) := by simp
  have c1 : (w.alloc (.cells #[.int .i64 4, .int .i64 (a : Int)] 23)).cell? ⟨w.heap.size, 1, none⟩ = some (.int .i64 (a : Int)) := by simp
  have B0 : Below w.heap.size w (w.alloc (.cells #[.int .i64 4, .int .i64 (a : Int)] 23)) := (Below.refl _ w).alloc (Nat.le_refl _) _
  have hs0 : (w.alloc (.cells #[.int .i64 4, .int .i64 (a : Int)] 23)).heap.size = w.heap.size + 1 := by simp
  generalize w.alloc (.cells #[.int .i64 4, .int .i64 (a : Int)] 23) = W at *
  refine (HW.out _).mono ?_
  rintro e w1 ⟨⟨u, c, rfl, hc⟩, hb1⟩
  have hc0 : (c == (0 : Int)) = true := hc.trans HN.out
  clear hc
  have d0 : w1.cell? ⟨w.heap.size, 0, none⟩ = some (.int .i64 4) := (hb1.cell (by show w.heap.size < _; omega)).trans c0
  have d1 : w1.cell? ⟨w.heap.size, 1, none⟩ = some (.int .i64 (a : Int)) := (hb1.cell (by show w.heap.size < _; omega)).trans c1
  have B1 : Below w.heap.size w w1 := B0.trans (hb1.mono (by omega))
  have T1 : Tab w1 := HT.out.below B1 hsz
  have t0 := T1.i4
  have hs1 : w.heap.size < w1.heap.size := by have := hb1.size; omega
  clear c0 c1 B0 hs0 hb1
  clear W
  go_wp2_with fail
  go_at_call 25
  refine (HA.out _).mono ?_
  rintro e w2 ⟨rfl, rfl⟩
  go_wp2
  go_ret2
  exact ⟨rfl, B1⟩

theorem instr_5 (a : Nat) (ha : a ≤ 65535) (hk : okI 5 (a : Int)) (w : World) (hT : Tab w) : Calls Tryd.prog 9 #[.agg #[.int .i64 5, .int .i64 (a : Int)]] w fun e w' => e = .returned (.tuple #[.string (lineI 5 a), .bool true]) ∧ Below w.heap.size w w' := by
  have HW : Hid (∀ w, Calls Tryd.prog 10 #[.agg #[.int .i64 5, .int .i64 (a : Int)]] w fun e w' => (∃ (u : Value) (c : Int), e = .returned (.tuple #[u, .int .i64 c]) ∧ ((c == (0 : Int)) = decide (okI 5 (a : Int)))) ∧ Below w.heap.size w w') := word_any 5 (a : Int)
  have HN : Hid (decide (okI 5 (a : Int)) = true) := by show _ = _; simp [hk]
  clear hk
  have hsz := hT.size
  have HT : Hid (Tab w) := hT
  clear hT
  have HA : Hid (∀ w, Calls Tryd.prog 25 #[.int .i64 5] w fun e w' => e = .returned (.bool (decide ((5 : Int) = 1 ∨ (5 : Int) = 2 ∨ (5 : Int) = 5))) ∧ w = w') := hasArg_any 5
  go_enter Tryd.func9, Tryd.ntmps9
  go_wp2_with fail
  go_at_call 10
  have c0 : (w.alloc (.cells #[.int .i64 5, .int .i64 (a : Int)] 23)).cell? ⟨w.heap.size, 0, none⟩ = some (.int .i64 5) := by simp
  have c1 : (w.alloc (.cells #[.int .i64 5, .int .i64 (a : Int)] 23)).cell? ⟨w.heap.size, 1, none⟩ = some (.int .i64 (a : Int)) := by simp
  have B0 : Below w.heap.size w (w.alloc (.cells #[.int .i64 5, .int .i64 (a : Int)] 23)) := (Below.refl _ w).alloc (Nat.le_refl _) _
  have hs0 : (w.alloc (.cells #[.int .i64 5, .int .i64 (a : Int)] 23)).heap.size = w.heap.size + 1 := by simp
  generalize w.alloc (.cells #[.int .i64 5, .int .i64 (a : Int)] 23) = W at *
  refine (HW.out _).mono ?_
  rintro e w1 ⟨⟨u, c, rfl, hc⟩, hb1⟩
  have hc0 : (c == (0 : Int)) = true := hc.trans HN.out
  clear hc
  have d0 : w1.cell? ⟨w.heap.size, 0, none⟩ = some (.int .i64 5) := (hb1.cell (by show w.heap.size < _; omega)).trans c0
  have d1 : w1.cell? ⟨w.heap.size, 1, none⟩ = some (.int .i64 (a : Int)) := (hb1.cell (by show w.heap.size < _; omega)).trans c1
  have B1 : Below w.heap.size w w1 := B0.trans (hb1.mono (by omega))
  have T1 : Tab w1 := HT.out.below B1 hsz
  have t0 := T1.i5
  have hs1 : w.heap.size < w1.heap.size := by have := hb1.size; omega
  clear c0 c1 B0 hs0 hb1
  clear W
  go_wp2_with fail
  go_at_call 25
  refine (HA.out _).mono ?_
  rintro e w2 ⟨rfl, rfl⟩
  have HT1 : Hid (∀ x : World, Below w1.heap.size w1 x → Tab x) := fun x hx => T1.below (hx.mono (Nat.le_refl _)) (by omega)
  have HI : Hid (∀ x : World, Below w1.heap.size w1 x → Calls Tryd.prog 26 #[.int .i64 (a : Int)] x fun e w' => e = .returned (.string (dB a)) ∧ Below x.heap.size x w') := fun x hx => itoa_any a ha x (HT1.out x hx)
  have hS0 := dB_size a (by omega)
  have hS : ¬ (9223372036854775807 < ((⟨#[114, 101, 97, 100, 121]⟩ : ByteArray) ++ ⟨#[32]⟩).size + (dB a).size) := by
    have : ((⟨#[114, 101, 97, 100, 121]⟩ : ByteArray) ++ ⟨#[32]⟩).size ≤ 8 := by decide +kernel
    omega
  have hadd : ∀ x : World, (Op.stringOp .add ((⟨#[114, 101, 97, 100, 121]⟩ : ByteArray) ++ ⟨#[32]⟩) (dB a)).run Tryd.prog x = .ok (.string (((⟨#[114, 101, 97, 100, 121]⟩ : ByteArray) ++ ⟨#[32]⟩) ++ dB a)) x := fun x => run_string_add_sum x _ _ (by omega)
  have HL : Hid (lineI 5 a = ((⟨#[114, 101, 97, 100, 121]⟩ : ByteArray) ++ ⟨#[32]⟩) ++ dB a) := rfl
  generalize dB a = D at *
  clear T1 HT HW HN HA hS0
  go_wp2
  have hH : w1.drew.cell? ⟨w.heap.size, 0, none⟩ = some (.int .i64 5) ∧ w1.drew.cell? ⟨w.heap.size, 1, none⟩ = some (.int .i64 (a : Int)) ∧ w1.drew.cell? ⟨0, 5, none⟩ = some (.string ⟨#[114, 101, 97, 100, 121]⟩) ∧ Below w1.heap.size w1 w1.drew := ⟨d0, d1, t0, (Below.refl _ _).drew⟩
  have KEEP : Hid (∀ X w' : World, (X.cell? ⟨w.heap.size, 0, none⟩ = some (.int .i64 5) ∧ X.cell? ⟨w.heap.size, 1, none⟩ = some (.int .i64 (a : Int)) ∧ X.cell? ⟨0, 5, none⟩ = some (.string ⟨#[114, 101, 97, 100, 121]⟩) ∧ Below w1.heap.size w1 X) → Below X.heap.size X w' →
      (w'.cell? ⟨w.heap.size, 0, none⟩ = some (.int .i64 5) ∧ w'.cell? ⟨w.heap.size, 1, none⟩ = some (.int .i64 (a : Int)) ∧ w'.cell? ⟨0, 5, none⟩ = some (.string ⟨#[114, 101, 97, 100, 121]⟩) ∧ Below w1.heap.size w1 w')) := by
    rintro X w' ⟨e0, e1, e2, e3⟩ hb
    have hz := e3.size
    exact ⟨(hb.cell (by show w.heap.size < _; omega)).trans e0, (hb.cell (by show w.heap.size < _; omega)).trans e1, (hb.cell (by show 0 < _; omega)).trans e2, e3.trans (hb.mono hz)⟩
  have HI2 : Hid (∀ X : World, (X.cell? ⟨w.heap.size, 0, none⟩ = some (.int .i64 5) ∧ X.cell? ⟨w.heap.size, 1, none⟩ = some (.int .i64 (a : Int)) ∧ X.cell? ⟨0, 5, none⟩ = some (.string ⟨#[114, 101, 97, 100, 121]⟩) ∧ Below w1.heap.size w1 X) → Calls Tryd.prog 26 #[.int .i64 (a : Int)] X fun e w' => e = .returned (.string D) ∧ Below X.heap.size X w') := fun X hX => HI.out X hX.2.2.2
  clear HI HT1
  go_region_held3 (fun w' : World => w'.cell? ⟨w.heap.size, 0, none⟩ = some (.int .i64 5) ∧ w'.cell? ⟨w.heap.size, 1, none⟩ = some (.int .i64 (a : Int)) ∧ w'.cell? ⟨0, 5, none⟩ = some (.string ⟨#[114, 101, 97, 100, 121]⟩) ∧ Below w1.heap.size w1 w') (first | (with_reducible exact hH) | (with_reducible assumption) | exact KEEP.out _ _ ‹_› ‹_›) (first | (go_at_call 26; refine (HI2.out _ ‹_›).mono ?_; rintro e w3 ⟨rfl, hb3⟩))
  all_goals (rename_i hC; go_wp2; go_ret2; rw [HL.out]; exact ⟨rfl, B1.trans (hC.2.2.2.mono (by omega))⟩)

theorem instr_6 (a : Nat) (ha : a ≤ 65535) (hk : okI 6 (a : Int)) (w : World) (hT : Tab w) : Calls Tryd.prog 9 #[.agg #[.int .i64 6, .int .i64 (a : Int)]] w fun e w' => e = .returned (.tuple #[.string (lineI 6 a), .bool true]) ∧ Below w.heap.size w w' := by
  have HW : Hid (∀ w, Calls Tryd.prog 10 #[.agg #[.int .i64 6, .int .i64 (a : Int)]] w fun e w' => (∃ (u : Value) (c : Int), e = .returned (.tuple #[u, .int .i64 c]) ∧ ((c == (0 : Int)) = decide (okI 6 (a : Int)))) ∧ Below w.heap.size w w') := word_any 6 (a : Int)
  have HN : Hid (decide (okI 6 (a : Int)) = true) := by show _ = _; simp [hk]
  clear hk
  have hsz := hT.size
  have HT : Hid (Tab w) := hT
  clear hT
  have HA : Hid (∀ w, Calls Tryd.prog 25 #[.int .i64 6] w fun e w' => e = .returned (.bool (decide ((6 : Int) = 1 ∨ (6 : Int) = 2 ∨ (6 : Int) = 5))) ∧ w = w') := hasArg_any 6
  go_enter Tryd.func9, Tryd.ntmps9
  go_wp2_with fail
  go_at_call 10
  have c0 : (w.alloc (.cells #[.int .i64 6, .int .i64 (a : Int)] 23)).cell? ⟨w.heap.size, 0, none⟩ = some (.int .i64 6) := by simp
  have c1 : (w.alloc (.cells #[.int .i64 6, .int .i64 (a : Int)] 23)).cell? ⟨w.heap.size, 1, none⟩ = some (.int .i64 (a : Int)) := by simp
  have B0 : Below w.heap.size w (w.alloc (.cells #[.int .i64 6, .int .i64 (a : Int)] 23)) := (Below.refl _ w).alloc (Nat.le_refl _) _
  have hs0 : (w.alloc (.cells #[.int .i64 6, .int .i64 (a : Int)] 23)).heap.size = w.heap.size + 1 := by simp
  generalize w.alloc (.cells #[.int .i64 6, .int .i64 (a : Int)] 23) = W at *
  refine (HW.out _).mono ?_
  rintro e w1 ⟨⟨u, c, rfl, hc⟩, hb1⟩
  have hc0 : (c == (0 : Int)) = true := hc.trans HN.out
  clear hc
  have d0 : w1.cell? ⟨w.heap.size, 0, none⟩ = some (.int .i64 6) := (hb1.cell (by show w.heap.size < _; omega)).trans c0
  have d1 : w1.cell? ⟨w.heap.size, 1, none⟩ = some (.int .i64 (a : Int)) := (hb1.cell (by show w.heap.size < _; omega)).trans c1
  have B1 : Below w.heap.size w w1 := B0.trans (hb1.mono (by omega))
  have T1 : Tab w1 := HT.out.below B1 hsz
  have t0 := T1.i6
  have hs1 : w.heap.size < w1.heap.size := by have := hb1.size; omega
  clear c0 c1 B0 hs0 hb1
  clear W
  go_wp2_with fail
  go_at_call 25
  refine (HA.out _).mono ?_
  rintro e w2 ⟨rfl, rfl⟩
  go_wp2
  go_ret2
  exact ⟨rfl, B1⟩

end Go.Proofs.YtemdhcegelddlaaDoor
