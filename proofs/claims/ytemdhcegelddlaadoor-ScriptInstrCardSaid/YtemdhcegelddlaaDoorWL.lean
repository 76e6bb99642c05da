/- The law ScriptInstr, walked. -/
import Derived.Test.YtemdhcegelddlaaDoorW9
namespace Go.Proofs.YtemdhcegelddlaaDoor
open Go Go.RowKit
set_option linter.unusedVariables false
set_option linter.unusedSimpArgs false

theorem law_bad (k a : Int) (hn : ¬ okI k a) (w : World) (hT : Tab w) : Calls Tryd.prog 3 #[.agg #[.int .i64 k, .int .i64 a]] w fun e w' => e = .returned (.bool true) ∧ Below w.heap.size w w' := by
  have HW : Hid (∀ w, Calls Tryd.prog 10 #[.agg #[.int .i64 k, .int .i64 a]] w fun e w' => (∃ (u : Value) (c : Int), e = .returned (.tuple #[u, .int .i64 c]) ∧ ((c == (0 : Int)) = decide (okI k a))) ∧ Below w.heap.size w w') := word_any k a
  have HI : Hid (∀ w, Calls Tryd.prog 9 #[.agg #[.int .i64 k, .int .i64 a]] w fun e w' => e = .returned (.tuple #[.string ⟨#[]⟩, .bool false]) ∧ Below w.heap.size w w') := instr_bad k a hn
  have HN : Hid (decide (okI k a) = false) := by show _ = _; simp [hn]
  have hsz := hT.size
  have HT : Hid (Tab w) := hT
  clear hn hT
  go_enter Tryd.func3, Tryd.ntmps3
  go_wp2_with fail
  go_at_call 9
  have c0 : (w.alloc (.cells #[.int .i64 k, .int .i64 a] 23)).cell? ⟨w.heap.size, 0, none⟩ = some (.int .i64 k) := by simp
  have c1 : (w.alloc (.cells #[.int .i64 k, .int .i64 a] 23)).cell? ⟨w.heap.size, 1, none⟩ = some (.int .i64 a) := by simp
  have B0 : Below w.heap.size w (w.alloc (.cells #[.int .i64 k, .int .i64 a] 23)) := (Below.refl _ w).alloc (Nat.le_refl _) _
  have hs0 : (w.alloc (.cells #[.int .i64 k, .int .i64 a] 23)).heap.size = w.heap.size + 1 := by simp
  generalize w.alloc (.cells #[.int .i64 k, .int .i64 a] 23) = W at *
  refine (HI.out _).mono ?_
  rintro e w1 ⟨rfl, hb1⟩
  have d0 : w1.cell? ⟨w.heap.size, 0, none⟩ = some (.int .i64 k) := (hb1.cell (by show w.heap.size < _; omega)).trans c0
  have d1 : w1.cell? ⟨w.heap.size, 1, none⟩ = some (.int .i64 a) := (hb1.cell (by show w.heap.size < _; omega)).trans c1
  have B1 : Hid (Below w.heap.size w w1) := B0.trans (hb1.mono (by omega))
  have hs1 : w.heap.size < w1.heap.size := by have := hb1.size; omega
  clear c0 c1 B0 hs0 hb1 HI
  clear W
  go_wp2_with fail
  go_at_call 10
  refine (HW.out _).mono ?_
  rintro e w2 ⟨⟨u, c, rfl, hc⟩, hb2⟩
  have hc0 : (c == (0 : Int)) = false := hc.trans HN.out
  have hc1 : (c != (0 : Int)) = true := by simp [bne, hc0]
  clear hc0
  have f0 : w2.cell? ⟨w.heap.size, 0, none⟩ = some (.int .i64 k) := (hb2.cell (by show w.heap.size < _; omega)).trans d0
  have f1 : w2.cell? ⟨w.heap.size, 1, none⟩ = some (.int .i64 a) := (hb2.cell (by show w.heap.size < _; omega)).trans d1
  have B2 : Hid (Below w.heap.size w w2) := B1.out.trans (hb2.mono (by omega))
  have HA : Hid (Calls Tryd.prog 11 #[] w2 fun e w' => e = .returned (.bool true) ∧ Below w2.heap.size w2 w') := awake_any w2 (HT.out.below B2.out hsz)
  have hz2 := B2.out.size
  clear hc d0 d1 hb2 B1 HW HN
  go_wp2_with fail
  all_goals
    (go_at_call 11
     refine HA.out.mono ?_
     rintro e w3 ⟨rfl, hb3⟩
     go_wp2
     go_ret
     exact ⟨rfl, B2.out.trans (hb3.mono hz2)⟩)

theorem law_ok (k : Int) (a : Nat) (hk : okI k (a : Int)) (ha : a ≤ 65535) (w : World) (hT : Tab w) : Calls Tryd.prog 3 #[.agg #[.int .i64 k, .int .i64 (a : Int)]] w fun e w' => e = .returned (.bool true) ∧ Below w.heap.size w w' := by
  have h6 : 0 ≤ k ∧ k ≤ 6 := ⟨hk.1, hk.2.1⟩
  have HI : Hid (∀ x, Tab x → Calls Tryd.prog 9 #[.agg #[.int .i64 k, .int .i64 (a : Int)]] x fun e w' => e = .returned (.tuple #[.string (lineI k.toNat a), .bool true]) ∧ Below x.heap.size x w') := by
    show ∀ _, _
    intro x hx
    have : k = 0 ∨ k = 1 ∨ k = 2 ∨ k = 3 ∨ k = 4 ∨ k = 5 ∨ k = 6 := by omega
    rcases this with rfl | rfl | rfl | rfl | rfl | rfl | rfl
    · exact instr_0 a ha hk x hx
    · exact instr_1 a ha hk x hx
    · exact instr_2 a ha hk x hx
    · exact instr_3 a ha hk x hx
    · exact instr_4 a ha hk x hx
    · exact instr_5 a ha hk x hx
    · exact instr_6 a ha hk x hx
  have HR : Hid (∀ x, Calls Tryd.prog 12 #[.agg #[.int .i64 k, .int .i64 (a : Int)]] x fun e w' => e = .returned (.string (lineI k.toNat a)) ∧ Below x.heap.size x w') := refI_any k a h6 ha
  have HW : Hid (∀ w, Calls Tryd.prog 10 #[.agg #[.int .i64 k, .int .i64 (a : Int)]] w fun e w' => (∃ (u : Value) (c : Int), e = .returned (.tuple #[u, .int .i64 c]) ∧ ((c == (0 : Int)) = decide (okI k (a : Int)))) ∧ Below w.heap.size w w') := word_any k (a : Int)
  have HN : Hid (decide (okI k (a : Int)) = true) := by show _ = _; simp [hk]
  have hsz := hT.size
  have HT : Hid (Tab w) := hT
  clear hk hT
  have g1 : ¬ k < 0 := by omega
  have g2 : ¬ 6 < k := by omega
  clear h6
  generalize lineI k.toNat a = L at *
  go_enter Tryd.func3, Tryd.ntmps3
  go_wp2_with fail
  go_at_call 9
  have c0 : (w.alloc (.cells #[.int .i64 k, .int .i64 (a : Int)] 23)).cell? ⟨w.heap.size, 0, none⟩ = some (.int .i64 k) := by simp
  have c1 : (w.alloc (.cells #[.int .i64 k, .int .i64 (a : Int)] 23)).cell? ⟨w.heap.size, 1, none⟩ = some (.int .i64 (a : Int)) := by simp
  have B0 : Below w.heap.size w (w.alloc (.cells #[.int .i64 k, .int .i64 (a : Int)] 23)) := (Below.refl _ w).alloc (Nat.le_refl _) _
  have hs0 : (w.alloc (.cells #[.int .i64 k, .int .i64 (a : Int)] 23)).heap.size = w.heap.size + 1 := by simp
  generalize w.alloc (.cells #[.int .i64 k, .int .i64 (a : Int)] 23) = W at *
  refine (HI.out _ (HT.out.below B0 hsz)).mono ?_
  rintro e w1 ⟨rfl, hb1⟩
  have d0 : w1.cell? ⟨w.heap.size, 0, none⟩ = some (.int .i64 k) := (hb1.cell (by show w.heap.size < _; omega)).trans c0
  have d1 : w1.cell? ⟨w.heap.size, 1, none⟩ = some (.int .i64 (a : Int)) := (hb1.cell (by show w.heap.size < _; omega)).trans c1
  have B1 : Hid (Below w.heap.size w w1) := B0.trans (hb1.mono (by omega))
  have hs1 : w.heap.size < w1.heap.size := by have := hb1.size; omega
  clear c0 c1 B0 hs0 hb1 HI
  clear W
  go_wp2_with fail
  go_at_call 10
  refine (HW.out _).mono ?_
  rintro e w2 ⟨⟨u, c, rfl, hc⟩, hb2⟩
  have hc0 : (c == (0 : Int)) = true := hc.trans HN.out
  have hc1 : (c != (0 : Int)) = false := by simp [bne, hc0]
  clear hc0
  have f0 : w2.cell? ⟨w.heap.size, 0, none⟩ = some (.int .i64 k) := (hb2.cell (by show w.heap.size < _; omega)).trans d0
  have f1 : w2.cell? ⟨w.heap.size, 1, none⟩ = some (.int .i64 (a : Int)) := (hb2.cell (by show w.heap.size < _; omega)).trans d1
  have B2 : Hid (Below w.heap.size w w2) := B1.out.trans (hb2.mono (by omega))
  have HA : Hid (Calls Tryd.prog 11 #[] w2 fun e w' => e = .returned (.bool true) ∧ Below w2.heap.size w2 w') := awake_any w2 (HT.out.below B2.out hsz)
  have hz2 : w.heap.size < w2.heap.size := by have := hb2.size; omega
  clear hc d0 d1 hb2 B1 HW HN hs1
  go_wp2_with fail
  go_at_call 11
  refine HA.out.mono ?_
  rintro e w3 ⟨rfl, hb3⟩
  have h0 : w3.cell? ⟨w.heap.size, 0, none⟩ = some (.int .i64 k) := (hb3.cell hz2).trans f0
  have h1 : w3.cell? ⟨w.heap.size, 1, none⟩ = some (.int .i64 (a : Int)) := (hb3.cell hz2).trans f1
  have B3 : Hid (Below w.heap.size w w3) := B2.out.trans (hb3.mono (by omega))
  clear f0 f1 hb3 B2 HA hz2
  go_wp2_with fail
  go_at_call 12
  refine (HR.out _).mono ?_
  rintro e w4 ⟨rfl, hb4⟩
  go_wp2
  go_ret
  exact ⟨rfl, B3.out.trans (hb4.mono B3.out.size)⟩

theorem scriptInstr_walk (k a : Int) (w : World) (hT : Tab w) : Calls Tryd.prog 3 #[.agg #[.int .i64 k, .int .i64 a]] w fun e w' => e = .returned (.bool true) ∧ Below w.heap.size w w' := by
  by_cases h : okI k a
  · have L := lo_01 k
    have U := hi_65 k
    obtain ⟨h1, h2, h3, h4⟩ := h
    obtain ⟨n, rfl⟩ : ∃ n : Nat, a = (n : Int) := ⟨a.toNat, by omega⟩
    exact law_ok k n ⟨h1, h2, h3, h4⟩ (by omega) w hT
  · exact law_bad k a h w hT
end Go.Proofs.YtemdhcegelddlaaDoor
