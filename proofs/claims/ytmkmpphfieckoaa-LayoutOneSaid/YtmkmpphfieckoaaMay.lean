/- The page's example, and the walk of the law LayoutMay. -/
import Derived.Test.YtmkmpphfieckoaaLay3
namespace Go.Proofs.Ytmkmpphfieckoaa
open Go Go.RowKit
set_option linter.unusedVariables false
set_option linter.unusedSimpArgs false

theorem may1 : May 1 1 1 := ⟨by omega⟩
theorem awakeL_any (w : World) : Calls Try.prog 12 #[] w fun e w' => e = .returned (.bool true) ∧ Below w.heap.size w w' := by
  have e1 : wd 20 1 8 0 2 - 0 + (if (0 : Int) ≤ 0 ∧ (0 : Int) < 1 ∧ (0 : Int) ≤ 2 ∧ (2 : Int) < 8 then 0 * 256 else 0) = 22 := by decide
  have e2 : wd (20 + 1 * 264 + 1 * 3) 1 2 0 1 = 288 := by decide
  have e3 : (20 : Int) + 1 * 264 + 1 * 3 + 1 * 2 = 289 := by decide
  go_enter Try.func12, Try.ntmps12
  go_wp2_with fail
  go_at_call 10; refine (of_ok 1 1 1 _ may1).mono ?_; rintro e w1 ⟨c, rfl, hL, hc, h1⟩
  go_wp2_with fail
  go_at_call 14; refine (len_some c 1 1 1 _ hL may1).mono ?_; rintro e w2 ⟨rfl, h2⟩
  have HL2 := hL.below h2 hL.lt
  rw [e3]
  go_wp2_with fail
  go_at_call 21; refine (proc_any _ 1 1 1 0 2 _ (.some c HL2) (by omega)).mono ?_; rintro e w3 ⟨rfl, h3⟩
  have HL3 := HL2.below h3 HL2.lt
  rw [e1]
  go_wp2_with fail
  go_at_call 24; refine (g_any _ 1 1 1 0 1 _ (.some c HL3) (by omega) (by omega) (by omega)).mono ?_; rintro e w4 ⟨rfl, h4⟩
  rw [e2]
  have hb := seq (seq (seq h1 h2) h3) h4
  go_wp2_with fail
  go_ret
  exact ⟨rfl, hb⟩

theorem layoutMay_bad (P T G : Int) (w : World) (h : ¬ May P T G) : Calls Try.prog 3 #[.agg #[.int .i64 P, .int .i64 T, .int .i64 G]] w fun e w' => e = .returned (.bool true) ∧ Below w.heap.size w w' := by
  have heq := eq_config
  have hb0 : Below w.heap.size w (w.alloc (.cells #[.int .i64 P, .int .i64 T, .int .i64 G] 23)) := (Below.refl _ _).alloc (Nat.le_refl _) _
  have h0 : (w.alloc (.cells #[.int .i64 P, .int .i64 T, .int .i64 G] 23)).heap[w.heap.size]? = some (.cells #[.int .i64 P, .int .i64 T, .int .i64 G] 23 (0, 0)) := heap_alloc_new _ _
  have HC : Hid (∀ X, Below (w.alloc (.cells #[.int .i64 P, .int .i64 T, .int .i64 G] 23)).heap.size (w.alloc (.cells #[.int .i64 P, .int .i64 T, .int .i64 G] 23)) X → X.cell? ⟨w.heap.size, 0, none⟩ = some (.int .i64 P) ∧ X.cell? ⟨w.heap.size, 1, none⟩ = some (.int .i64 T) ∧ X.cell? ⟨w.heap.size, 2, none⟩ = some (.int .i64 G)) := fun X hX => by
    have hh := (hX.block w.heap.size (by simp)).trans h0
    refine ⟨?_, ?_, ?_⟩ <;> simp [World.cell?, hh]
  have hR := refRight_any P T G
  have hR2 := right_any P T G
  rw [decide_eq_false h] at hR hR2
  have HR : Hid _ := hR
  have HR2 : Hid _ := hR2
  clear hR hR2 h0
  go_enter Try.func3, Try.ntmps3
  go_wp2_with fail
  go_at_call 10; refine (of_bad P T G _ h).mono ?_; rintro e w1 ⟨rfl, h1⟩
  obtain ⟨a0, a1, a2⟩ := HC.out _ h1
  go_wp2_with fail
  go_at_call 11; refine (HR.out _).mono ?_; rintro e w2 ⟨rfl, h2⟩
  have h2 := seq h1 h2
  clear a0 a1 a2
  go_wp2_with fail
  go_at_call 12; refine (awakeL_any _).mono ?_; rintro e w3 ⟨rfl, h3⟩
  have h3 := seq h2 h3
  obtain ⟨a0, a1, a2⟩ := HC.out _ h3
  go_wp2_with fail
  go_at_call 13; refine (HR2.out _).mono ?_; rintro e w4 ⟨rfl, h4⟩
  have h4 := seq h3 h4
  clear a0 a1 a2
  go_wp2_with fail
  go_at_call 14; refine (len_nil _).mono ?_; rintro e w5 ⟨rfl, rfl⟩
  go_wp2_with fail
  go_at_call 15; refine (config_any _ 0 0 0 _ (.none rfl rfl rfl)).mono ?_; rintro e w6 ⟨rfl, h6⟩
  have h6 := seq h4 h6
  go_wp2_with fail
  go_ret
  exact ⟨rfl, hb0.trans (h6.mono (by simp))⟩
theorem layoutMay_ok (P T G : Int) (w : World) (h : May P T G) : Calls Try.prog 3 #[.agg #[.int .i64 P, .int .i64 T, .int .i64 G]] w fun e w' => e = .returned (.bool true) ∧ Below w.heap.size w w' := by
  have heq := eq_config
  have hb0 : Below w.heap.size w (w.alloc (.cells #[.int .i64 P, .int .i64 T, .int .i64 G] 23)) := (Below.refl _ _).alloc (Nat.le_refl _) _
  have h0 : (w.alloc (.cells #[.int .i64 P, .int .i64 T, .int .i64 G] 23)).heap[w.heap.size]? = some (.cells #[.int .i64 P, .int .i64 T, .int .i64 G] 23 (0, 0)) := heap_alloc_new _ _
  have HC : Hid (∀ X, Below (w.alloc (.cells #[.int .i64 P, .int .i64 T, .int .i64 G] 23)).heap.size (w.alloc (.cells #[.int .i64 P, .int .i64 T, .int .i64 G] 23)) X → X.cell? ⟨w.heap.size, 0, none⟩ = some (.int .i64 P) ∧ X.cell? ⟨w.heap.size, 1, none⟩ = some (.int .i64 T) ∧ X.cell? ⟨w.heap.size, 2, none⟩ = some (.int .i64 G)) := fun X hX => by
    have hh := (hX.block w.heap.size (by simp)).trans h0
    refine ⟨?_, ?_, ?_⟩ <;> simp [World.cell?, hh]
  have hR := refRight_any P T G
  have hR2 := right_any P T G
  rw [decide_eq_true h] at hR hR2
  have HR : Hid _ := hR
  have HR2 : Hid _ := hR2
  clear hR hR2 h0
  go_enter Try.func3, Try.ntmps3
  go_wp2_with fail
  go_at_call 10; refine (of_ok P T G _ h).mono ?_; rintro e w1 ⟨c, rfl, hL, hc, h1⟩
  have HL : Hid (Lay w1 c P T G) := hL
  clear hL
  obtain ⟨a0, a1, a2⟩ := HC.out _ h1
  go_wp2_with fail
  go_at_call 11; refine (HR.out _).mono ?_; rintro e w2 ⟨rfl, h2⟩
  have hw2 := seq h1 h2
  have HL2 : Hid (∀ Y, Below w2.heap.size w2 Y → Lay Y c P T G) := fun Y hY => (Lay.below HL.out h2 (Lay.lt HL.out)).below hY (Lay.below HL.out h2 (Lay.lt HL.out)).lt
  clear a0 a1 a2
  have hH : Hid (w2.drew.cell? ⟨w.heap.size, 0, none⟩ = some (.int .i64 P) ∧ w2.drew.cell? ⟨w.heap.size, 1, none⟩ = some (.int .i64 T) ∧ w2.drew.cell? ⟨w.heap.size, 2, none⟩ = some (.int .i64 G) ∧ Below w2.heap.size w2 w2.drew) := ⟨(HC.out _ hw2).1, (HC.out _ hw2).2.1, (HC.out _ hw2).2.2, (Below.refl _ _).drew⟩
  have hsz := hw2.size
  simp at hsz
  have KEEP : Hid (∀ Y w' : World, (Y.cell? ⟨w.heap.size, 0, none⟩ = some (.int .i64 P) ∧ Y.cell? ⟨w.heap.size, 1, none⟩ = some (.int .i64 T) ∧ Y.cell? ⟨w.heap.size, 2, none⟩ = some (.int .i64 G) ∧ Below w2.heap.size w2 Y) → Below Y.heap.size Y w' → (w'.cell? ⟨w.heap.size, 0, none⟩ = some (.int .i64 P) ∧ w'.cell? ⟨w.heap.size, 1, none⟩ = some (.int .i64 T) ∧ w'.cell? ⟨w.heap.size, 2, none⟩ = some (.int .i64 G) ∧ Below w2.heap.size w2 w')) := by
    show ∀ _ _, _
    rintro Y w' ⟨e1, e2, e3, hb⟩ hB
    have hs := hb.size
    exact ⟨(hB.cell (p := ⟨w.heap.size, 0, none⟩) (by show w.heap.size < _; omega)).trans e1, (hB.cell (p := ⟨w.heap.size, 1, none⟩) (by show w.heap.size < _; omega)).trans e2, (hB.cell (p := ⟨w.heap.size, 2, none⟩) (by show w.heap.size < _; omega)).trans e3, hb.trans (hB.mono hs)⟩
  have e3 : 20 + P * 264 + T * 3 + G * 2 = 20 + 264 * P + 3 * T + 2 * G := by omega
  go_wp2_with fail
  go_region_held3 (fun w' => w'.cell? ⟨w.heap.size, 0, none⟩ = some (.int .i64 P) ∧ w'.cell? ⟨w.heap.size, 1, none⟩ = some (.int .i64 T) ∧ w'.cell? ⟨w.heap.size, 2, none⟩ = some (.int .i64 G) ∧ Below w2.heap.size w2 w') (first | exact hH | assumption | exact KEEP.out _ _ ‹_› ‹_›) (first | (go_at_call 12; refine (awakeL_any _).mono ?_; rintro e z1 ⟨rfl, hz1⟩) | (go_at_call 13; refine (HR2.out _).mono ?_; rintro e z2 ⟨rfl, hz2⟩) | (go_at_call 15; refine (config_any _ P T G _ (.some c (HL2.out _ (by simp only [*])))).mono ?_; rintro e z3 ⟨rfl, hz3⟩) | (go_at_call 14; refine (len_some c P T G _ (HL2.out _ (by simp only [*])) h).mono ?_; rw [e3]; rintro e z4 ⟨rfl, hz4⟩) | (go_at_call 16; refine (refLen_any P T G _ h).mono ?_; rintro e z5 ⟨rfl, hz5⟩))
  rename_i hS
  go_wp2_with fail
  go_ret
  exact ⟨ret_bool (by simp), hb0.trans ((hw2.trans (hS.2.2.2.mono hw2.size)).mono (by simp))⟩
theorem layoutMay_walk (P T G : Int) (w : World) : Calls Try.prog 3 #[.agg #[.int .i64 P, .int .i64 T, .int .i64 G]] w fun e w' => e = .returned (.bool true) ∧ Below w.heap.size w w' := by
  by_cases h : May P T G
  · exact layoutMay_ok P T G w h
  · exact layoutMay_bad P T G w h
end Go.Proofs.Ytmkmpphfieckoaa
