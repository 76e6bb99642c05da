/- The grounds of the laws: a layout, and two memories of words that are laid. -/
import Derived.Test.YthjfbknmdligeaaGreatGnd0
import Derived.Test.YthjfbknmdligeaaGreatLay
namespace Go.Proofs.YthjfbknmdligeaaGreat
open Go Go.RowKit
set_option linter.unusedVariables false
set_option maxRecDepth 100000
set_option linter.unusedSimpArgs false


/-- A config of which laws go through all. -/
structure FewC (P T G : Int) : Prop where
  h : May P T G ∧ P ≤ 4 ∧ T ≤ 8 ∧ G ≤ 60
instance (P T G : Int) : Decidable (FewC P T G) := decidable_of_iff (May P T G ∧ P ≤ 4 ∧ T ≤ 8 ∧ G ≤ 60) ⟨fun h => ⟨h⟩, fun h => h.h⟩

theorem few_any (P T G : Int) (w : World) : Calls Tryz.prog 32 #[.agg #[.int .i64 P, .int .i64 T, .int .i64 G]] w fun e w' => e = .returned (.bool (decide (FewC P T G))) ∧ Below w.heap.size w w' := by
  have hb : Below w.heap.size w (w.alloc (.cells #[.int .i64 P, .int .i64 T, .int .i64 G] 23)) := (Below.refl _ _).alloc (Nat.le_refl _) _
  have hR := refRight_any P T G (w.alloc (.cells #[.int .i64 P, .int .i64 T, .int .i64 G] 23))
  have hc : Hid ((w.alloc (.cells #[.int .i64 P, .int .i64 T, .int .i64 G] 23)).heap[w.heap.size]? = some (.cells #[.int .i64 P, .int .i64 T, .int .i64 G] 23 (0, 0))) := heap_alloc_new _ _
  by_cases h : May P T G
  · rw [decide_eq_true h] at hR
    have hd : decide (FewC P T G) = decide (P ≤ 4 ∧ T ≤ 8 ∧ G ≤ 60) := by
      by_cases h2 : P ≤ 4 ∧ T ≤ 8 ∧ G ≤ 60
      · rw [decide_eq_true h2, decide_eq_true (FewC.mk ⟨h, h2⟩)]
      · rw [decide_eq_false h2, decide_eq_false (fun hf => h2 hf.h.2)]
    rw [hd]
    go_enter Tryz.func32, Tryz.ntmps32
    go_wp2_with fail
    go_at_call 60; refine hR.mono ?_; rintro e w1 ⟨rfl, h1⟩
    have hb1 := hb.trans (h1.mono (by simp))
    have hh := (h1.block w.heap.size (by simp)).trans hc.out
    have c0 : w1.cell? ⟨w.heap.size, 0, none⟩ = some (.int .i64 P) := by simp [World.cell?, hh]
    have c1 : w1.cell? ⟨w.heap.size, 1, none⟩ = some (.int .i64 T) := by simp [World.cell?, hh]
    have c2 : w1.cell? ⟨w.heap.size, 2, none⟩ = some (.int .i64 G) := by simp [World.cell?, hh]
    clear hR h1 hc hh hb
    by_cases a1 : P ≤ 4
    · by_cases a2 : T ≤ 8
      · by_cases a3 : G ≤ 60
        · go_wp2_with fail
          go_ret
          exact ⟨ret_bool (by simp [a1, a2, a3]), hb1⟩
        · have hd3 : decide (G ≤ 60) = false := by simpa using a3
          go_wp2_with fail
          go_ret
          exact ⟨ret_bool (by simp [a1, a2, a3]), hb1⟩
      · have hd2 : decide (T ≤ 8) = false := by simpa using a2
        go_wp2_with fail
        go_ret
        exact ⟨ret_bool (by simp [a1]; omega), hb1⟩
    · have hd1 : decide (P ≤ 4) = false := by simpa using a1
      go_wp2_with fail
      go_ret
      exact ⟨ret_bool (by simp; omega), hb1⟩
  · rw [decide_eq_false h] at hR
    rw [decide_eq_false (fun hf : FewC P T G => h hf.h.1)]
    go_enter Tryz.func32, Tryz.ntmps32
    go_wp2_with fail
    go_at_call 60; refine hR.mono ?_; rintro e w1 ⟨rfl, h1⟩
    have hb1 := hb.trans (h1.mono (by simp))
    clear hR h1 hc hb
    go_wp2_with fail
    go_ret
    exact ⟨rfl, hb1⟩
end Go.Proofs.YthjfbknmdligeaaGreat
