/- The document's Right, of 256 threads. -/
import Derived.Test.YtemdhcegelddlaaDoorSB
import Derived.BigRegion
import Derived.Deep.RegionHeld3
namespace Go.Proofs.YtemdhcegelddlaaDoor
open Go Go.RowKit
set_option linter.unusedVariables false
set_option linter.unusedSimpArgs false

theorem threads_256 (w : World) : Calls Tryd.prog 29 #[.int .i64 256] w fun e w' => e = .returned (.int .i64 256) ∧ w = w' := by
  go_enter Tryd.func29, Tryd.ntmps29
  go_wp2
  go_ret
  exact ⟨rfl, rfl⟩

theorem rright_2 (a : Int) (w : World) : Calls Tryd.prog 13 #[.agg #[.int .i64 2, .int .i64 a], .int .i64 256] w fun e w' => e = .returned (.bool (decide (En.ok ⟨2, a⟩))) ∧ Below w.heap.size w w' := by
  have hf : decide (En.ok ⟨2, a⟩) = (a == 0) := by rw [Bool.eq_iff_iff, decide_eq_true_iff]; unfold En.ok; simp
  rw [hf]
  go_enter Tryd.func13, Tryd.ntmps13
  go_wp2_with fail
  go_ret
  exact ⟨rfl, box2 _ _ _ _⟩
theorem rright_3 (a : Int) (w : World) : Calls Tryd.prog 13 #[.agg #[.int .i64 3, .int .i64 a], .int .i64 256] w fun e w' => e = .returned (.bool (decide (En.ok ⟨3, a⟩))) ∧ Below w.heap.size w w' := by
  have hf : decide (En.ok ⟨3, a⟩) = (a == 0) := by rw [Bool.eq_iff_iff, decide_eq_true_iff]; unfold En.ok; simp
  rw [hf]
  go_enter Tryd.func13, Tryd.ntmps13
  go_wp2_with fail
  go_ret
  exact ⟨rfl, box2 _ _ _ _⟩
theorem rright_1p (a : Int) (h0 : 0 ≤ a) (w : World) : Calls Tryd.prog 13 #[.agg #[.int .i64 1, .int .i64 a], .int .i64 256] w fun e w' => e = .returned (.bool (decide (En.ok ⟨1, a⟩))) ∧ Below w.heap.size w w' := by
  have hi : En.ok ⟨1, a⟩ ↔ a < 256 := by unfold En.ok; simp; omega
  have hf : decide (En.ok ⟨1, a⟩) = decide (a < 256) := decide_eq_decide.2 hi
  rw [hf]
  clear hf hi
  have hd0 : decide ((0 : Int) ≤ a) = true := decide_eq_true h0
  go_enter Tryd.func13, Tryd.ntmps13
  go_wp2_with fail
  go_quiet ((refine (threads_256 _).mono ?_; rintro e w' ⟨rfl, rfl⟩; exact ⟨rfl, _, rfl⟩))
  go_wp2_with fail
  go_ret
  exact ⟨rfl, below_drewN (box2 _ _ _ _) _⟩
theorem rright_1n (a : Int) (h0 : ¬ 0 ≤ a) (w : World) : Calls Tryd.prog 13 #[.agg #[.int .i64 1, .int .i64 a], .int .i64 256] w fun e w' => e = .returned (.bool (decide (En.ok ⟨1, a⟩))) ∧ Below w.heap.size w w' := by
  have hf : decide (En.ok ⟨1, a⟩) = false := decide_eq_false (by unfold En.ok; simp; omega)
  have hd0 : decide ((0 : Int) ≤ a) = false := decide_eq_false h0
  rw [hf]
  clear hf
  go_enter Tryd.func13, Tryd.ntmps13
  go_wp2_with fail
  go_quiet (fail)
  go_wp2_with fail
  go_ret
  exact ⟨rfl, below_drewN (box2 _ _ _ _) _⟩
theorem rright_4p (a : Int) (h0 : 0 ≤ a) (w : World) : Calls Tryd.prog 13 #[.agg #[.int .i64 4, .int .i64 a], .int .i64 256] w fun e w' => e = .returned (.bool (decide (En.ok ⟨4, a⟩))) ∧ Below w.heap.size w w' := by
  have hi : En.ok ⟨4, a⟩ ↔ a < 256 := by unfold En.ok; simp; omega
  have hf : decide (En.ok ⟨4, a⟩) = decide (a < 256) := decide_eq_decide.2 hi
  rw [hf]
  clear hf hi
  have hd0 : decide ((0 : Int) ≤ a) = true := decide_eq_true h0
  go_enter Tryd.func13, Tryd.ntmps13
  go_wp2_with fail
  go_quiet ((refine (threads_256 _).mono ?_; rintro e w' ⟨rfl, rfl⟩; exact ⟨rfl, _, rfl⟩))
  go_wp2_with fail
  go_ret
  exact ⟨rfl, below_drewN (box2 _ _ _ _) _⟩
theorem rright_4n (a : Int) (h0 : ¬ 0 ≤ a) (w : World) : Calls Tryd.prog 13 #[.agg #[.int .i64 4, .int .i64 a], .int .i64 256] w fun e w' => e = .returned (.bool (decide (En.ok ⟨4, a⟩))) ∧ Below w.heap.size w w' := by
  have hf : decide (En.ok ⟨4, a⟩) = false := decide_eq_false (by unfold En.ok; simp; omega)
  have hd0 : decide ((0 : Int) ≤ a) = false := decide_eq_false h0
  rw [hf]
  clear hf
  go_enter Tryd.func13, Tryd.ntmps13
  go_wp2_with fail
  go_quiet (fail)
  go_wp2_with fail
  go_ret
  exact ⟨rfl, below_drewN (box2 _ _ _ _) _⟩
theorem rright_o (k a : Int) (h1 : (k == 1) = false) (h2 : (k == 2) = false) (h3 : (k == 3) = false) (h4 : (k == 4) = false) (w : World) : Calls Tryd.prog 13 #[.agg #[.int .i64 k, .int .i64 a], .int .i64 256] w fun e w' => e = .returned (.bool (decide (En.ok ⟨k, a⟩))) ∧ Below w.heap.size w w' := by
  have hf : decide (En.ok ⟨k, a⟩) = false := decide_eq_false (by unfold En.ok; simp at h1 h2 h3 h4; simp; omega)
  rw [hf]
  clear hf
  go_enter Tryd.func13, Tryd.ntmps13
  go_wp2_with fail
  go_quiet (fail)
  go_wp2_with fail
  go_ret
  exact ⟨rfl, below_drewN (box2 _ _ _ _) _⟩
theorem rright_any (e : En) (w : World) : Calls Tryd.prog 13 #[.agg #[.int .i64 e.k, .int .i64 e.w], .int .i64 256] w fun r w' => r = .returned (.bool (decide e.ok)) ∧ Below w.heap.size w w' := by
  obtain ⟨k, a⟩ := e
  by_cases h1 : k = 1
  · subst h1
    by_cases h0 : 0 ≤ a
    · exact rright_1p a h0 w
    · exact rright_1n a h0 w
  by_cases h2 : k = 2
  · subst h2; exact rright_2 a w
  by_cases h3 : k = 3
  · subst h3; exact rright_3 a w
  by_cases h4 : k = 4
  · subst h4
    by_cases h0 : 0 ≤ a
    · exact rright_4p a h0 w
    · exact rright_4n a h0 w
  exact rright_o k a (by simpa using h1) (by simpa using h2) (by simpa using h3) (by simpa using h4) w
end Go.Proofs.YtemdhcegelddlaaDoor
