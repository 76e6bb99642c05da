/- The small functions: kinds of instructions, their arguments, the word of an instruction. -/
import Derived.Test.YtemdhcegelddlaaDoorLa
import Derived.WalkKit
import Derived.Handy
import Derived.Deep.QuietTactic
import Derived.BigQuiet
namespace Go.Proofs.YtemdhcegelddlaaDoor
open Go Go.RowKit
set_option linter.unusedVariables false
set_option linter.unusedSimpArgs false

theorem ret_bool {a b : Bool} (h : a = b) : Ending.returned (.bool a) = .returned (.bool b) := by rw [h]

theorem hasArg_any (k : Int) (w : World) : Calls Tryd.prog 25 #[.int .i64 k] w fun e w' => e = .returned (.bool (decide (k = 1 ∨ k = 2 ∨ k = 5))) ∧ w = w' := by
  go_enter Tryd.func25, Tryd.ntmps25
  go_wp2
  all_goals (go_ret; exact ⟨ret_bool (by rw [Bool.eq_iff_iff]; simp [*]), rfl⟩)

/-- the least and the greatest argument -/
def lo (k : Int) : Int := if k = 1 then 1 else 0
def hi (k : Int) : Int := if k = 1 then 16 else if k = 2 then 4096 else if k = 5 then 65535 else 0

theorem args_any (k : Int) (w : World) : Calls Tryd.prog 27 #[.int .i64 k] w fun e w' => e = .returned (.tuple #[.int .i64 (lo k), .int .i64 (hi k)]) ∧ w = w' := by
  by_cases h1 : k = 1
  · subst h1
    go_enter Tryd.func27, Tryd.ntmps27
    go_wp2
    all_goals (go_ret2; exact ⟨rfl, rfl⟩)
  · by_cases h2 : k = 2
    · subst h2
      go_enter Tryd.func27, Tryd.ntmps27
      go_wp2
      all_goals (go_ret2; exact ⟨rfl, rfl⟩)
    · by_cases h5 : k = 5
      · subst h5
        go_enter Tryd.func27, Tryd.ntmps27
        go_wp2
        all_goals (go_ret2; exact ⟨rfl, rfl⟩)
      · have e1 : lo k = 0 := by unfold lo; rw [if_neg h1]
        have e2 : hi k = 0 := by unfold hi; rw [if_neg h1, if_neg h2, if_neg h5]
        rw [e1, e2]
        have g1 : (k == (1 : Int)) = false := by simp [h1]
        have g2 : (k == (2 : Int)) = false := by simp [h2]
        have g5 : (k == (5 : Int)) = false := by simp [h5]
        go_enter Tryd.func27, Tryd.ntmps27
        go_wp2
        all_goals (go_ret2; exact ⟨rfl, rfl⟩)

/-- is it the instruction of a word? -/
def okI (k a : Int) : Prop := 0 ≤ k ∧ k ≤ 6 ∧ lo k ≤ a ∧ a ≤ hi k
instance (k a : Int) : Decidable (okI k a) := by unfold okI; infer_instance
theorem lo_01 (k : Int) : 0 ≤ lo k ∧ lo k ≤ 1 := by unfold lo; split <;> omega
theorem hi_65 (k : Int) : 0 ≤ hi k ∧ hi k ≤ 65535 := by unfold hi; (repeat' split) <;> omega

theorem word_any (k a : Int) (w : World) : Calls Tryd.prog 10 #[.agg #[.int .i64 k, .int .i64 a]] w fun e w' => (∃ (u : Value) (c : Int), e = .returned (.tuple #[u, .int .i64 c]) ∧ ((c == (0 : Int)) = decide (okI k a))) ∧ Below w.heap.size w w' := by
  by_cases hk : 0 ≤ k ∧ k ≤ 6
  · by_cases ha : lo k ≤ a ∧ a ≤ hi k
    · have hok : okI k a := ⟨hk.1, hk.2, ha.1, ha.2⟩
      have L := lo_01 k
      have U := hi_65 k
      go_enter Tryd.func10, Tryd.ntmps10
      go_wp2_with fail
      go_at_call 27
      refine (args_any k _).mono ?_
      rintro e w1 ⟨rfl, rfl⟩
      go_wp2
      all_goals first
        | (exfalso; omega)
        | (go_ret2; exact ⟨⟨_, _, rfl, by simp [hok]⟩, (Below.refl _ w).alloc (Nat.le_refl _) _⟩)
    · have hok : ¬ okI k a := fun h => ha ⟨h.2.2.1, h.2.2.2⟩
      go_enter Tryd.func10, Tryd.ntmps10
      go_wp2_with fail
      go_at_call 27
      refine (args_any k _).mono ?_
      rintro e w1 ⟨rfl, rfl⟩
      go_wp2
      all_goals first
        | (exfalso; omega)
        | (go_ret2; exact ⟨⟨_, _, rfl, by simp [hok]⟩, (Below.refl _ w).alloc (Nat.le_refl _) _⟩)
  · have hok : ¬ okI k a := fun h => hk ⟨h.1, h.2.1⟩
    go_enter Tryd.func10, Tryd.ntmps10
    go_wp2
    all_goals first
      | (exfalso; omega)
      | (go_ret2; exact ⟨⟨_, _, rfl, by simp [hok]⟩, (Below.refl _ w).alloc (Nat.le_refl _) _⟩)
end Go.Proofs.YtemdhcegelddlaaDoor
