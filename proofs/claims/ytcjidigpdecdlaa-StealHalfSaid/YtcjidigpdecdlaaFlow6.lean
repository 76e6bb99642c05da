/- What follows, in a box; and the machines' own Step, Done and Asleep, which ask their flow. -/
import Derived.Test.YtcjidigpdecdlaaFlow5
namespace Go.Proofs.Ytcjidigpdecdlaa
open Go Go.RowKit
set_option linter.unusedVariables false
set_option maxRecDepth 100000
set_option linter.unusedSimpArgs false

theorem run_untold_nil (w : World) (g : Nat) (a : Value) (h : Blk w g #[.nilFunc] 1) :
    Calls Try.prog 50 #[a, .pointer (some ⟨g, 0, none⟩)] w fun e w' => (∃ v, e = .returned v) ∧ w = w' := by
  have c0 := h.cell 0 (v := .nilFunc) rfl
  have hq := nilNeq1
  clear h
  go_enter Try.func50, Try.ntmps50
  go_wp2_with fail
  go_end0
  exact ⟨⟨_, rfl⟩, rfl⟩
theorem run_untold (w : World) (g K : Nat) (a : Value) (first cap : Array Value) (M : World → Prop) (h : Blk w g #[.func (.func K) first cap] 1)
    (hent : ∀ w, (callFunc K (first ++ cap)).run Try.prog w = .ok (.enter K (first ++ cap)) w)
    (hk : Calls Try.prog K (first ++ cap) w fun e w' => (∃ v, e = .returned v) ∧ M w') :
    Calls Try.prog 50 #[a, .pointer (some ⟨g, 0, none⟩)] w fun e w' => (∃ v, e = .returned v) ∧ M w' := by
  have c0 := h.cell 0 (v := .func (.func K) first cap) rfl
  have hq := neq1
  clear h
  go_enter Try.func50, Try.ntmps50
  go_wp2_with fail
  refine hk.mono ?_
  rintro e w1 ⟨⟨v, rfl⟩, h1⟩
  go_wp2_with fail
  go_end0
  exact ⟨⟨_, rfl⟩, h1⟩
theorem ent50 (args : Array Value) (w : World) : (callFunc 50 args).run Try.prog w = .ok (.enter 50 args) w := by kernel_rfl

end Go.Proofs.Ytcjidigpdecdlaa
