/- What follows, in a box; and the machines' own Step, Done and Asleep, which ask their flow. -/
import Derived.Test.YthjfbknmdligeaaGreatFlow5
namespace Go.Proofs.YthjfbknmdligeaaGreat
open Go Go.RowKit
set_option linter.unusedVariables false
set_option maxRecDepth 100000
set_option linter.unusedSimpArgs false

theorem run_untold_nil (w : World) (g : Nat) (a : Value) (h : Blk w g #[.nilFunc] 1) :
    Calls Tryz.prog 110 #[a, .pointer (some ⟨g, 0, none⟩)] w fun e w' => (∃ v, e = .returned v) ∧ w = w' := by
  have c0 := h.cell 0 (v := .nilFunc) rfl
  have hq := nilNeq1
  clear h
  go_enter Tryz.func110, Tryz.ntmps110
  go_wp2_with fail
  go_end0
  exact ⟨⟨_, rfl⟩, rfl⟩
theorem run_untold (w : World) (g K : Nat) (a : Value) (first cap : Array Value) (M : World → Prop) (h : Blk w g #[.func (.func K) first cap] 1)
    (hent : ∀ w, (callFunc K (first ++ cap)).run Tryz.prog w = .ok (.enter K (first ++ cap)) w)
    (hk : Calls Tryz.prog K (first ++ cap) w fun e w' => (∃ v, e = .returned v) ∧ M w') :
    Calls Tryz.prog 110 #[a, .pointer (some ⟨g, 0, none⟩)] w fun e w' => (∃ v, e = .returned v) ∧ M w' := by
  have c0 := h.cell 0 (v := .func (.func K) first cap) rfl
  have hq := neq1
  clear h
  go_enter Tryz.func110, Tryz.ntmps110
  go_wp2_with fail
  refine hk.mono ?_
  rintro e w1 ⟨⟨v, rfl⟩, h1⟩
  go_wp2_with fail
  go_end0
  exact ⟨⟨_, rfl⟩, h1⟩
theorem ent137 (args : Array Value) (w : World) : (callFunc 137 args).run Tryz.prog w = .ok (.enter 137 args) w := by kernel_rfl
theorem ent150 (args : Array Value) (w : World) : (callFunc 150 args).run Tryz.prog w = .ok (.enter 150 args) w := by kernel_rfl
theorem ent143 (args : Array Value) (w : World) : (callFunc 143 args).run Tryz.prog w = .ok (.enter 143 args) w := by kernel_rfl
theorem ent110 (args : Array Value) (w : World) : (callFunc 110 args).run Tryz.prog w = .ok (.enter 110 args) w := by kernel_rfl

theorem acq_step (w : World) (x : Nat) (mv : Value) (M : Bool → World → Prop) (h : Calls Tryz.prog 52 #[.pointer (some ⟨x, 0, none⟩), mv] w fun e w' => ∃ z, e = .returned (.bool z) ∧ M z w') :
    Calls Tryz.prog 244 #[.pointer (some ⟨x, 0, none⟩), mv] w fun e w' => ∃ z, e = .returned (.bool z) ∧ M z w' := by
  go_enter Tryz.func244, Tryz.ntmps244
  go_wp2_with fail
  go_at_call 52; refine h.mono ?_; rintro e w1 ⟨z, rfl, h1⟩
  go_wp2_with fail
  go_ret
  exact ⟨z, rfl, h1⟩
theorem acq_step_nil (w : World) (mv : Value) : Calls Tryz.prog 244 #[.pointer none, mv] w fun e w' => e = .returned (.bool true) ∧ w = w' := by
  go_enter Tryz.func244, Tryz.ntmps244
  go_wp2_with fail
  go_ret
  exact ⟨rfl, rfl⟩
theorem acq_done (w : World) (x : Nat) (nx : Option Addr) (hc : w.cell? ⟨x, 1, none⟩ = some (.pointer nx)) :
    Calls Tryz.prog 243 #[.pointer (some ⟨x, 0, none⟩)] w fun e w' => e = .returned (.bool nx.isNone) ∧ w = w' := by
  have h := fdone_any w x nx hc
  go_enter Tryz.func243, Tryz.ntmps243
  go_wp2_with fail
  go_at_call 78; refine h.mono ?_; rintro e w1 ⟨rfl, rfl⟩
  go_wp2_with fail
  go_ret
  exact ⟨rfl, rfl⟩
theorem acq_done_nil (w : World) : Calls Tryz.prog 243 #[.pointer none] w fun e w' => e = .returned (.bool true) ∧ w = w' := by
  go_enter Tryz.func243, Tryz.ntmps243
  go_wp2_with fail
  go_ret
  exact ⟨rfl, rfl⟩

theorem rel_step (w : World) (x : Nat) (mv : Value) (M : Bool → World → Prop) (h : Calls Tryz.prog 52 #[.pointer (some ⟨x, 0, none⟩), mv] w fun e w' => ∃ z, e = .returned (.bool z) ∧ M z w') :
    Calls Tryz.prog 246 #[.pointer (some ⟨x, 0, none⟩), mv] w fun e w' => ∃ z, e = .returned (.bool z) ∧ M z w' := by
  go_enter Tryz.func246, Tryz.ntmps246
  go_wp2_with fail
  go_at_call 52; refine h.mono ?_; rintro e w1 ⟨z, rfl, h1⟩
  go_wp2_with fail
  go_ret
  exact ⟨z, rfl, h1⟩
theorem rel_step_nil (w : World) (mv : Value) : Calls Tryz.prog 246 #[.pointer none, mv] w fun e w' => e = .returned (.bool true) ∧ w = w' := by
  go_enter Tryz.func246, Tryz.ntmps246
  go_wp2_with fail
  go_ret
  exact ⟨rfl, rfl⟩
theorem rel_done (w : World) (x : Nat) (nx : Option Addr) (hc : w.cell? ⟨x, 1, none⟩ = some (.pointer nx)) :
    Calls Tryz.prog 245 #[.pointer (some ⟨x, 0, none⟩)] w fun e w' => e = .returned (.bool nx.isNone) ∧ w = w' := by
  have h := fdone_any w x nx hc
  go_enter Tryz.func245, Tryz.ntmps245
  go_wp2_with fail
  go_at_call 78; refine h.mono ?_; rintro e w1 ⟨rfl, rfl⟩
  go_wp2_with fail
  go_ret
  exact ⟨rfl, rfl⟩
theorem rel_done_nil (w : World) : Calls Tryz.prog 245 #[.pointer none] w fun e w' => e = .returned (.bool true) ∧ w = w' := by
  go_enter Tryz.func245, Tryz.ntmps245
  go_wp2_with fail
  go_ret
  exact ⟨rfl, rfl⟩

end Go.Proofs.YthjfbknmdligeaaGreat
