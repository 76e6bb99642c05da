/- What follows, in a box; and the machines' own Step, Done and Asleep, which ask their flow. -/
import Derived.Test.YtcjidigpdecdlaaGreatFlow5
namespace Go.Proofs.YtcjidigpdecdlaaGreat
open Go Go.RowKit
set_option linter.unusedVariables false
set_option maxRecDepth 100000
set_option linter.unusedSimpArgs false

theorem run_untold_nil (w : World) (g : Nat) (a : Value) (h : Blk w g #[.nilFunc] 1) :
    Calls Tryz.prog 197 #[a, .pointer (some ⟨g, 0, none⟩)] w fun e w' => (∃ v, e = .returned v) ∧ w = w' := by
  have c0 := h.cell 0 (v := .nilFunc) rfl
  have hq := nilNeq1
  clear h
  go_enter Tryz.func197, Tryz.ntmps197
  go_wp2_with fail
  go_end0
  exact ⟨⟨_, rfl⟩, rfl⟩
theorem run_untold (w : World) (g K : Nat) (a : Value) (first cap : Array Value) (M : World → Prop) (h : Blk w g #[.func (.func K) first cap] 1)
    (hent : ∀ w, (callFunc K (first ++ cap)).run Tryz.prog w = .ok (.enter K (first ++ cap)) w)
    (hk : Calls Tryz.prog K (first ++ cap) w fun e w' => (∃ v, e = .returned v) ∧ M w') :
    Calls Tryz.prog 197 #[a, .pointer (some ⟨g, 0, none⟩)] w fun e w' => (∃ v, e = .returned v) ∧ M w' := by
  have c0 := h.cell 0 (v := .func (.func K) first cap) rfl
  have hq := neq1
  clear h
  go_enter Tryz.func197, Tryz.ntmps197
  go_wp2_with fail
  refine hk.mono ?_
  rintro e w1 ⟨⟨v, rfl⟩, h1⟩
  go_wp2_with fail
  go_end0
  exact ⟨⟨_, rfl⟩, h1⟩
theorem ent222 (args : Array Value) (w : World) : (callFunc 222 args).run Tryz.prog w = .ok (.enter 222 args) w := by kernel_rfl
theorem ent262 (args : Array Value) (w : World) : (callFunc 262 args).run Tryz.prog w = .ok (.enter 262 args) w := by kernel_rfl
theorem ent261 (args : Array Value) (w : World) : (callFunc 261 args).run Tryz.prog w = .ok (.enter 261 args) w := by kernel_rfl
theorem ent197 (args : Array Value) (w : World) : (callFunc 197 args).run Tryz.prog w = .ok (.enter 197 args) w := by kernel_rfl

theorem acq_step (w : World) (x : Nat) (mv : Value) (M : Bool → World → Prop) (h : Calls Tryz.prog 106 #[.pointer (some ⟨x, 0, none⟩), mv] w fun e w' => ∃ z, e = .returned (.bool z) ∧ M z w') :
    Calls Tryz.prog 377 #[.pointer (some ⟨x, 0, none⟩), mv] w fun e w' => ∃ z, e = .returned (.bool z) ∧ M z w' := by
  go_enter Tryz.func377, Tryz.ntmps377
  go_wp2_with fail
  go_at_call 106; refine h.mono ?_; rintro e w1 ⟨z, rfl, h1⟩
  go_wp2_with fail
  go_ret
  exact ⟨z, rfl, h1⟩
theorem acq_step_nil (w : World) (mv : Value) : Calls Tryz.prog 377 #[.pointer none, mv] w fun e w' => e = .returned (.bool true) ∧ w = w' := by
  go_enter Tryz.func377, Tryz.ntmps377
  go_wp2_with fail
  go_ret
  exact ⟨rfl, rfl⟩
theorem acq_done (w : World) (x : Nat) (nx : Option Addr) (hc : w.cell? ⟨x, 1, none⟩ = some (.pointer nx)) :
    Calls Tryz.prog 376 #[.pointer (some ⟨x, 0, none⟩)] w fun e w' => e = .returned (.bool nx.isNone) ∧ w = w' := by
  have h := fdone_any w x nx hc
  go_enter Tryz.func376, Tryz.ntmps376
  go_wp2_with fail
  go_at_call 100; refine h.mono ?_; rintro e w1 ⟨rfl, rfl⟩
  go_wp2_with fail
  go_ret
  exact ⟨rfl, rfl⟩
theorem acq_done_nil (w : World) : Calls Tryz.prog 376 #[.pointer none] w fun e w' => e = .returned (.bool true) ∧ w = w' := by
  go_enter Tryz.func376, Tryz.ntmps376
  go_wp2_with fail
  go_ret
  exact ⟨rfl, rfl⟩

theorem rel_step (w : World) (x : Nat) (mv : Value) (M : Bool → World → Prop) (h : Calls Tryz.prog 106 #[.pointer (some ⟨x, 0, none⟩), mv] w fun e w' => ∃ z, e = .returned (.bool z) ∧ M z w') :
    Calls Tryz.prog 383 #[.pointer (some ⟨x, 0, none⟩), mv] w fun e w' => ∃ z, e = .returned (.bool z) ∧ M z w' := by
  go_enter Tryz.func383, Tryz.ntmps383
  go_wp2_with fail
  go_at_call 106; refine h.mono ?_; rintro e w1 ⟨z, rfl, h1⟩
  go_wp2_with fail
  go_ret
  exact ⟨z, rfl, h1⟩
theorem rel_step_nil (w : World) (mv : Value) : Calls Tryz.prog 383 #[.pointer none, mv] w fun e w' => e = .returned (.bool true) ∧ w = w' := by
  go_enter Tryz.func383, Tryz.ntmps383
  go_wp2_with fail
  go_ret
  exact ⟨rfl, rfl⟩
theorem rel_done (w : World) (x : Nat) (nx : Option Addr) (hc : w.cell? ⟨x, 1, none⟩ = some (.pointer nx)) :
    Calls Tryz.prog 382 #[.pointer (some ⟨x, 0, none⟩)] w fun e w' => e = .returned (.bool nx.isNone) ∧ w = w' := by
  have h := fdone_any w x nx hc
  go_enter Tryz.func382, Tryz.ntmps382
  go_wp2_with fail
  go_at_call 100; refine h.mono ?_; rintro e w1 ⟨rfl, rfl⟩
  go_wp2_with fail
  go_ret
  exact ⟨rfl, rfl⟩
theorem rel_done_nil (w : World) : Calls Tryz.prog 382 #[.pointer none] w fun e w' => e = .returned (.bool true) ∧ w = w' := by
  go_enter Tryz.func382, Tryz.ntmps382
  go_wp2_with fail
  go_ret
  exact ⟨rfl, rfl⟩

end Go.Proofs.YtcjidigpdecdlaaGreat
