/- What follows, in a box; and the machines' own Step, Done and Asleep, which ask their flow. -/
import Derived.Test.YtiagkeakohkfgaaFlow5
namespace Go.Proofs.Ytiagkeakohkfgaa
open Go Go.RowKit
set_option linter.unusedVariables false
set_option maxRecDepth 100000
set_option linter.unusedSimpArgs false

theorem run_untold_nil (w : World) (g : Nat) (a : Value) (h : Blk w g #[.nilFunc] 1) :
    Calls Try.prog 169 #[a, .pointer (some ⟨g, 0, none⟩)] w fun e w' => (∃ v, e = .returned v) ∧ w = w' := by
  have c0 := h.cell 0 (v := .nilFunc) rfl
  have hq := nilNeq1
  clear h
  go_enter Try.func169, Try.ntmps169
  go_wp2_with fail
  go_end0
  exact ⟨⟨_, rfl⟩, rfl⟩
theorem run_untold (w : World) (g K : Nat) (a : Value) (first cap : Array Value) (M : World → Prop) (h : Blk w g #[.func (.func K) first cap] 1)
    (hent : ∀ w, (callFunc K (first ++ cap)).run Try.prog w = .ok (.enter K (first ++ cap)) w)
    (hk : Calls Try.prog K (first ++ cap) w fun e w' => (∃ v, e = .returned v) ∧ M w') :
    Calls Try.prog 169 #[a, .pointer (some ⟨g, 0, none⟩)] w fun e w' => (∃ v, e = .returned v) ∧ M w' := by
  have c0 := h.cell 0 (v := .func (.func K) first cap) rfl
  have hq := neq1
  clear h
  go_enter Try.func169, Try.ntmps169
  go_wp2_with fail
  refine hk.mono ?_
  rintro e w1 ⟨⟨v, rfl⟩, h1⟩
  go_wp2_with fail
  go_end0
  exact ⟨⟨_, rfl⟩, h1⟩
theorem ent151 (args : Array Value) (w : World) : (callFunc 151 args).run Try.prog w = .ok (.enter 151 args) w := by kernel_rfl
theorem ent191 (args : Array Value) (w : World) : (callFunc 191 args).run Try.prog w = .ok (.enter 191 args) w := by kernel_rfl
theorem ent109 (args : Array Value) (w : World) : (callFunc 109 args).run Try.prog w = .ok (.enter 109 args) w := by kernel_rfl
theorem ent111 (args : Array Value) (w : World) : (callFunc 111 args).run Try.prog w = .ok (.enter 111 args) w := by kernel_rfl
theorem ent184 (args : Array Value) (w : World) : (callFunc 184 args).run Try.prog w = .ok (.enter 184 args) w := by kernel_rfl
theorem ent169 (args : Array Value) (w : World) : (callFunc 169 args).run Try.prog w = .ok (.enter 169 args) w := by kernel_rfl

theorem chain_step (w : World) (x : Nat) (mv : Value) (M : Bool → World → Prop) (h : Calls Try.prog 61 #[.pointer (some ⟨x, 0, none⟩), mv] w fun e w' => ∃ z, e = .returned (.bool z) ∧ M z w') :
    Calls Try.prog 13 #[.pointer (some ⟨x, 0, none⟩), mv] w fun e w' => ∃ z, e = .returned (.bool z) ∧ M z w' := by
  go_enter Try.func13, Try.ntmps13
  go_wp2_with fail
  go_at_call 61; refine h.mono ?_; rintro e w1 ⟨z, rfl, h1⟩
  go_wp2_with fail
  go_ret
  exact ⟨z, rfl, h1⟩
theorem chain_step_nil (w : World) (mv : Value) : Calls Try.prog 13 #[.pointer none, mv] w fun e w' => e = .returned (.bool true) ∧ w = w' := by
  go_enter Try.func13, Try.ntmps13
  go_wp2_with fail
  go_ret
  exact ⟨rfl, rfl⟩
theorem chain_done (w : World) (x : Nat) (nx : Option Addr) (hc : w.cell? ⟨x, 1, none⟩ = some (.pointer nx)) :
    Calls Try.prog 12 #[.pointer (some ⟨x, 0, none⟩)] w fun e w' => e = .returned (.bool nx.isNone) ∧ w = w' := by
  have h := fdone_any w x nx hc
  go_enter Try.func12, Try.ntmps12
  go_wp2_with fail
  go_at_call 60; refine h.mono ?_; rintro e w1 ⟨rfl, rfl⟩
  go_wp2_with fail
  go_ret
  exact ⟨rfl, rfl⟩
theorem chain_done_nil (w : World) : Calls Try.prog 12 #[.pointer none] w fun e w' => e = .returned (.bool true) ∧ w = w' := by
  go_enter Try.func12, Try.ntmps12
  go_wp2_with fail
  go_ret
  exact ⟨rfl, rfl⟩

theorem acq_step (w : World) (x : Nat) (mv : Value) (M : Bool → World → Prop) (h : Calls Try.prog 61 #[.pointer (some ⟨x, 0, none⟩), mv] w fun e w' => ∃ z, e = .returned (.bool z) ∧ M z w') :
    Calls Try.prog 217 #[.pointer (some ⟨x, 0, none⟩), mv] w fun e w' => ∃ z, e = .returned (.bool z) ∧ M z w' := by
  go_enter Try.func217, Try.ntmps217
  go_wp2_with fail
  go_at_call 61; refine h.mono ?_; rintro e w1 ⟨z, rfl, h1⟩
  go_wp2_with fail
  go_ret
  exact ⟨z, rfl, h1⟩
theorem acq_step_nil (w : World) (mv : Value) : Calls Try.prog 217 #[.pointer none, mv] w fun e w' => e = .returned (.bool true) ∧ w = w' := by
  go_enter Try.func217, Try.ntmps217
  go_wp2_with fail
  go_ret
  exact ⟨rfl, rfl⟩
theorem acq_done (w : World) (x : Nat) (nx : Option Addr) (hc : w.cell? ⟨x, 1, none⟩ = some (.pointer nx)) :
    Calls Try.prog 216 #[.pointer (some ⟨x, 0, none⟩)] w fun e w' => e = .returned (.bool nx.isNone) ∧ w = w' := by
  have h := fdone_any w x nx hc
  go_enter Try.func216, Try.ntmps216
  go_wp2_with fail
  go_at_call 60; refine h.mono ?_; rintro e w1 ⟨rfl, rfl⟩
  go_wp2_with fail
  go_ret
  exact ⟨rfl, rfl⟩
theorem acq_done_nil (w : World) : Calls Try.prog 216 #[.pointer none] w fun e w' => e = .returned (.bool true) ∧ w = w' := by
  go_enter Try.func216, Try.ntmps216
  go_wp2_with fail
  go_ret
  exact ⟨rfl, rfl⟩

theorem rel_step (w : World) (x : Nat) (mv : Value) (M : Bool → World → Prop) (h : Calls Try.prog 61 #[.pointer (some ⟨x, 0, none⟩), mv] w fun e w' => ∃ z, e = .returned (.bool z) ∧ M z w') :
    Calls Try.prog 219 #[.pointer (some ⟨x, 0, none⟩), mv] w fun e w' => ∃ z, e = .returned (.bool z) ∧ M z w' := by
  go_enter Try.func219, Try.ntmps219
  go_wp2_with fail
  go_at_call 61; refine h.mono ?_; rintro e w1 ⟨z, rfl, h1⟩
  go_wp2_with fail
  go_ret
  exact ⟨z, rfl, h1⟩
theorem rel_step_nil (w : World) (mv : Value) : Calls Try.prog 219 #[.pointer none, mv] w fun e w' => e = .returned (.bool true) ∧ w = w' := by
  go_enter Try.func219, Try.ntmps219
  go_wp2_with fail
  go_ret
  exact ⟨rfl, rfl⟩
theorem rel_done (w : World) (x : Nat) (nx : Option Addr) (hc : w.cell? ⟨x, 1, none⟩ = some (.pointer nx)) :
    Calls Try.prog 218 #[.pointer (some ⟨x, 0, none⟩)] w fun e w' => e = .returned (.bool nx.isNone) ∧ w = w' := by
  have h := fdone_any w x nx hc
  go_enter Try.func218, Try.ntmps218
  go_wp2_with fail
  go_at_call 60; refine h.mono ?_; rintro e w1 ⟨rfl, rfl⟩
  go_wp2_with fail
  go_ret
  exact ⟨rfl, rfl⟩
theorem rel_done_nil (w : World) : Calls Try.prog 218 #[.pointer none] w fun e w' => e = .returned (.bool true) ∧ w = w' := by
  go_enter Try.func218, Try.ntmps218
  go_wp2_with fail
  go_ret
  exact ⟨rfl, rfl⟩

theorem chain_asleep (w : World) (x : Nat) (mv : Value) (z : Bool) (M : World → Prop) (h : Calls Try.prog 213 #[.pointer (some ⟨x, 0, none⟩), mv] w fun e w' => e = .returned (.bool z) ∧ M w') :
    Calls Try.prog 212 #[.pointer (some ⟨x, 0, none⟩), mv] w fun e w' => e = .returned (.bool z) ∧ M w' := by
  go_enter Try.func212, Try.ntmps212
  go_wp2_with fail
  go_at_call 213; refine h.mono ?_; rintro e w1 ⟨rfl, h1⟩
  go_wp2_with fail
  go_ret
  exact ⟨rfl, h1⟩
theorem chain_asleep_nil (w : World) (mv : Value) : Calls Try.prog 212 #[.pointer none, mv] w fun e w' => e = .returned (.bool false) ∧ w = w' := by
  go_enter Try.func212, Try.ntmps212
  go_wp2_with fail
  go_ret
  exact ⟨rfl, rfl⟩

end Go.Proofs.Ytiagkeakohkfgaa
