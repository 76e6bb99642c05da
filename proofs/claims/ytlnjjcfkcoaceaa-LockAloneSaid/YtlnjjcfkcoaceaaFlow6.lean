/- What follows, in a box; and the machines' own Step, Done and Asleep, which ask their flow. -/
import Derived.Test.YtlnjjcfkcoaceaaFlow5
namespace Go.Proofs.Ytlnjjcfkcoaceaa
open Go Go.RowKit
set_option linter.unusedVariables false
set_option maxRecDepth 100000
set_option linter.unusedSimpArgs false

theorem run_untold_nil (w : World) (g : Nat) (a : Value) (h : Blk w g #[.nilFunc] 1) :
    Calls Try.prog 160 #[a, .pointer (some ⟨g, 0, none⟩)] w fun e w' => (∃ v, e = .returned v) ∧ w = w' := by
  have c0 := h.cell 0 (v := .nilFunc) rfl
  have hq := nilNeq1
  clear h
  go_enter Try.func160, Try.ntmps160
  go_wp2_with fail
  go_end0
  exact ⟨⟨_, rfl⟩, rfl⟩
theorem run_untold (w : World) (g K : Nat) (a : Value) (first cap : Array Value) (M : World → Prop) (h : Blk w g #[.func (.func K) first cap] 1)
    (hent : ∀ w, (callFunc K (first ++ cap)).run Try.prog w = .ok (.enter K (first ++ cap)) w)
    (hk : Calls Try.prog K (first ++ cap) w fun e w' => (∃ v, e = .returned v) ∧ M w') :
    Calls Try.prog 160 #[a, .pointer (some ⟨g, 0, none⟩)] w fun e w' => (∃ v, e = .returned v) ∧ M w' := by
  have c0 := h.cell 0 (v := .func (.func K) first cap) rfl
  have hq := neq1
  clear h
  go_enter Try.func160, Try.ntmps160
  go_wp2_with fail
  refine hk.mono ?_
  rintro e w1 ⟨⟨v, rfl⟩, h1⟩
  go_wp2_with fail
  go_end0
  exact ⟨⟨_, rfl⟩, h1⟩
theorem ent93 (args : Array Value) (w : World) : (callFunc 93 args).run Try.prog w = .ok (.enter 93 args) w := by kernel_rfl
theorem ent96 (args : Array Value) (w : World) : (callFunc 96 args).run Try.prog w = .ok (.enter 96 args) w := by kernel_rfl
theorem ent119 (args : Array Value) (w : World) : (callFunc 119 args).run Try.prog w = .ok (.enter 119 args) w := by kernel_rfl
theorem ent121 (args : Array Value) (w : World) : (callFunc 121 args).run Try.prog w = .ok (.enter 121 args) w := by kernel_rfl
theorem ent159 (args : Array Value) (w : World) : (callFunc 159 args).run Try.prog w = .ok (.enter 159 args) w := by kernel_rfl
theorem ent160 (args : Array Value) (w : World) : (callFunc 160 args).run Try.prog w = .ok (.enter 160 args) w := by kernel_rfl

theorem chain_step (w : World) (x : Nat) (mv : Value) (M : Bool → World → Prop) (h : Calls Try.prog 84 #[.pointer (some ⟨x, 0, none⟩), mv] w fun e w' => ∃ z, e = .returned (.bool z) ∧ M z w') :
    Calls Try.prog 21 #[.pointer (some ⟨x, 0, none⟩), mv] w fun e w' => ∃ z, e = .returned (.bool z) ∧ M z w' := by
  go_enter Try.func21, Try.ntmps21
  go_wp2_with fail
  go_at_call 84; refine h.mono ?_; rintro e w1 ⟨z, rfl, h1⟩
  go_wp2_with fail
  go_ret
  exact ⟨z, rfl, h1⟩
theorem chain_step_nil (w : World) (mv : Value) : Calls Try.prog 21 #[.pointer none, mv] w fun e w' => e = .returned (.bool true) ∧ w = w' := by
  go_enter Try.func21, Try.ntmps21
  go_wp2_with fail
  go_ret
  exact ⟨rfl, rfl⟩
theorem chain_done (w : World) (x : Nat) (nx : Option Addr) (hc : w.cell? ⟨x, 1, none⟩ = some (.pointer nx)) :
    Calls Try.prog 18 #[.pointer (some ⟨x, 0, none⟩)] w fun e w' => e = .returned (.bool nx.isNone) ∧ w = w' := by
  have h := fdone_any w x nx hc
  go_enter Try.func18, Try.ntmps18
  go_wp2_with fail
  go_at_call 82; refine h.mono ?_; rintro e w1 ⟨rfl, rfl⟩
  go_wp2_with fail
  go_ret
  exact ⟨rfl, rfl⟩
theorem chain_done_nil (w : World) : Calls Try.prog 18 #[.pointer none] w fun e w' => e = .returned (.bool true) ∧ w = w' := by
  go_enter Try.func18, Try.ntmps18
  go_wp2_with fail
  go_ret
  exact ⟨rfl, rfl⟩

theorem acq_step (w : World) (x : Nat) (mv : Value) (M : Bool → World → Prop) (h : Calls Try.prog 84 #[.pointer (some ⟨x, 0, none⟩), mv] w fun e w' => ∃ z, e = .returned (.bool z) ∧ M z w') :
    Calls Try.prog 34 #[.pointer (some ⟨x, 0, none⟩), mv] w fun e w' => ∃ z, e = .returned (.bool z) ∧ M z w' := by
  go_enter Try.func34, Try.ntmps34
  go_wp2_with fail
  go_at_call 84; refine h.mono ?_; rintro e w1 ⟨z, rfl, h1⟩
  go_wp2_with fail
  go_ret
  exact ⟨z, rfl, h1⟩
theorem acq_step_nil (w : World) (mv : Value) : Calls Try.prog 34 #[.pointer none, mv] w fun e w' => e = .returned (.bool true) ∧ w = w' := by
  go_enter Try.func34, Try.ntmps34
  go_wp2_with fail
  go_ret
  exact ⟨rfl, rfl⟩
theorem acq_done (w : World) (x : Nat) (nx : Option Addr) (hc : w.cell? ⟨x, 1, none⟩ = some (.pointer nx)) :
    Calls Try.prog 85 #[.pointer (some ⟨x, 0, none⟩)] w fun e w' => e = .returned (.bool nx.isNone) ∧ w = w' := by
  have h := fdone_any w x nx hc
  go_enter Try.func85, Try.ntmps85
  go_wp2_with fail
  go_at_call 82; refine h.mono ?_; rintro e w1 ⟨rfl, rfl⟩
  go_wp2_with fail
  go_ret
  exact ⟨rfl, rfl⟩
theorem acq_done_nil (w : World) : Calls Try.prog 85 #[.pointer none] w fun e w' => e = .returned (.bool true) ∧ w = w' := by
  go_enter Try.func85, Try.ntmps85
  go_wp2_with fail
  go_ret
  exact ⟨rfl, rfl⟩

theorem rel_step (w : World) (x : Nat) (mv : Value) (M : Bool → World → Prop) (h : Calls Try.prog 84 #[.pointer (some ⟨x, 0, none⟩), mv] w fun e w' => ∃ z, e = .returned (.bool z) ∧ M z w') :
    Calls Try.prog 33 #[.pointer (some ⟨x, 0, none⟩), mv] w fun e w' => ∃ z, e = .returned (.bool z) ∧ M z w' := by
  go_enter Try.func33, Try.ntmps33
  go_wp2_with fail
  go_at_call 84; refine h.mono ?_; rintro e w1 ⟨z, rfl, h1⟩
  go_wp2_with fail
  go_ret
  exact ⟨z, rfl, h1⟩
theorem rel_step_nil (w : World) (mv : Value) : Calls Try.prog 33 #[.pointer none, mv] w fun e w' => e = .returned (.bool true) ∧ w = w' := by
  go_enter Try.func33, Try.ntmps33
  go_wp2_with fail
  go_ret
  exact ⟨rfl, rfl⟩
theorem rel_done (w : World) (x : Nat) (nx : Option Addr) (hc : w.cell? ⟨x, 1, none⟩ = some (.pointer nx)) :
    Calls Try.prog 31 #[.pointer (some ⟨x, 0, none⟩)] w fun e w' => e = .returned (.bool nx.isNone) ∧ w = w' := by
  have h := fdone_any w x nx hc
  go_enter Try.func31, Try.ntmps31
  go_wp2_with fail
  go_at_call 82; refine h.mono ?_; rintro e w1 ⟨rfl, rfl⟩
  go_wp2_with fail
  go_ret
  exact ⟨rfl, rfl⟩
theorem rel_done_nil (w : World) : Calls Try.prog 31 #[.pointer none] w fun e w' => e = .returned (.bool true) ∧ w = w' := by
  go_enter Try.func31, Try.ntmps31
  go_wp2_with fail
  go_ret
  exact ⟨rfl, rfl⟩

theorem chain_asleep (w : World) (x : Nat) (mv : Value) (z : Bool) (M : World → Prop) (h : Calls Try.prog 83 #[.pointer (some ⟨x, 0, none⟩), mv] w fun e w' => e = .returned (.bool z) ∧ M w') :
    Calls Try.prog 19 #[.pointer (some ⟨x, 0, none⟩), mv] w fun e w' => e = .returned (.bool z) ∧ M w' := by
  go_enter Try.func19, Try.ntmps19
  go_wp2_with fail
  go_at_call 83; refine h.mono ?_; rintro e w1 ⟨rfl, h1⟩
  go_wp2_with fail
  go_ret
  exact ⟨rfl, h1⟩
theorem chain_asleep_nil (w : World) (mv : Value) : Calls Try.prog 19 #[.pointer none, mv] w fun e w' => e = .returned (.bool false) ∧ w = w' := by
  go_enter Try.func19, Try.ntmps19
  go_wp2_with fail
  go_ret
  exact ⟨rfl, rfl⟩

end Go.Proofs.Ytlnjjcfkcoaceaa
