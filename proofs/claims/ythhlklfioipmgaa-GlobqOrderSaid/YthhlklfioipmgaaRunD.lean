/- Machines: their Step and Done ask their flow; how they are run. -/
import Derived.Test.YthhlklfioipmgaaFlRun
import Derived.Stop.Asserts
namespace Go.Proofs.Ythhlklfioipmgaa
open Go Go.RowKit
set_option linter.unusedVariables false
set_option maxRecDepth 100000
set_option linter.unusedSimpArgs false

theorem set_twice {cs : Array Value} (u v : Value) : (cs.setIfInBounds 1 u).setIfInBounds 1 v = cs.setIfInBounds 1 v := by
  apply Array.ext_getElem?
  intro i
  rw [Array.getElem?_setIfInBounds, Array.getElem?_setIfInBounds, Array.getElem?_setIfInBounds, Array.size_setIfInBounds]
  by_cases h : 1 = i
  · simp [h]
  · simp [h]








theorem stepby_qput : StepBy 8 := by
  intro w x mv M h
  go_enter Try.func8, Try.ntmps8
  go_wp2_with fail
  go_at_call 37; refine h.mono ?_; rintro e w1 ⟨z, rfl, h1⟩
  go_wp2_with fail
  go_ret
  exact ⟨z, rfl, h1⟩
theorem step_nil_qput (w : World) (mv : Value) : Calls Try.prog 8 #[.pointer none, mv] w fun e w' => e = .returned (.bool true) ∧ w = w' := by
  go_enter Try.func8, Try.ntmps8
  go_wp2_with fail
  go_ret
  exact ⟨rfl, rfl⟩
theorem done_qput (w : World) (x : Nat) (nx : Option Addr) (hc : w.cell? ⟨x, 1, none⟩ = some (.pointer nx)) :
    Calls Try.prog 132 #[.pointer (some ⟨x, 0, none⟩)] w fun e w' => e = .returned (.bool nx.isNone) ∧ w = w' := by
  have h := fdone_any w x nx hc
  go_enter Try.func132, Try.ntmps132
  go_wp2_with fail
  go_at_call 40; refine h.mono ?_; rintro e w1 ⟨rfl, rfl⟩
  go_wp2_with fail
  go_ret
  exact ⟨rfl, rfl⟩
theorem done_nil_qput (w : World) : Calls Try.prog 132 #[.pointer none] w fun e w' => e = .returned (.bool true) ∧ w = w' := by
  go_enter Try.func132, Try.ntmps132
  go_wp2_with fail
  go_ret
  exact ⟨rfl, rfl⟩

theorem stepby_qpull : StepBy 10 := by
  intro w x mv M h
  go_enter Try.func10, Try.ntmps10
  go_wp2_with fail
  go_at_call 37; refine h.mono ?_; rintro e w1 ⟨z, rfl, h1⟩
  go_wp2_with fail
  go_ret
  exact ⟨z, rfl, h1⟩
theorem step_nil_qpull (w : World) (mv : Value) : Calls Try.prog 10 #[.pointer none, mv] w fun e w' => e = .returned (.bool true) ∧ w = w' := by
  go_enter Try.func10, Try.ntmps10
  go_wp2_with fail
  go_ret
  exact ⟨rfl, rfl⟩
theorem done_qpull (w : World) (x : Nat) (nx : Option Addr) (hc : w.cell? ⟨x, 1, none⟩ = some (.pointer nx)) :
    Calls Try.prog 11 #[.pointer (some ⟨x, 0, none⟩)] w fun e w' => e = .returned (.bool nx.isNone) ∧ w = w' := by
  have h := fdone_any w x nx hc
  go_enter Try.func11, Try.ntmps11
  go_wp2_with fail
  go_at_call 40; refine h.mono ?_; rintro e w1 ⟨rfl, rfl⟩
  go_wp2_with fail
  go_ret
  exact ⟨rfl, rfl⟩
theorem done_nil_qpull (w : World) : Calls Try.prog 11 #[.pointer none] w fun e w' => e = .returned (.bool true) ∧ w = w' := by
  go_enter Try.func11, Try.ntmps11
  go_wp2_with fail
  go_ret
  exact ⟨rfl, rfl⟩

theorem stepby_qtake : StepBy 30 := by
  intro w x mv M h
  go_enter Try.func30, Try.ntmps30
  go_wp2_with fail
  go_at_call 37; refine h.mono ?_; rintro e w1 ⟨z, rfl, h1⟩
  go_wp2_with fail
  go_ret
  exact ⟨z, rfl, h1⟩
theorem step_nil_qtake (w : World) (mv : Value) : Calls Try.prog 30 #[.pointer none, mv] w fun e w' => e = .returned (.bool true) ∧ w = w' := by
  go_enter Try.func30, Try.ntmps30
  go_wp2_with fail
  go_ret
  exact ⟨rfl, rfl⟩
theorem done_qtake (w : World) (x : Nat) (nx : Option Addr) (hc : w.cell? ⟨x, 1, none⟩ = some (.pointer nx)) :
    Calls Try.prog 32 #[.pointer (some ⟨x, 0, none⟩)] w fun e w' => e = .returned (.bool nx.isNone) ∧ w = w' := by
  have h := fdone_any w x nx hc
  go_enter Try.func32, Try.ntmps32
  go_wp2_with fail
  go_at_call 40; refine h.mono ?_; rintro e w1 ⟨rfl, rfl⟩
  go_wp2_with fail
  go_ret
  exact ⟨rfl, rfl⟩
theorem done_nil_qtake (w : World) : Calls Try.prog 32 #[.pointer none] w fun e w' => e = .returned (.bool true) ∧ w = w' := by
  go_enter Try.func32, Try.ntmps32
  go_wp2_with fail
  go_ret
  exact ⟨rfl, rfl⟩



theorem stepby_steal : StepBy 19 := by
  intro w x mv M h
  go_enter Try.func19, Try.ntmps19
  go_wp2_with fail
  go_at_call 37; refine h.mono ?_; rintro e w1 ⟨z, rfl, h1⟩
  go_wp2_with fail
  go_ret
  exact ⟨z, rfl, h1⟩
theorem step_nil_steal (w : World) (mv : Value) : Calls Try.prog 19 #[.pointer none, mv] w fun e w' => e = .returned (.bool true) ∧ w = w' := by
  go_enter Try.func19, Try.ntmps19
  go_wp2_with fail
  go_ret
  exact ⟨rfl, rfl⟩
theorem done_steal (w : World) (x : Nat) (nx : Option Addr) (hc : w.cell? ⟨x, 1, none⟩ = some (.pointer nx)) :
    Calls Try.prog 20 #[.pointer (some ⟨x, 0, none⟩)] w fun e w' => e = .returned (.bool nx.isNone) ∧ w = w' := by
  have h := fdone_any w x nx hc
  go_enter Try.func20, Try.ntmps20
  go_wp2_with fail
  go_at_call 40; refine h.mono ?_; rintro e w1 ⟨rfl, rfl⟩
  go_wp2_with fail
  go_ret
  exact ⟨rfl, rfl⟩
theorem done_nil_steal (w : World) : Calls Try.prog 20 #[.pointer none] w fun e w' => e = .returned (.bool true) ∧ w = w' := by
  go_enter Try.func20, Try.ntmps20
  go_wp2_with fail
  go_ret
  exact ⟨rfl, rfl⟩








end Go.Proofs.Ythhlklfioipmgaa
