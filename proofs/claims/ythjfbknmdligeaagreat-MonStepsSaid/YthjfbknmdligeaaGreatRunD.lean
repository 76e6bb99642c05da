/- Machines: their Step and Done ask their flow; how they are run. -/
import Derived.Test.YthjfbknmdligeaaGreatFlRun
import Derived.Stop.Asserts
namespace Go.Proofs.YthjfbknmdligeaaGreat
open Go Go.RowKit
set_option linter.unusedVariables false
set_option maxRecDepth 100000
set_option linter.unusedSimpArgs false

theorem set_twice {cs : Array Value} (u v : Value) : (cs.setIfInBounds 1 u).setIfInBounds 1 v = cs.setIfInBounds 1 v := by
  apply Array.ext_getElem?
  intro i
  rw [Array.getElem?_setIfInBounds, Array.getElem?_setIfInBounds, Array.getElem?_setIfInBounds, Array.size_setIfInBounds]
  by_cases h : 1 = i
  · simp [h]
  · simp [h]


theorem stepby_acq : StepBy 244 := by
  intro w x mv M h
  go_enter Tryz.func244, Tryz.ntmps244
  go_wp2_with fail
  go_at_call 52; refine h.mono ?_; rintro e w1 ⟨z, rfl, h1⟩
  go_wp2_with fail
  go_ret
  exact ⟨z, rfl, h1⟩
theorem step_nil_acq (w : World) (mv : Value) : Calls Tryz.prog 244 #[.pointer none, mv] w fun e w' => e = .returned (.bool true) ∧ w = w' := by
  go_enter Tryz.func244, Tryz.ntmps244
  go_wp2_with fail
  go_ret
  exact ⟨rfl, rfl⟩
theorem done_acq (w : World) (x : Nat) (nx : Option Addr) (hc : w.cell? ⟨x, 1, none⟩ = some (.pointer nx)) :
    Calls Tryz.prog 243 #[.pointer (some ⟨x, 0, none⟩)] w fun e w' => e = .returned (.bool nx.isNone) ∧ w = w' := by
  have h := fdone_any w x nx hc
  go_enter Tryz.func243, Tryz.ntmps243
  go_wp2_with fail
  go_at_call 78; refine h.mono ?_; rintro e w1 ⟨rfl, rfl⟩
  go_wp2_with fail
  go_ret
  exact ⟨rfl, rfl⟩
theorem done_nil_acq (w : World) : Calls Tryz.prog 243 #[.pointer none] w fun e w' => e = .returned (.bool true) ∧ w = w' := by
  go_enter Tryz.func243, Tryz.ntmps243
  go_wp2_with fail
  go_ret
  exact ⟨rfl, rfl⟩

theorem stepby_rel : StepBy 246 := by
  intro w x mv M h
  go_enter Tryz.func246, Tryz.ntmps246
  go_wp2_with fail
  go_at_call 52; refine h.mono ?_; rintro e w1 ⟨z, rfl, h1⟩
  go_wp2_with fail
  go_ret
  exact ⟨z, rfl, h1⟩
theorem step_nil_rel (w : World) (mv : Value) : Calls Tryz.prog 246 #[.pointer none, mv] w fun e w' => e = .returned (.bool true) ∧ w = w' := by
  go_enter Tryz.func246, Tryz.ntmps246
  go_wp2_with fail
  go_ret
  exact ⟨rfl, rfl⟩
theorem done_rel (w : World) (x : Nat) (nx : Option Addr) (hc : w.cell? ⟨x, 1, none⟩ = some (.pointer nx)) :
    Calls Tryz.prog 245 #[.pointer (some ⟨x, 0, none⟩)] w fun e w' => e = .returned (.bool nx.isNone) ∧ w = w' := by
  have h := fdone_any w x nx hc
  go_enter Tryz.func245, Tryz.ntmps245
  go_wp2_with fail
  go_at_call 78; refine h.mono ?_; rintro e w1 ⟨rfl, rfl⟩
  go_wp2_with fail
  go_ret
  exact ⟨rfl, rfl⟩
theorem done_nil_rel (w : World) : Calls Tryz.prog 245 #[.pointer none] w fun e w' => e = .returned (.bool true) ∧ w = w' := by
  go_enter Tryz.func245, Tryz.ntmps245
  go_wp2_with fail
  go_ret
  exact ⟨rfl, rfl⟩




theorem stepby_look : StepBy 233 := by
  intro w x mv M h
  go_enter Tryz.func233, Tryz.ntmps233
  go_wp2_with fail
  go_at_call 52; refine h.mono ?_; rintro e w1 ⟨z, rfl, h1⟩
  go_wp2_with fail
  go_ret
  exact ⟨z, rfl, h1⟩
theorem step_nil_look (w : World) (mv : Value) : Calls Tryz.prog 233 #[.pointer none, mv] w fun e w' => e = .returned (.bool true) ∧ w = w' := by
  go_enter Tryz.func233, Tryz.ntmps233
  go_wp2_with fail
  go_ret
  exact ⟨rfl, rfl⟩
theorem done_look (w : World) (x : Nat) (nx : Option Addr) (hc : w.cell? ⟨x, 1, none⟩ = some (.pointer nx)) :
    Calls Tryz.prog 232 #[.pointer (some ⟨x, 0, none⟩)] w fun e w' => e = .returned (.bool nx.isNone) ∧ w = w' := by
  have h := fdone_any w x nx hc
  go_enter Tryz.func232, Tryz.ntmps232
  go_wp2_with fail
  go_at_call 78; refine h.mono ?_; rintro e w1 ⟨rfl, rfl⟩
  go_wp2_with fail
  go_ret
  exact ⟨rfl, rfl⟩
theorem done_nil_look (w : World) : Calls Tryz.prog 232 #[.pointer none] w fun e w' => e = .returned (.bool true) ∧ w = w' := by
  go_enter Tryz.func232, Tryz.ntmps232
  go_wp2_with fail
  go_ret
  exact ⟨rfl, rfl⟩







theorem stepby_ipp : StepBy 240 := by
  intro w x mv M h
  go_enter Tryz.func240, Tryz.ntmps240
  go_wp2_with fail
  go_at_call 52; refine h.mono ?_; rintro e w1 ⟨z, rfl, h1⟩
  go_wp2_with fail
  go_ret
  exact ⟨z, rfl, h1⟩
theorem step_nil_ipp (w : World) (mv : Value) : Calls Tryz.prog 240 #[.pointer none, mv] w fun e w' => e = .returned (.bool true) ∧ w = w' := by
  go_enter Tryz.func240, Tryz.ntmps240
  go_wp2_with fail
  go_ret
  exact ⟨rfl, rfl⟩
theorem done_ipp (w : World) (x : Nat) (nx : Option Addr) (hc : w.cell? ⟨x, 1, none⟩ = some (.pointer nx)) :
    Calls Tryz.prog 239 #[.pointer (some ⟨x, 0, none⟩)] w fun e w' => e = .returned (.bool nx.isNone) ∧ w = w' := by
  have h := fdone_any w x nx hc
  go_enter Tryz.func239, Tryz.ntmps239
  go_wp2_with fail
  go_at_call 78; refine h.mono ?_; rintro e w1 ⟨rfl, rfl⟩
  go_wp2_with fail
  go_ret
  exact ⟨rfl, rfl⟩
theorem done_nil_ipp (w : World) : Calls Tryz.prog 239 #[.pointer none] w fun e w' => e = .returned (.bool true) ∧ w = w' := by
  go_enter Tryz.func239, Tryz.ntmps239
  go_wp2_with fail
  go_ret
  exact ⟨rfl, rfl⟩



theorem stepby_img : StepBy 242 := by
  intro w x mv M h
  go_enter Tryz.func242, Tryz.ntmps242
  go_wp2_with fail
  go_at_call 52; refine h.mono ?_; rintro e w1 ⟨z, rfl, h1⟩
  go_wp2_with fail
  go_ret
  exact ⟨z, rfl, h1⟩
theorem step_nil_img (w : World) (mv : Value) : Calls Tryz.prog 242 #[.pointer none, mv] w fun e w' => e = .returned (.bool true) ∧ w = w' := by
  go_enter Tryz.func242, Tryz.ntmps242
  go_wp2_with fail
  go_ret
  exact ⟨rfl, rfl⟩
theorem done_img (w : World) (x : Nat) (nx : Option Addr) (hc : w.cell? ⟨x, 1, none⟩ = some (.pointer nx)) :
    Calls Tryz.prog 241 #[.pointer (some ⟨x, 0, none⟩)] w fun e w' => e = .returned (.bool nx.isNone) ∧ w = w' := by
  have h := fdone_any w x nx hc
  go_enter Tryz.func241, Tryz.ntmps241
  go_wp2_with fail
  go_at_call 78; refine h.mono ?_; rintro e w1 ⟨rfl, rfl⟩
  go_wp2_with fail
  go_ret
  exact ⟨rfl, rfl⟩
theorem done_nil_img (w : World) : Calls Tryz.prog 241 #[.pointer none] w fun e w' => e = .returned (.bool true) ∧ w = w' := by
  go_enter Tryz.func241, Tryz.ntmps241
  go_wp2_with fail
  go_ret
  exact ⟨rfl, rfl⟩

theorem stepby_wst : StepBy 238 := by
  intro w x mv M h
  go_enter Tryz.func238, Tryz.ntmps238
  go_wp2_with fail
  go_at_call 52; refine h.mono ?_; rintro e w1 ⟨z, rfl, h1⟩
  go_wp2_with fail
  go_ret
  exact ⟨z, rfl, h1⟩
theorem step_nil_wst (w : World) (mv : Value) : Calls Tryz.prog 238 #[.pointer none, mv] w fun e w' => e = .returned (.bool true) ∧ w = w' := by
  go_enter Tryz.func238, Tryz.ntmps238
  go_wp2_with fail
  go_ret
  exact ⟨rfl, rfl⟩
theorem done_wst (w : World) (x : Nat) (nx : Option Addr) (hc : w.cell? ⟨x, 1, none⟩ = some (.pointer nx)) :
    Calls Tryz.prog 237 #[.pointer (some ⟨x, 0, none⟩)] w fun e w' => e = .returned (.bool nx.isNone) ∧ w = w' := by
  have h := fdone_any w x nx hc
  go_enter Tryz.func237, Tryz.ntmps237
  go_wp2_with fail
  go_at_call 78; refine h.mono ?_; rintro e w1 ⟨rfl, rfl⟩
  go_wp2_with fail
  go_ret
  exact ⟨rfl, rfl⟩
theorem done_nil_wst (w : World) : Calls Tryz.prog 237 #[.pointer none] w fun e w' => e = .returned (.bool true) ∧ w = w' := by
  go_enter Tryz.func237, Tryz.ntmps237
  go_wp2_with fail
  go_ret
  exact ⟨rfl, rfl⟩


theorem stepby_nwk : StepBy 248 := by
  intro w x mv M h
  go_enter Tryz.func248, Tryz.ntmps248
  go_wp2_with fail
  go_at_call 52; refine h.mono ?_; rintro e w1 ⟨z, rfl, h1⟩
  go_wp2_with fail
  go_ret
  exact ⟨z, rfl, h1⟩
theorem step_nil_nwk (w : World) (mv : Value) : Calls Tryz.prog 248 #[.pointer none, mv] w fun e w' => e = .returned (.bool true) ∧ w = w' := by
  go_enter Tryz.func248, Tryz.ntmps248
  go_wp2_with fail
  go_ret
  exact ⟨rfl, rfl⟩
theorem done_nwk (w : World) (x : Nat) (nx : Option Addr) (hc : w.cell? ⟨x, 1, none⟩ = some (.pointer nx)) :
    Calls Tryz.prog 247 #[.pointer (some ⟨x, 0, none⟩)] w fun e w' => e = .returned (.bool nx.isNone) ∧ w = w' := by
  have h := fdone_any w x nx hc
  go_enter Tryz.func247, Tryz.ntmps247
  go_wp2_with fail
  go_at_call 78; refine h.mono ?_; rintro e w1 ⟨rfl, rfl⟩
  go_wp2_with fail
  go_ret
  exact ⟨rfl, rfl⟩
theorem done_nil_nwk (w : World) : Calls Tryz.prog 247 #[.pointer none] w fun e w' => e = .returned (.bool true) ∧ w = w' := by
  go_enter Tryz.func247, Tryz.ntmps247
  go_wp2_with fail
  go_ret
  exact ⟨rfl, rfl⟩

end Go.Proofs.YthjfbknmdligeaaGreat
