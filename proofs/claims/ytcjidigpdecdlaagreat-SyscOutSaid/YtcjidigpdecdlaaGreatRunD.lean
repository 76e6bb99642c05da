/- Machines: their Step and Done ask their flow; how they are run. -/
import Derived.Test.YtcjidigpdecdlaaGreatFlRun
import Derived.Stop.Asserts
namespace Go.Proofs.YtcjidigpdecdlaaGreat
open Go Go.RowKit
set_option linter.unusedVariables false
set_option maxRecDepth 100000
set_option linter.unusedSimpArgs false

theorem set_twice {cs : Array Value} (u v : Value) : (cs.setIfInBounds 1 u).setIfInBounds 1 v = cs.setIfInBounds 1 v := by
  apply Array.ext_getElem?
  intro i
  rw [Array.getElem?_setIfInBounds, Array.getElem?_setIfInBounds, Array.getElem?_setIfInBounds, Array.size_setIfInBounds]
  by_cases h : 1 = i
  · simp [h]
  · simp [h]


theorem stepby_acq : StepBy 377 := by
  intro w x mv M h
  go_enter Tryz.func377, Tryz.ntmps377
  go_wp2_with fail
  go_at_call 106; refine h.mono ?_; rintro e w1 ⟨z, rfl, h1⟩
  go_wp2_with fail
  go_ret
  exact ⟨z, rfl, h1⟩
theorem step_nil_acq (w : World) (mv : Value) : Calls Tryz.prog 377 #[.pointer none, mv] w fun e w' => e = .returned (.bool true) ∧ w = w' := by
  go_enter Tryz.func377, Tryz.ntmps377
  go_wp2_with fail
  go_ret
  exact ⟨rfl, rfl⟩
theorem done_acq (w : World) (x : Nat) (nx : Option Addr) (hc : w.cell? ⟨x, 1, none⟩ = some (.pointer nx)) :
    Calls Tryz.prog 376 #[.pointer (some ⟨x, 0, none⟩)] w fun e w' => e = .returned (.bool nx.isNone) ∧ w = w' := by
  have h := fdone_any w x nx hc
  go_enter Tryz.func376, Tryz.ntmps376
  go_wp2_with fail
  go_at_call 100; refine h.mono ?_; rintro e w1 ⟨rfl, rfl⟩
  go_wp2_with fail
  go_ret
  exact ⟨rfl, rfl⟩
theorem done_nil_acq (w : World) : Calls Tryz.prog 376 #[.pointer none] w fun e w' => e = .returned (.bool true) ∧ w = w' := by
  go_enter Tryz.func376, Tryz.ntmps376
  go_wp2_with fail
  go_ret
  exact ⟨rfl, rfl⟩

theorem stepby_rel : StepBy 383 := by
  intro w x mv M h
  go_enter Tryz.func383, Tryz.ntmps383
  go_wp2_with fail
  go_at_call 106; refine h.mono ?_; rintro e w1 ⟨z, rfl, h1⟩
  go_wp2_with fail
  go_ret
  exact ⟨z, rfl, h1⟩
theorem step_nil_rel (w : World) (mv : Value) : Calls Tryz.prog 383 #[.pointer none, mv] w fun e w' => e = .returned (.bool true) ∧ w = w' := by
  go_enter Tryz.func383, Tryz.ntmps383
  go_wp2_with fail
  go_ret
  exact ⟨rfl, rfl⟩
theorem done_rel (w : World) (x : Nat) (nx : Option Addr) (hc : w.cell? ⟨x, 1, none⟩ = some (.pointer nx)) :
    Calls Tryz.prog 382 #[.pointer (some ⟨x, 0, none⟩)] w fun e w' => e = .returned (.bool nx.isNone) ∧ w = w' := by
  have h := fdone_any w x nx hc
  go_enter Tryz.func382, Tryz.ntmps382
  go_wp2_with fail
  go_at_call 100; refine h.mono ?_; rintro e w1 ⟨rfl, rfl⟩
  go_wp2_with fail
  go_ret
  exact ⟨rfl, rfl⟩
theorem done_nil_rel (w : World) : Calls Tryz.prog 382 #[.pointer none] w fun e w' => e = .returned (.bool true) ∧ w = w' := by
  go_enter Tryz.func382, Tryz.ntmps382
  go_wp2_with fail
  go_ret
  exact ⟨rfl, rfl⟩


theorem stepby_gget : StepBy 362 := by
  intro w x mv M h
  go_enter Tryz.func362, Tryz.ntmps362
  go_wp2_with fail
  go_at_call 106; refine h.mono ?_; rintro e w1 ⟨z, rfl, h1⟩
  go_wp2_with fail
  go_ret
  exact ⟨z, rfl, h1⟩
theorem step_nil_gget (w : World) (mv : Value) : Calls Tryz.prog 362 #[.pointer none, mv] w fun e w' => e = .returned (.bool true) ∧ w = w' := by
  go_enter Tryz.func362, Tryz.ntmps362
  go_wp2_with fail
  go_ret
  exact ⟨rfl, rfl⟩
theorem done_gget (w : World) (x : Nat) (nx : Option Addr) (hc : w.cell? ⟨x, 1, none⟩ = some (.pointer nx)) :
    Calls Tryz.prog 361 #[.pointer (some ⟨x, 0, none⟩)] w fun e w' => e = .returned (.bool nx.isNone) ∧ w = w' := by
  have h := fdone_any w x nx hc
  go_enter Tryz.func361, Tryz.ntmps361
  go_wp2_with fail
  go_at_call 100; refine h.mono ?_; rintro e w1 ⟨rfl, rfl⟩
  go_wp2_with fail
  go_ret
  exact ⟨rfl, rfl⟩
theorem done_nil_gget (w : World) : Calls Tryz.prog 361 #[.pointer none] w fun e w' => e = .returned (.bool true) ∧ w = w' := by
  go_enter Tryz.func361, Tryz.ntmps361
  go_wp2_with fail
  go_ret
  exact ⟨rfl, rfl⟩

theorem stepby_gput : StepBy 375 := by
  intro w x mv M h
  go_enter Tryz.func375, Tryz.ntmps375
  go_wp2_with fail
  go_at_call 106; refine h.mono ?_; rintro e w1 ⟨z, rfl, h1⟩
  go_wp2_with fail
  go_ret
  exact ⟨z, rfl, h1⟩
theorem step_nil_gput (w : World) (mv : Value) : Calls Tryz.prog 375 #[.pointer none, mv] w fun e w' => e = .returned (.bool true) ∧ w = w' := by
  go_enter Tryz.func375, Tryz.ntmps375
  go_wp2_with fail
  go_ret
  exact ⟨rfl, rfl⟩
theorem done_gput (w : World) (x : Nat) (nx : Option Addr) (hc : w.cell? ⟨x, 1, none⟩ = some (.pointer nx)) :
    Calls Tryz.prog 374 #[.pointer (some ⟨x, 0, none⟩)] w fun e w' => e = .returned (.bool nx.isNone) ∧ w = w' := by
  have h := fdone_any w x nx hc
  go_enter Tryz.func374, Tryz.ntmps374
  go_wp2_with fail
  go_at_call 100; refine h.mono ?_; rintro e w1 ⟨rfl, rfl⟩
  go_wp2_with fail
  go_ret
  exact ⟨rfl, rfl⟩
theorem done_nil_gput (w : World) : Calls Tryz.prog 374 #[.pointer none] w fun e w' => e = .returned (.bool true) ∧ w = w' := by
  go_enter Tryz.func374, Tryz.ntmps374
  go_wp2_with fail
  go_ret
  exact ⟨rfl, rfl⟩


theorem stepby_qput : StepBy 368 := by
  intro w x mv M h
  go_enter Tryz.func368, Tryz.ntmps368
  go_wp2_with fail
  go_at_call 106; refine h.mono ?_; rintro e w1 ⟨z, rfl, h1⟩
  go_wp2_with fail
  go_ret
  exact ⟨z, rfl, h1⟩
theorem step_nil_qput (w : World) (mv : Value) : Calls Tryz.prog 368 #[.pointer none, mv] w fun e w' => e = .returned (.bool true) ∧ w = w' := by
  go_enter Tryz.func368, Tryz.ntmps368
  go_wp2_with fail
  go_ret
  exact ⟨rfl, rfl⟩
theorem done_qput (w : World) (x : Nat) (nx : Option Addr) (hc : w.cell? ⟨x, 1, none⟩ = some (.pointer nx)) :
    Calls Tryz.prog 367 #[.pointer (some ⟨x, 0, none⟩)] w fun e w' => e = .returned (.bool nx.isNone) ∧ w = w' := by
  have h := fdone_any w x nx hc
  go_enter Tryz.func367, Tryz.ntmps367
  go_wp2_with fail
  go_at_call 100; refine h.mono ?_; rintro e w1 ⟨rfl, rfl⟩
  go_wp2_with fail
  go_ret
  exact ⟨rfl, rfl⟩
theorem done_nil_qput (w : World) : Calls Tryz.prog 367 #[.pointer none] w fun e w' => e = .returned (.bool true) ∧ w = w' := by
  go_enter Tryz.func367, Tryz.ntmps367
  go_wp2_with fail
  go_ret
  exact ⟨rfl, rfl⟩



theorem stepby_rput : StepBy 364 := by
  intro w x mv M h
  go_enter Tryz.func364, Tryz.ntmps364
  go_wp2_with fail
  go_at_call 106; refine h.mono ?_; rintro e w1 ⟨z, rfl, h1⟩
  go_wp2_with fail
  go_ret
  exact ⟨z, rfl, h1⟩
theorem step_nil_rput (w : World) (mv : Value) : Calls Tryz.prog 364 #[.pointer none, mv] w fun e w' => e = .returned (.bool true) ∧ w = w' := by
  go_enter Tryz.func364, Tryz.ntmps364
  go_wp2_with fail
  go_ret
  exact ⟨rfl, rfl⟩
theorem done_rput (w : World) (x : Nat) (nx : Option Addr) (hc : w.cell? ⟨x, 1, none⟩ = some (.pointer nx)) :
    Calls Tryz.prog 363 #[.pointer (some ⟨x, 0, none⟩)] w fun e w' => e = .returned (.bool nx.isNone) ∧ w = w' := by
  have h := fdone_any w x nx hc
  go_enter Tryz.func363, Tryz.ntmps363
  go_wp2_with fail
  go_at_call 100; refine h.mono ?_; rintro e w1 ⟨rfl, rfl⟩
  go_wp2_with fail
  go_ret
  exact ⟨rfl, rfl⟩
theorem done_nil_rput (w : World) : Calls Tryz.prog 363 #[.pointer none] w fun e w' => e = .returned (.bool true) ∧ w = w' := by
  go_enter Tryz.func363, Tryz.ntmps363
  go_wp2_with fail
  go_ret
  exact ⟨rfl, rfl⟩



theorem stepby_ipp : StepBy 381 := by
  intro w x mv M h
  go_enter Tryz.func381, Tryz.ntmps381
  go_wp2_with fail
  go_at_call 106; refine h.mono ?_; rintro e w1 ⟨z, rfl, h1⟩
  go_wp2_with fail
  go_ret
  exact ⟨z, rfl, h1⟩
theorem step_nil_ipp (w : World) (mv : Value) : Calls Tryz.prog 381 #[.pointer none, mv] w fun e w' => e = .returned (.bool true) ∧ w = w' := by
  go_enter Tryz.func381, Tryz.ntmps381
  go_wp2_with fail
  go_ret
  exact ⟨rfl, rfl⟩
theorem done_ipp (w : World) (x : Nat) (nx : Option Addr) (hc : w.cell? ⟨x, 1, none⟩ = some (.pointer nx)) :
    Calls Tryz.prog 380 #[.pointer (some ⟨x, 0, none⟩)] w fun e w' => e = .returned (.bool nx.isNone) ∧ w = w' := by
  have h := fdone_any w x nx hc
  go_enter Tryz.func380, Tryz.ntmps380
  go_wp2_with fail
  go_at_call 100; refine h.mono ?_; rintro e w1 ⟨rfl, rfl⟩
  go_wp2_with fail
  go_ret
  exact ⟨rfl, rfl⟩
theorem done_nil_ipp (w : World) : Calls Tryz.prog 380 #[.pointer none] w fun e w' => e = .returned (.bool true) ∧ w = w' := by
  go_enter Tryz.func380, Tryz.ntmps380
  go_wp2_with fail
  go_ret
  exact ⟨rfl, rfl⟩

theorem stepby_ipg : StepBy 370 := by
  intro w x mv M h
  go_enter Tryz.func370, Tryz.ntmps370
  go_wp2_with fail
  go_at_call 106; refine h.mono ?_; rintro e w1 ⟨z, rfl, h1⟩
  go_wp2_with fail
  go_ret
  exact ⟨z, rfl, h1⟩
theorem step_nil_ipg (w : World) (mv : Value) : Calls Tryz.prog 370 #[.pointer none, mv] w fun e w' => e = .returned (.bool true) ∧ w = w' := by
  go_enter Tryz.func370, Tryz.ntmps370
  go_wp2_with fail
  go_ret
  exact ⟨rfl, rfl⟩
theorem done_ipg (w : World) (x : Nat) (nx : Option Addr) (hc : w.cell? ⟨x, 1, none⟩ = some (.pointer nx)) :
    Calls Tryz.prog 369 #[.pointer (some ⟨x, 0, none⟩)] w fun e w' => e = .returned (.bool nx.isNone) ∧ w = w' := by
  have h := fdone_any w x nx hc
  go_enter Tryz.func369, Tryz.ntmps369
  go_wp2_with fail
  go_at_call 100; refine h.mono ?_; rintro e w1 ⟨rfl, rfl⟩
  go_wp2_with fail
  go_ret
  exact ⟨rfl, rfl⟩
theorem done_nil_ipg (w : World) : Calls Tryz.prog 369 #[.pointer none] w fun e w' => e = .returned (.bool true) ∧ w = w' := by
  go_enter Tryz.func369, Tryz.ntmps369
  go_wp2_with fail
  go_ret
  exact ⟨rfl, rfl⟩


theorem stepby_img : StepBy 379 := by
  intro w x mv M h
  go_enter Tryz.func379, Tryz.ntmps379
  go_wp2_with fail
  go_at_call 106; refine h.mono ?_; rintro e w1 ⟨z, rfl, h1⟩
  go_wp2_with fail
  go_ret
  exact ⟨z, rfl, h1⟩
theorem step_nil_img (w : World) (mv : Value) : Calls Tryz.prog 379 #[.pointer none, mv] w fun e w' => e = .returned (.bool true) ∧ w = w' := by
  go_enter Tryz.func379, Tryz.ntmps379
  go_wp2_with fail
  go_ret
  exact ⟨rfl, rfl⟩
theorem done_img (w : World) (x : Nat) (nx : Option Addr) (hc : w.cell? ⟨x, 1, none⟩ = some (.pointer nx)) :
    Calls Tryz.prog 378 #[.pointer (some ⟨x, 0, none⟩)] w fun e w' => e = .returned (.bool nx.isNone) ∧ w = w' := by
  have h := fdone_any w x nx hc
  go_enter Tryz.func378, Tryz.ntmps378
  go_wp2_with fail
  go_at_call 100; refine h.mono ?_; rintro e w1 ⟨rfl, rfl⟩
  go_wp2_with fail
  go_ret
  exact ⟨rfl, rfl⟩
theorem done_nil_img (w : World) : Calls Tryz.prog 378 #[.pointer none] w fun e w' => e = .returned (.bool true) ∧ w = w' := by
  go_enter Tryz.func378, Tryz.ntmps378
  go_wp2_with fail
  go_ret
  exact ⟨rfl, rfl⟩

theorem stepby_wst : StepBy 373 := by
  intro w x mv M h
  go_enter Tryz.func373, Tryz.ntmps373
  go_wp2_with fail
  go_at_call 106; refine h.mono ?_; rintro e w1 ⟨z, rfl, h1⟩
  go_wp2_with fail
  go_ret
  exact ⟨z, rfl, h1⟩
theorem step_nil_wst (w : World) (mv : Value) : Calls Tryz.prog 373 #[.pointer none, mv] w fun e w' => e = .returned (.bool true) ∧ w = w' := by
  go_enter Tryz.func373, Tryz.ntmps373
  go_wp2_with fail
  go_ret
  exact ⟨rfl, rfl⟩
theorem done_wst (w : World) (x : Nat) (nx : Option Addr) (hc : w.cell? ⟨x, 1, none⟩ = some (.pointer nx)) :
    Calls Tryz.prog 372 #[.pointer (some ⟨x, 0, none⟩)] w fun e w' => e = .returned (.bool nx.isNone) ∧ w = w' := by
  have h := fdone_any w x nx hc
  go_enter Tryz.func372, Tryz.ntmps372
  go_wp2_with fail
  go_at_call 100; refine h.mono ?_; rintro e w1 ⟨rfl, rfl⟩
  go_wp2_with fail
  go_ret
  exact ⟨rfl, rfl⟩
theorem done_nil_wst (w : World) : Calls Tryz.prog 372 #[.pointer none] w fun e w' => e = .returned (.bool true) ∧ w = w' := by
  go_enter Tryz.func372, Tryz.ntmps372
  go_wp2_with fail
  go_ret
  exact ⟨rfl, rfl⟩

theorem stepby_wwk : StepBy 366 := by
  intro w x mv M h
  go_enter Tryz.func366, Tryz.ntmps366
  go_wp2_with fail
  go_at_call 106; refine h.mono ?_; rintro e w1 ⟨z, rfl, h1⟩
  go_wp2_with fail
  go_ret
  exact ⟨z, rfl, h1⟩
theorem step_nil_wwk (w : World) (mv : Value) : Calls Tryz.prog 366 #[.pointer none, mv] w fun e w' => e = .returned (.bool true) ∧ w = w' := by
  go_enter Tryz.func366, Tryz.ntmps366
  go_wp2_with fail
  go_ret
  exact ⟨rfl, rfl⟩
theorem done_wwk (w : World) (x : Nat) (nx : Option Addr) (hc : w.cell? ⟨x, 1, none⟩ = some (.pointer nx)) :
    Calls Tryz.prog 365 #[.pointer (some ⟨x, 0, none⟩)] w fun e w' => e = .returned (.bool nx.isNone) ∧ w = w' := by
  have h := fdone_any w x nx hc
  go_enter Tryz.func365, Tryz.ntmps365
  go_wp2_with fail
  go_at_call 100; refine h.mono ?_; rintro e w1 ⟨rfl, rfl⟩
  go_wp2_with fail
  go_ret
  exact ⟨rfl, rfl⟩
theorem done_nil_wwk (w : World) : Calls Tryz.prog 365 #[.pointer none] w fun e w' => e = .returned (.bool true) ∧ w = w' := by
  go_enter Tryz.func365, Tryz.ntmps365
  go_wp2_with fail
  go_ret
  exact ⟨rfl, rfl⟩

theorem stepby_nwk : StepBy 385 := by
  intro w x mv M h
  go_enter Tryz.func385, Tryz.ntmps385
  go_wp2_with fail
  go_at_call 106; refine h.mono ?_; rintro e w1 ⟨z, rfl, h1⟩
  go_wp2_with fail
  go_ret
  exact ⟨z, rfl, h1⟩
theorem step_nil_nwk (w : World) (mv : Value) : Calls Tryz.prog 385 #[.pointer none, mv] w fun e w' => e = .returned (.bool true) ∧ w = w' := by
  go_enter Tryz.func385, Tryz.ntmps385
  go_wp2_with fail
  go_ret
  exact ⟨rfl, rfl⟩
theorem done_nwk (w : World) (x : Nat) (nx : Option Addr) (hc : w.cell? ⟨x, 1, none⟩ = some (.pointer nx)) :
    Calls Tryz.prog 384 #[.pointer (some ⟨x, 0, none⟩)] w fun e w' => e = .returned (.bool nx.isNone) ∧ w = w' := by
  have h := fdone_any w x nx hc
  go_enter Tryz.func384, Tryz.ntmps384
  go_wp2_with fail
  go_at_call 100; refine h.mono ?_; rintro e w1 ⟨rfl, rfl⟩
  go_wp2_with fail
  go_ret
  exact ⟨rfl, rfl⟩
theorem done_nil_nwk (w : World) : Calls Tryz.prog 384 #[.pointer none] w fun e w' => e = .returned (.bool true) ∧ w = w' := by
  go_enter Tryz.func384, Tryz.ntmps384
  go_wp2_with fail
  go_ret
  exact ⟨rfl, rfl⟩

end Go.Proofs.YtcjidigpdecdlaaGreat
