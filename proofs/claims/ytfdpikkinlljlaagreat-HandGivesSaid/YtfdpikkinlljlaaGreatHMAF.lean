/- Waking some thread: what follows, one contract a function. -/
import Derived.Test.YtfdpikkinlljlaaGreatHMAA
namespace Go.Proofs.YtfdpikkinlljlaaGreat
open Go Go.RowKit
set_option linter.unusedVariables false
set_option maxRecDepth 100000
set_option linter.unusedSimpArgs false

def wwCells (who : Int) (nx : Option Addr) (cl : Nat) (ct : Bool) (pr st : Option Addr) : Array Value := #[.int .i64 who, .pointer nx, .pointer (some ⟨cl, 0, none⟩), .bool ct, .pointer pr, .pointer st]
section
variable (w : World) (x cl : Nat) (who : Int) (ct : Bool) (pr st nx : Option Addr) (h : Blk w x (wwCells who nx cl ct pr st) 200)
include h
theorem ww_look_yes :
    Calls Tryz.prog 218 #[.pointer (some ⟨x, 0, none⟩), .int .u64 0] w fun e w' => (∃ v, e = .returned v) ∧ Came w w' x (wwCells who nx cl ct pr st) 200 (axSw 13 0 1) (.swap 233) := by
  have H := came_swap w.drew x _ 200 h.drew (by simp [wwCells]) 13 0 1 233
  have c2 := h.cell 2 (v := .pointer (some ⟨cl, 0, none⟩)) rfl
  have hW := il_word w.drew cl 13 (by omega)
  clear h
  go_enter Tryz.func218, Tryz.ntmps218
  go_wp2_with fail
  go_region_with (first | (go_at_call 68; refine hW.mono ?_; rintro e w3 ⟨rfl, rfl⟩) | (go_at_call 164; refine H.mono ?_; rintro e w1 ⟨⟨v, rfl⟩, hC⟩))
  all_goals
    have hC2 := hC.undrew
    clear hW H c2 hC
    go_wp2_with fail
    go_end0
    exact ⟨⟨_, rfl⟩, hC2⟩
omit h in
theorem ww_look_no (v : Int) (hv : v ≠ 0) :
    Calls Tryz.prog 218 #[.pointer (some ⟨x, 0, none⟩), .int .u64 v] w fun e w' => (∃ v, e = .returned v) ∧ w = w' := by
  have hd : (v == 0) = false := by simpa using hv
  clear hv
  go_enter Tryz.func218, Tryz.ntmps218
  go_wp2_with fail
  go_end0
  exact ⟨⟨_, rfl⟩, rfl⟩
omit h in
theorem ww_acquire_no :
    Calls Tryz.prog 233 #[.pointer (some ⟨x, 0, none⟩), .bool false] w fun e w' => (∃ v, e = .returned v) ∧ w = w' := by
  go_enter Tryz.func233, Tryz.ntmps233
  go_wp2_with fail
  refine bodyPost_ret (results_none rfl _ _ _) rfl ?_
  exact ⟨⟨_, rfl⟩, rfl⟩
theorem ww_giveUp :
    Calls Tryz.prog 284 #[.pointer (some ⟨x, 0, none⟩)] w fun e w' => (∃ v, e = .returned v) ∧ Came w w' x (wwCells who nx cl ct pr st) 200 (axAd 13 4294967295) (.told 295) := by
  have H := wk_countOut w x cl _ 200 h (by simp [wwCells]) rfl 295
  clear h
  go_enter Tryz.func284, Tryz.ntmps284
  go_wp2_with fail
  go_at_call 257; refine H.mono ?_; rintro e w1 ⟨⟨u, rfl⟩, hC⟩
  clear H
  go_wp2_with fail
  go_end0
  exact ⟨⟨_, rfl⟩, hC⟩
theorem ww_counted (u : Int) :
    Calls Tryz.prog 295 #[.pointer (some ⟨x, 0, none⟩), .int .u64 u] w fun e w' => (∃ v, e = .returned v) ∧ RunNew (relSub (wd 0 2 3 0 1) (wd 0 2 3 0 2) who) RelT.fresh w w' x (wwCells who nx cl false pr st) 200 .nilFunc := by
  have c3 := h.cell 3 (v := .bool ct) rfl
  have f3 := h.fro 3
  have hlt := h.lt
  have h' : Blk (w.setCell ⟨x, 3, none⟩ (.bool false)) x (wwCells who nx cl false pr st) 200 := h.set 3 (.bool false)
  have hB : But [x] w (w.setCell ⟨x, 3, none⟩ (.bool false)) := (But.refl _ w).set (g := x) (.inl (by simp)) 3 _
  have H := wk_end _ x cl who _ 200 h' (by simp [wwCells]) rfl rfl
  clear h h'
  go_enter Tryz.func295, Tryz.ntmps295
  go_wp2_with fail
  go_at_call 275; refine H.mono ?_; rintro e w1 ⟨⟨u, rfl⟩, hC⟩
  have hC2 := hC.before hB
  clear H hC hB c3 f3
  go_wp2_with fail
  go_end0
  exact ⟨⟨_, rfl⟩, hC2⟩
theorem ww_counts :
    Calls Tryz.prog 83 #[.pointer (some ⟨x, 0, none⟩)] w fun e w' => e = .returned (.bool ct) ∧ w = w' := by
  have c3 := h.cell 3 (v := .bool ct) rfl
  clear h
  go_enter Tryz.func83, Tryz.ntmps83
  go_wp2_with fail
  go_ret
  exact ⟨rfl, rfl⟩
theorem ww_holds_proc (v : Int) (hs : st = none) (hP : Calls Tryz.prog 138 #[.pointer pr] w fun e w' => e = .returned (.int .i64 v) ∧ w = w') :
    Calls Tryz.prog 82 #[.pointer (some ⟨x, 0, none⟩)] w fun e w' => e = .returned (.int .i64 v) ∧ w = w' := by
  subst hs
  have c4 := h.cell 4 (v := .pointer pr) rfl
  have c5 := h.cell 5 (v := .pointer none) rfl
  clear h
  go_enter Tryz.func82, Tryz.ntmps82
  go_wp2_with fail
  go_at_call 138; refine hP.mono ?_; rintro e w1 ⟨rfl, rfl⟩
  clear hP
  go_wp2_with fail
  go_ret
  exact ⟨rfl, rfl⟩
theorem ww_holds_start (y : Nat) (v : Int) (hs : st = some ⟨y, 0, none⟩) (hP : Calls Tryz.prog 103 #[.pointer (some ⟨y, 0, none⟩)] w fun e w' => e = .returned (.int .i64 v) ∧ w = w') :
    Calls Tryz.prog 82 #[.pointer (some ⟨x, 0, none⟩)] w fun e w' => e = .returned (.int .i64 v) ∧ w = w' := by
  subst hs
  have c5 := h.cell 5 (v := .pointer (some ⟨y, 0, none⟩)) rfl
  clear h
  go_enter Tryz.func82, Tryz.ntmps82
  go_wp2_with fail
  go_at_call 103; refine hP.mono ?_; rintro e w1 ⟨rfl, rfl⟩
  clear hP
  go_wp2_with fail
  go_ret
  exact ⟨rfl, rfl⟩
set_option maxHeartbeats 4000000 in
theorem ww_acquire_yes :
    Calls Tryz.prog 233 #[.pointer (some ⟨x, 0, none⟩), .bool true] w fun e w' => (∃ v, e = .returned v) ∧ ((0 ≤ who ∧ who ≤ 1000000) → RunNew (acqSub (wd 0 2 3 0 0) (wd 0 2 3 0 1) (wd 0 2 3 0 2) who) AcqT.fresh w w' x (wwCells who nx cl true pr st) 200 (.func (.func 251) #[.pointer (some ⟨x, 0, none⟩)] #[])) := by
  have c3 := h.cell 3 (v := .bool ct) rfl
  have f3 := h.fro 3
  have h' : Blk (w.setCell ⟨x, 3, none⟩ (.bool true)) x (wwCells who nx cl true pr st) 200 := h.set 3 (.bool true)
  have hB : But [x] w (w.setCell ⟨x, 3, none⟩ (.bool true)) := (But.refl _ w).set (g := x) (.inl (by simp)) 3 _
  generalize hV : (w.setCell ⟨x, 3, none⟩ (.bool true)) = V at h' hB
  have hlt : x < V.heap.size := h'.lt
  have c2 := h'.cell 2 (v := .pointer (some ⟨cl, 0, none⟩)) rfl
  have hO := who_any V.drew x who (h'.drew.cell 0 rfl)
  have hR := lock_fresh V.drew cl 0 who
  have HH : Hid (Blk V x (wwCells who nx cl true pr st) 200) := h'
  clear h h'
  go_enter Tryz.func233, Tryz.ntmps233
  go_wp2_with fail
  try rw [hV]
  clear hV c3 f3
  go_region_with (first | (go_at_call 144; refine hO.mono ?_; rintro e w3 ⟨rfl, rfl⟩) | (go_at_call 146; refine hR.mono ?_; rintro e w4 ⟨y, L, rfl, k1, k4, k5, k6, a, k7⟩; have hB4 : But [x] V w4 := ((But.refl [x] V).drew).trans (But.of_below k4); have hf := frun_acq w4 x y _ 200 (.func (.func 251) #[.pointer (some ⟨x, 0, none⟩)] #[]) a (HH.out.but (But.of_below (l := []) (show Below V.heap.size V w4 from (Below.refl _ _).drew.trans k4)) (by simp)) (by simp [wwCells]) (.some _ _ _) (by have : V.heap.size ≤ y := k5; omega) k7) | (go_at_call 98; refine hf.mono ?_; rintro e w5 ⟨⟨v, rfl⟩, q, g, hC⟩))
  all_goals
    have k6' : ∀ k ∈ L, V.heap.size ≤ k := k6
    have hR5 := fun hw => (RunNew.mk (S := acqSub (wd 0 2 3 0 0) (wd 0 2 3 0 1) (wd 0 2 3 0 2) who) (W := V) (Fl.good (acq_laws _ _ _ who hw)) k1 k6' hlt hB4 hC).before hB
    clear hO hR c2 hf k1 k4 k5 k6 k6' k7 hC hB4 HH
    go_wp2_with fail
    go_end0
    exact ⟨⟨_, rfl⟩, hR5⟩
end
theorem ww_counts_nil (w : World) : Calls Tryz.prog 83 #[.pointer none] w fun e w' => e = .returned (.bool false) ∧ w = w' := by
  go_enter Tryz.func83, Tryz.ntmps83
  go_wp2_with fail
  go_ret
  exact ⟨rfl, rfl⟩
theorem ww_holds_nil (w : World) : Calls Tryz.prog 82 #[.pointer none] w fun e w' => e = .returned (.int .i64 (-1)) ∧ w = w' := by
  go_enter Tryz.func82, Tryz.ntmps82
  go_wp2_with fail
  go_ret
  exact ⟨rfl, rfl⟩
end Go.Proofs.YtfdpikkinlljlaaGreat
