/- Coming to rest: Rest's functions, one. -/
import Derived.Test.YthbgoakaijeemaaGreatR3
import Derived.Test.YthbgoakaijeemaaGreatIm1
import Derived.Test.YthbgoakaijeemaaGreatRB
namespace Go.Proofs.YthbgoakaijeemaaGreat
open Go Go.RowKit
set_option linter.unusedVariables false
set_option maxRecDepth 100000
set_option linter.unusedSimpArgs false

def reCells (who : Int) (nx : Option Addr) (cl : Nat) (pr sp na : Option Addr) : Array Value := #[.int .i64 who, .pointer nx, .pointer (some ⟨cl, 0, none⟩), .pointer pr, .pointer sp, .pointer na]
def imSub (who P T G t : Int) (cl : Nat) : Sub := ⟨ImT, imPM P T t, (imFl who t cl).I (imPM P T t), Rd.lay cl P T G, 224, 256⟩
def reIg (who P T G : Int) (cl : Nat) : Sub := ⟨IgT, igPM P, (igFl who cl).I (igPM P), Rd.lay cl P T G, 129, 245⟩
def spSub (who : Int) (cl : Nat) : Sub := ⟨SpT, spPM, (spFl who cl).I spPM, Rd.nil, 87, 56⟩
def naSub (P T G t : Int) (cl : Nat) : Sub := ⟨NaT, naPM P T t, (naCp P T G t cl).I, Rd.lay cl P T G, 81, 49⟩
/-- A machine was made, is held, and runs. -/
def RunHeld (S : Sub) (pt : S.τ) (W w' : World) (x : Nat) (cs : Nat → Array Value) (T : TypeId) (fv : Value) : Prop := ∃ y q b L, CameBox W w' x (cs y) T (fun v => comCells 0 0 0 0 0 false (.iface S.D (.pointer (some ⟨y, 0, none⟩))) v false false) fv q b ∧ S.I w' y pt L ∧ (∀ k ∈ L, W.heap.size ≤ k) ∧ q ∉ L ∧ b ∉ L
section
variable (w : World) (x cl : Nat) (who : Int) (pr sp na nx : Option Addr) (h : Blk w x (reCells who nx cl pr sp na) 160)
include h
theorem re_look :
    Calls Tryz.prog 114 #[.pointer (some ⟨x, 0, none⟩)] w fun e w' => (∃ v, e = .returned v) ∧ Came w w' x (reCells who nx cl pr sp na) 160 (axLd 14) (.told 158) := by
  have H := came_load w.drew x _ 160 h.drew (by simp [reCells]) 14 158
  have c2 := h.cell 2 (v := .pointer (some ⟨cl, 0, none⟩)) rfl
  have hW := il_word w.drew cl 14 (by omega)
  clear h
  go_enter Tryz.func114, Tryz.ntmps114
  go_wp2_with fail
  go_region_with (first | (go_at_call 92; refine hW.mono ?_; rintro e w3 ⟨rfl, rfl⟩) | (go_at_call 91; refine H.mono ?_; rintro e w1 ⟨⟨v, rfl⟩, hC⟩))
  all_goals
    have hC2 := hC.undrew
    clear hW H c2 hC
    go_wp2_with fail
    go_end0
    exact ⟨⟨_, rfl⟩, hC2⟩
set_option maxHeartbeats 1000000 in
theorem re_release (fv : Value) (hf : Fv fv) :
    Calls Tryz.prog 205 #[.pointer (some ⟨x, 0, none⟩), fv] w fun e w' => (∃ v, e = .returned v) ∧ RunNew (relSub (wd 0 2 3 0 1) (wd 0 2 3 0 2) who) RelT.fresh w w' x (reCells who nx cl pr sp na) 160 fv := by
  have hlt := h.lt
  have c2 := h.cell 2 (v := .pointer (some ⟨cl, 0, none⟩)) rfl
  have hO := who_any w.drew x who (h.drew.cell 0 rfl)
  have hR := rel_fresh w.drew cl 0 who
  have HG : Hid ((relSub (wd 0 2 3 0 1) (wd 0 2 3 0 2) who).I.Good (relSub (wd 0 2 3 0 1) (wd 0 2 3 0 2) who).M) := Fl.good (rel_laws _ _ who)
  have HH : Hid (Blk w x (reCells who nx cl pr sp na) 160 ∧ Fv fv) := ⟨h, hf⟩
  clear h
  cases hf
  all_goals
    go_enter Tryz.func205, Tryz.ntmps205
    go_wp2_with fail
    go_region_with (first | (go_at_call 168; refine hO.mono ?_; rintro e w3 ⟨rfl, rfl⟩) | (go_at_call 167; refine hR.mono ?_; rintro e w4 ⟨y, L, rfl, k1, k4, k5, k6, a, k7⟩; have hB4 : But [x] w w4 := ((But.refl [x] w).drew).trans (But.of_below k4); have hf := frun_rel w4 x y _ 160 _ a (HH.out.1.but (But.of_below (l := []) (show Below w.heap.size w w4 from (Below.refl _ _).drew.trans k4)) (by simp)) (by simp [reCells]) HH.out.2 (by have : w.heap.size ≤ y := k5; omega) k7) | (go_at_call 70; refine hf.mono ?_; rintro e w5 ⟨⟨v, rfl⟩, q, g, hC⟩))
    all_goals
      have k6' : ∀ k ∈ L, w.heap.size ≤ k := k6
      have hR5 := RunNew.mk (S := relSub (wd 0 2 3 0 1) (wd 0 2 3 0 2) who) (W := w) HG.out k1 k6' hlt hB4 hC
      clear hO hR c2 hf k1 k4 k5 k6 k6' k7 hC hB4 HH HG
      go_wp2_with fail
      go_end0
      exact ⟨⟨_, rfl⟩, hR5⟩
theorem re_leave :
    Calls Tryz.prog 200 #[.pointer (some ⟨x, 0, none⟩)] w fun e w' => (∃ v, e = .returned v) ∧ RunNew (relSub (wd 0 2 3 0 1) (wd 0 2 3 0 2) who) RelT.fresh w w' x (reCells who nx cl pr sp na) 160 (.func (.func 209) #[.pointer (some ⟨x, 0, none⟩)] #[]) := by
  have H := re_release w x cl who pr sp na nx h (.func (.func 209) #[.pointer (some ⟨x, 0, none⟩)] #[]) (.some _ _ _)
  clear h
  go_enter Tryz.func200, Tryz.ntmps200
  go_wp2_with fail
  go_at_call 205; refine H.mono ?_; rintro e w1 ⟨⟨v, rfl⟩, hC⟩
  clear H
  go_wp2_with fail
  go_end0
  exact ⟨⟨_, rfl⟩, hC⟩
theorem re_sleep :
    Calls Tryz.prog 196 #[.pointer (some ⟨x, 0, none⟩)] w fun e w' => (∃ v, e = .returned v) ∧ RunNew (relSub (wd 0 2 3 0 1) (wd 0 2 3 0 2) who) RelT.fresh w w' x (reCells who nx cl pr sp na) 160 (.func (.func 206) #[.pointer (some ⟨x, 0, none⟩)] #[]) := by
  have H := re_release w x cl who pr sp na nx h (.func (.func 206) #[.pointer (some ⟨x, 0, none⟩)] #[]) (.some _ _ _)
  clear h
  go_enter Tryz.func196, Tryz.ntmps196
  go_wp2_with fail
  go_at_call 205; refine H.mono ?_; rintro e w1 ⟨⟨v, rfl⟩, hC⟩
  clear H
  go_wp2_with fail
  go_end0
  exact ⟨⟨_, rfl⟩, hC⟩
theorem re_runGot (z : Nat) (v P T G : Int) (hz : pr = some ⟨z, 0, none⟩) (hT : ∀ Y, But [x] w Y → Calls Tryz.prog 98 #[.pointer (some ⟨z, 0, none⟩)] Y fun e w' => e = .returned (.int .i64 v) ∧ Y = w') (hl : Lay w cl P T G) (hp : 0 ≤ P ∧ P ≤ 64) :
    Calls Tryz.prog 209 #[.pointer (some ⟨x, 0, none⟩)] w fun e w' => (∃ v, e = .returned v) ∧ Came w w' x (reCells who nx cl pr sp na) 160 (axSt (wd 20 P 264 v 0) 1) .nil := by
  subst hz
  have c3 := h.drew.cell 3 (v := .pointer (some ⟨z, 0, none⟩)) rfl
  have c3' := h.cell 3 (v := .pointer (some ⟨z, 0, none⟩)) rfl
  have hP := hT w.drew (But.refl _ _).drew
  have hR := rs_run w.drew x cl _ 160 h.drew (by simp [reCells]) rfl v P T G (hl.below (Below.refl _ _).drew hl.lt) hp
  clear h hT hl hp
  go_enter Tryz.func209, Tryz.ntmps209
  go_wp2_with fail
  go_region_with (first | (go_at_call 98; refine hP.mono ?_; rintro e w1 ⟨rfl, rfl⟩) | (go_at_call 193; refine hR.mono ?_; rintro e w1 ⟨⟨u, rfl⟩, hC⟩))
  all_goals
    have hC2 := hC.undrew
    clear hR hP hC c3 c3'
    go_wp2_with fail
    go_end0
    exact ⟨⟨_, rfl⟩, hC2⟩
set_option maxHeartbeats 2000000 in
theorem re_lie (P T G : Int) (hp : 0 ≤ P ∧ P ≤ 64) (hTT : 0 ≤ T ∧ T ≤ 65536) :
    Calls Tryz.prog 181 #[.pointer (some ⟨x, 0, none⟩)] w fun e w' => (∃ v, e = .returned v) ∧ RunNew (imSub who P T G who cl) ImT.h0 w w' x (reCells who nx cl pr sp na) 160 (.func (.func 196) #[.pointer (some ⟨x, 0, none⟩)] #[]) := by
  have hlt := h.lt
  have c2 := h.cell 2 (v := .pointer (some ⟨cl, 0, none⟩)) rfl
  have hO := who_any w x who (h.cell 0 rfl)
  have hN := im_new w.drew cl who who P T
  have HG : Hid ((imSub who P T G who cl).I.Good (imSub who P T G who cl).M) := Fl.good (im_laws who P T G who cl hp hTT)
  have HH : Hid (Blk w x (reCells who nx cl pr sp na) 160) := h
  clear h hp hTT
  go_enter Tryz.func181, Tryz.ntmps181
  go_wp2_with fail
  go_at_call 168; refine hO.mono ?_; rintro e w3 ⟨rfl, rfl⟩
  clear hO
  go_wp2_with fail
  go_region_with (first | (go_at_call 195; refine hN.mono ?_; rintro e w4 ⟨y, L, rfl, k1, k4, k6, k5⟩; have hB4 : But [x] w w4 := ((But.refl [x] w).drew).trans (But.of_below k4); have k1' : (imSub who P T G who cl).I w4 y ImT.h0 L := k1; have k7 : ∃ a, w4.cell? ⟨y, 1, none⟩ = some (.pointer (some a)) := (by obtain ⟨nx', q1, q2⟩ := HG.out.next k1'; cases nx' with | none => cases q2 | some a => exact ⟨a, q1⟩); obtain ⟨a, k7⟩ := k7; have hf := frun_imp w4 x y _ 160 (.func (.func 196) #[.pointer (some ⟨x, 0, none⟩)] #[]) a (HH.out.but (But.of_below (l := []) (show Below w.heap.size w w4 from (Below.refl _ _).drew.trans k4)) (by simp)) (by simp [reCells]) (.some _ _ _) (by have : w.heap.size ≤ y := k5; omega) k7) | (go_at_call 70; refine hf.mono ?_; rintro e w5 ⟨⟨v, rfl⟩, q, g, hC⟩))
  all_goals
    have k6' : ∀ k ∈ L, w.heap.size ≤ k := k6
    have hR5 := RunNew.mk (S := imSub who P T G who cl) (W := w) HG.out k1' k6' hlt hB4 hC
    clear hN c2 hf k1 k1' k4 k5 k6 k6' k7 hC hB4 HH HG
    go_wp2_with fail
    go_end0
    exact ⟨⟨_, rfl⟩, hR5⟩
theorem re_choose_lie (P T G : Int) (hp : 0 ≤ P ∧ P ≤ 64) (hTT : 0 ≤ T ∧ T ≤ 65536) :
    Calls Tryz.prog 158 #[.pointer (some ⟨x, 0, none⟩), .int .u64 0] w fun e w' => (∃ v, e = .returned v) ∧ RunNew (imSub who P T G who cl) ImT.h0 w w' x (reCells who nx cl pr sp na) 160 (.func (.func 196) #[.pointer (some ⟨x, 0, none⟩)] #[]) := by
  have H := re_lie w x cl who pr sp na nx h P T G hp hTT
  clear h hp hTT
  go_enter Tryz.func158, Tryz.ntmps158
  go_wp2_with fail
  go_at_call 181; refine H.mono ?_; rintro e w1 ⟨⟨v, rfl⟩, hC⟩
  clear H
  go_wp2_with fail
  refine bodyPost_ret (results_none rfl _ _ _) rfl ?_
  exact ⟨⟨_, rfl⟩, hC⟩
theorem re_serve_lie (z : Nat) (P T G : Int) (hz : pr = some ⟨z, 0, none⟩) (hT : Calls Tryz.prog 98 #[.pointer (some ⟨z, 0, none⟩)] w fun e w' => e = .returned (.int .i64 (-1)) ∧ w = w') (hp : 0 ≤ P ∧ P ≤ 64) (hTT : 0 ≤ T ∧ T ≤ 65536) :
    Calls Tryz.prog 183 #[.pointer (some ⟨x, 0, none⟩)] w fun e w' => (∃ v, e = .returned v) ∧ RunNew (imSub who P T G who cl) ImT.h0 w w' x (reCells who nx cl pr sp na) 160 (.func (.func 196) #[.pointer (some ⟨x, 0, none⟩)] #[]) := by
  have H := re_lie w x cl who pr sp na nx h P T G hp hTT
  subst hz
  have c3 := h.cell 3 (v := .pointer (some ⟨z, 0, none⟩)) rfl
  clear h hp hTT
  go_enter Tryz.func183, Tryz.ntmps183
  go_wp2_with fail
  go_at_call 98; refine hT.mono ?_; rintro e w1 ⟨rfl, rfl⟩
  clear hT
  go_wp2_with fail
  go_at_call 181; refine H.mono ?_; rintro e w1 ⟨⟨v, rfl⟩, hC⟩
  clear H
  go_wp2_with fail
  refine bodyPost_ret (results_none rfl _ _ _) rfl ?_
  exact ⟨⟨_, rfl⟩, hC⟩
end
end Go.Proofs.YthbgoakaijeemaaGreat
