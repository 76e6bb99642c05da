/- A machine that is gone on with by itself, so many steps. -/
import Derived.Test.YthjfbknmdligeaaGreatTQA
import Derived.Test.YthjfbknmdligeaaGreatIl0
import Derived.Test.YthjfbknmdligeaaGreatIp1
import Derived.Test.YthjfbknmdligeaaGreatTQB
import Derived.Test.YthjfbknmdligeaaGreatRun_ipp
import Derived.Test.YthjfbknmdligeaaGreatRunD
import Derived.Stop.Asserts
import Derived.Test.YthjfbknmdligeaaGreatRg0
import Derived.Test.YthjfbknmdligeaaGreatGg0
import Derived.BigRegion
import Derived.Test.YthjfbknmdligeaaGreatLock2
import Derived.Test.YthjfbknmdligeaaGreatRun_rel
import Derived.Test.YthjfbknmdligeaaGreatRun_acq
import Derived.Deep.RegionHeldLaw
import Derived.Deep.RegionLawGrows
import Derived.Maps.AppendAt
import Derived.OwnWalk
import Derived.Deep.RegionHeld3
import Derived.Test.YthjfbknmdligeaaGreatLaw
namespace Go.Proofs.YthjfbknmdligeaaGreat
open Go Go.RowKit
set_option linter.unusedVariables false
set_option maxRecDepth 100000
set_option linter.unusedSimpArgs false

def hvCells (who : Int) (nx : Option Addr) (cl : Nat) (p : Int) (lk st id : Option Addr) (ct : Bool) : Array Value := #[.int .i64 who, .pointer nx, .pointer (some ⟨cl, 0, none⟩), .int .i64 p, .pointer lk, .pointer st, .pointer id, .bool ct]
def hvLk (who P T G p : Int) (cl : Nat) : Sub := ⟨LoT, loPM P p, (loFl who p cl).I (loPM P p), Rd.lay cl P T G, 95, 233⟩
def hvSt (who P T G p : Int) (sp : Bool) (cl : Nat) : Sub := ⟨WsT, wsPM P T p sp true, (wsCp who P T G p sp true cl).I, Rd.lay cl P T G, 140, 238⟩
def hvIp (who P T G p : Int) (cl : Nat) : Sub := ⟨IpT, ipPM P p, (ipFl who p cl).I (ipPM P p), Rd.lay cl P T G, 141, 240⟩
/-- A machine was made, is held, and runs. -/
def HvHeld (S : Sub) (pt : S.τ) (W w' : World) (x : Nat) (cs : Nat → Array Value) (T : TypeId) (fv : Value) : Prop := ∃ y q b L, CameBox W w' x (cs y) T (fun v => comCells 0 0 0 0 0 false (.iface S.D (.pointer (some ⟨y, 0, none⟩))) v false false) fv q b ∧ S.I w' y pt L ∧ (∀ k ∈ L, W.heap.size ≤ k) ∧ q ∉ L ∧ b ∉ L
theorem HvHeld.before {S : Sub} {pt : S.τ} {W W0 w' : World} {x : Nat} {cs : Nat → Array Value} {T : TypeId} {fv : Value} (h : HvHeld S pt W w' x cs T fv) (hB : But [x] W0 W) : HvHeld S pt W0 w' x cs T fv := by
  obtain ⟨y, q, b, L, h1, h2, h3, h4⟩ := h
  exact ⟨y, q, b, L, h1.before hB, h2, fun k hk => Nat.le_trans hB.size (h3 k hk), h4⟩
section
variable (w : World) (x cl : Nat) (who p : Int) (lk st id nx : Option Addr) (ct : Bool) (h : Blk w x (hvCells who nx cl p lk st id ct) 143)
include h
theorem hv_load (i : Int) (hi : 6 ≤ i ∧ i ≤ 19) (K : Nat) :
    Calls Tryz.prog 157 #[.pointer (some ⟨x, 0, none⟩), .int .i64 i, .func (.func K) #[.pointer (some ⟨x, 0, none⟩)] #[]] w fun e w' => (∃ v, e = .returned v) ∧ Came w w' x (hvCells who nx cl p lk st id ct) 143 (axLd i) (.told K) := by
  have H := came_load w.drew x _ 143 h.drew (by simp [hvCells]) i K
  have c2 := h.cell 2 (v := .pointer (some ⟨cl, 0, none⟩)) rfl
  have hW := il_word w.drew cl i hi
  clear h hi
  go_enter Tryz.func157, Tryz.ntmps157
  go_wp2_with fail
  go_region_with (first | (go_at_call 84; refine hW.mono ?_; rintro e w3 ⟨rfl, rfl⟩) | (go_at_call 83; refine H.mono ?_; rintro e w1 ⟨⟨v, rfl⟩, hC⟩))
  all_goals
    have hC2 := hC.undrew
    clear hW H c2 hC
    go_wp2_with fail
    go_end0
    exact ⟨⟨_, rfl⟩, hC2⟩
theorem hv_store (i : Int) (hi : 6 ≤ i ∧ i ≤ 19) (u : Int) (K : Nat) :
    Calls Tryz.prog 178 #[.pointer (some ⟨x, 0, none⟩), .int .i64 i, .int .u64 u, .func (.func K) #[.pointer (some ⟨x, 0, none⟩)] #[]] w fun e w' => (∃ v, e = .returned v) ∧ Came w w' x (hvCells who nx cl p lk st id ct) 143 (axSt i u) (.untold K) := by
  have H := came_store w.drew x _ 143 h.drew (by simp [hvCells]) i u K
  have c2 := h.cell 2 (v := .pointer (some ⟨cl, 0, none⟩)) rfl
  have hW := il_word w.drew cl i hi
  clear h hi
  go_enter Tryz.func178, Tryz.ntmps178
  go_wp2_with fail
  go_region_with (first | (go_at_call 84; refine hW.mono ?_; rintro e w3 ⟨rfl, rfl⟩) | (go_at_call 114; refine H.mono ?_; rintro e w1 ⟨⟨v, rfl⟩, hC⟩))
  all_goals
    have hC2 := hC.undrew
    clear hW H c2 hC
    go_wp2_with fail
    go_end0
    exact ⟨⟨_, rfl⟩, hC2⟩
set_option maxHeartbeats 1000000 in
theorem hv_acquire (hw : 0 ≤ who ∧ who ≤ 1000000) (fv : Value) (hf : Fv fv) :
    Calls Tryz.prog 155 #[.pointer (some ⟨x, 0, none⟩), fv] w fun e w' => (∃ v, e = .returned v) ∧ RunNew (acqSub (wd 0 2 3 0 0) (wd 0 2 3 0 1) (wd 0 2 3 0 2) who) AcqT.fresh w w' x (hvCells who nx cl p lk st id ct) 143 fv := by
  have hlt := h.lt
  have hH : Hid (w.drew.cell? ⟨x, 2, none⟩ = some (.pointer (some ⟨cl, 0, none⟩))) := h.drew.cell 2 (v := .pointer (some ⟨cl, 0, none⟩)) rfl
  have hO := who_any w.drew x who (h.drew.cell 0 rfl)
  have hR := lock_fresh w.drew cl 0 who
  have HH : Hid (Blk w x (hvCells who nx cl p lk st id ct) 143 ∧ Fv fv) := ⟨h, hf⟩
  have HG : Hid (((acqSub (wd 0 2 3 0 0) (wd 0 2 3 0 1) (wd 0 2 3 0 2) who)).I.Good ((acqSub (wd 0 2 3 0 0) (wd 0 2 3 0 1) (wd 0 2 3 0 2) who)).M) := Fl.good (acq_laws _ _ _ who hw)
  clear h hw
  cases hf
  all_goals
    go_enter Tryz.func155, Tryz.ntmps155
    go_wp2_with fail
    go_region_held3 (fun X => X.cell? ⟨x, 2, none⟩ = some (.pointer (some ⟨cl, 0, none⟩))) (first | exact hH.out | assumption) (first | (go_at_call 119; refine hO.mono ?_; rintro e w3 ⟨rfl, rfl⟩) | (go_at_call 129; refine hR.mono ?_; rintro e w4 ⟨y, L, rfl, k1, k4, k5, k6, a, k7⟩; have q4 : w4.cell? ⟨x, 2, none⟩ = some (.pointer (some ⟨cl, 0, none⟩)) := (HH.out.1.but (But.of_below (l := []) (show Below w.heap.size w w4 from (Below.refl _ _).drew.trans k4)) (by simp)).cell 2 rfl; have hB4 : But [x] w w4 := ((But.refl [x] w).drew).trans (But.of_below k4); have hf := frun_acq w4 x y _ 143 _ a (HH.out.1.but (But.of_below (l := []) (show Below w.heap.size w w4 from (Below.refl _ _).drew.trans k4)) (by simp)) (by simp [hvCells]) HH.out.2 (by have : w.heap.size ≤ y := k5; omega) k7) | (go_at_call 120; refine hf.mono ?_; rintro e w5 ⟨⟨v, rfl⟩, q, b, hC⟩; have q5 : w5.cell? ⟨x, 2, none⟩ = some (.pointer (some ⟨cl, 0, none⟩)) := hC.at'.own.cell 2 rfl))
    all_goals
      have k6' : ∀ k ∈ L, w.heap.size ≤ k := k6
      have HRN : Hid (RunNew (acqSub (wd 0 2 3 0 0) (wd 0 2 3 0 1) (wd 0 2 3 0 2) who) AcqT.fresh w w5 x (hvCells who nx cl p lk st id ct) 143 _) := RunNew.mk (S := (acqSub (wd 0 2 3 0 0) (wd 0 2 3 0 1) (wd 0 2 3 0 2) who)) (W := w) HG.out k1 k6' hlt hB4 hC
      clear hO hR hH q4 q5 hf k1 k4 k5 k6 k6' k7 hC hB4 HH HG
      go_wp2_with fail
      go_end0
      exact ⟨⟨_, rfl⟩, HRN.out⟩
set_option maxHeartbeats 1000000 in
theorem hv_release  :
    Calls Tryz.prog 206 #[.pointer (some ⟨x, 0, none⟩)] w fun e w' => (∃ v, e = .returned v) ∧ RunNew (relSub (wd 0 2 3 0 1) (wd 0 2 3 0 2) who) RelT.fresh w w' x (hvCells who nx cl p lk st id ct) 143 .nilFunc := by
  have hlt := h.lt
  have hH : Hid (w.drew.cell? ⟨x, 2, none⟩ = some (.pointer (some ⟨cl, 0, none⟩))) := h.drew.cell 2 (v := .pointer (some ⟨cl, 0, none⟩)) rfl
  have hO := who_any w.drew x who (h.drew.cell 0 rfl)
  have hR := rel_fresh w.drew cl 0 who
  have HH : Hid (Blk w x (hvCells who nx cl p lk st id ct) 143) := h
  have HG : Hid (((relSub (wd 0 2 3 0 1) (wd 0 2 3 0 2) who)).I.Good ((relSub (wd 0 2 3 0 1) (wd 0 2 3 0 2) who)).M) := Fl.good (rel_laws _ _ who)
  clear h
  go_enter Tryz.func206, Tryz.ntmps206
  go_wp2_with fail
  go_region_held3 (fun X => X.cell? ⟨x, 2, none⟩ = some (.pointer (some ⟨cl, 0, none⟩))) (first | exact hH.out | assumption) (first | (go_at_call 119; refine hO.mono ?_; rintro e w3 ⟨rfl, rfl⟩) | (go_at_call 147; refine hR.mono ?_; rintro e w4 ⟨y, L, rfl, k1, k4, k5, k6, a, k7⟩; have q4 : w4.cell? ⟨x, 2, none⟩ = some (.pointer (some ⟨cl, 0, none⟩)) := (HH.out.but (But.of_below (l := []) (show Below w.heap.size w w4 from (Below.refl _ _).drew.trans k4)) (by simp)).cell 2 rfl; have hB4 : But [x] w w4 := ((But.refl [x] w).drew).trans (But.of_below k4); have hf := frun_rel w4 x y _ 143 _ a (HH.out.but (But.of_below (l := []) (show Below w.heap.size w w4 from (Below.refl _ _).drew.trans k4)) (by simp)) (by simp [hvCells]) .none (by have : w.heap.size ≤ y := k5; omega) k7) | (go_at_call 120; refine hf.mono ?_; rintro e w5 ⟨⟨v, rfl⟩, q, b, hC⟩; have q5 : w5.cell? ⟨x, 2, none⟩ = some (.pointer (some ⟨cl, 0, none⟩)) := hC.at'.own.cell 2 rfl))
  all_goals
    have k6' : ∀ k ∈ L, w.heap.size ≤ k := k6
    have HRN : Hid (RunNew (relSub (wd 0 2 3 0 1) (wd 0 2 3 0 2) who) RelT.fresh w w5 x (hvCells who nx cl p lk st id ct) 143 _) := RunNew.mk (S := (relSub (wd 0 2 3 0 1) (wd 0 2 3 0 2) who)) (W := w) HG.out k1 k6' hlt hB4 hC
    clear hO hR hH q4 q5 hf k1 k4 k5 k6 k6' k7 hC hB4 HH HG
    go_wp2_with fail
    go_end0
    exact ⟨⟨_, rfl⟩, HRN.out⟩
theorem hv_judge_no (hw : 0 ≤ who ∧ who ≤ 1000000) (y : Nat) (hlk : lk = some ⟨y, 0, none⟩) (hE : Calls Tryz.prog 125 #[.pointer (some ⟨y, 0, none⟩)] w fun e w' => e = .returned (.bool false) ∧ w = w') :
    Calls Tryz.prog 154 #[.pointer (some ⟨x, 0, none⟩)] w fun e w' => (∃ v, e = .returned v) ∧ RunNew (acqSub (wd 0 2 3 0 0) (wd 0 2 3 0 1) (wd 0 2 3 0 2) who) AcqT.fresh w w' x (hvCells who nx cl p lk st id ct) 143 (.func (.func 156) #[.pointer (some ⟨x, 0, none⟩)] #[]) := by
  subst hlk
  have H := hv_acquire w x cl who p (some ⟨y, 0, none⟩) st id nx ct h hw (.func (.func 156) #[.pointer (some ⟨x, 0, none⟩)] #[]) (.some _ _ _)
  have c4 := h.cell 4 (v := .pointer (some ⟨y, 0, none⟩)) rfl
  clear h hw
  go_enter Tryz.func154, Tryz.ntmps154
  go_wp2_with fail
  go_at_call 125; refine hE.mono ?_; rintro e w1 ⟨rfl, rfl⟩
  clear hE c4
  go_wp2_with fail
  go_at_call 155; refine H.mono ?_; rintro e w1 ⟨⟨u, rfl⟩, hC⟩
  clear H
  go_wp2_with fail
  refine bodyPost_ret (results_none rfl _ _ _) rfl ?_
  exact ⟨⟨_, rfl⟩, hC⟩
theorem hv_judge_yes (y : Nat) (hlk : lk = some ⟨y, 0, none⟩) (hE : Calls Tryz.prog 125 #[.pointer (some ⟨y, 0, none⟩)] w fun e w' => e = .returned (.bool true) ∧ w = w') :
    Calls Tryz.prog 154 #[.pointer (some ⟨x, 0, none⟩)] w fun e w' => (∃ v, e = .returned v) ∧ Came w w' x (hvCells who nx cl p lk st id ct) 143 (axLd 8) (.told 158) := by
  subst hlk
  have H := hv_load w x cl who p (some ⟨y, 0, none⟩) st id nx ct h 8 (by omega) 158
  have c4 := h.cell 4 (v := .pointer (some ⟨y, 0, none⟩)) rfl
  clear h
  go_enter Tryz.func154, Tryz.ntmps154
  go_wp2_with fail
  go_at_call 125; refine hE.mono ?_; rintro e w1 ⟨rfl, rfl⟩
  clear hE c4
  go_wp2_with fail
  go_at_call 157; refine H.mono ?_; rintro e w1 ⟨⟨u, rfl⟩, hC⟩
  clear H
  go_wp2_with fail
  go_end0
  exact ⟨⟨_, rfl⟩, hC⟩
theorem hv_seek_yes (v : Int) (hv : v ≠ 0) (hw : 0 ≤ who ∧ who ≤ 1000000) :
    Calls Tryz.prog 158 #[.pointer (some ⟨x, 0, none⟩), .int .u64 v] w fun e w' => (∃ v, e = .returned v) ∧ RunNew (acqSub (wd 0 2 3 0 0) (wd 0 2 3 0 1) (wd 0 2 3 0 2) who) AcqT.fresh w w' x (hvCells who nx cl p lk st id ct) 143 (.func (.func 156) #[.pointer (some ⟨x, 0, none⟩)] #[]) := by
  have hd : (v != 0) = true := by simpa using hv
  have hd0 : (v == 0) = false := by simpa using hv
  have H := hv_acquire w x cl who p lk st id nx ct h hw (.func (.func 156) #[.pointer (some ⟨x, 0, none⟩)] #[]) (.some _ _ _)
  clear h hv hw
  go_enter Tryz.func158, Tryz.ntmps158
  go_wp2_with fail
  go_at_call 155; refine H.mono ?_; rintro e w1 ⟨⟨u, rfl⟩, hC⟩
  clear H
  go_wp2_with fail
  refine bodyPost_ret (results_none rfl _ _ _) rfl ?_
  exact ⟨⟨_, rfl⟩, hC⟩
theorem hv_seek_no :
    Calls Tryz.prog 158 #[.pointer (some ⟨x, 0, none⟩), .int .u64 0] w fun e w' => (∃ v, e = .returned v) ∧ Came w w' x (hvCells who nx cl p lk st id ct) 143 (axLd 13) (.told 160) := by
  have H := hv_load w x cl who p lk st id nx ct h 13 (by omega) 160
  clear h
  go_enter Tryz.func158, Tryz.ntmps158
  go_wp2_with fail
  go_at_call 157; refine H.mono ?_; rintro e w1 ⟨⟨u, rfl⟩, hC⟩
  clear H
  go_wp2_with fail
  go_end0
  exact ⟨⟨_, rfl⟩, hC⟩
theorem hv_lookAgain (hw : 0 ≤ who ∧ who ≤ 1000000) :
    Calls Tryz.prog 162 #[.pointer (some ⟨x, 0, none⟩)] w fun e w' => (∃ v, e = .returned v) ∧ RunNew (acqSub (wd 0 2 3 0 0) (wd 0 2 3 0 1) (wd 0 2 3 0 2) who) AcqT.fresh w w' x (hvCells who nx cl p lk st id ct) 143 (.func (.func 167) #[.pointer (some ⟨x, 0, none⟩)] #[]) := by
  have H := hv_acquire w x cl who p lk st id nx ct h hw (.func (.func 167) #[.pointer (some ⟨x, 0, none⟩)] #[]) (.some _ _ _)
  clear h hw
  go_enter Tryz.func162, Tryz.ntmps162
  go_wp2_with fail
  go_at_call 155; refine H.mono ?_; rintro e w1 ⟨⟨u, rfl⟩, hC⟩
  clear H
  go_wp2_with fail
  go_end0
  exact ⟨⟨_, rfl⟩, hC⟩
theorem hv_consider_yes (v : Int) (hv : v ≠ 0) (hw : 0 ≤ who ∧ who ≤ 1000000) :
    Calls Tryz.prog 160 #[.pointer (some ⟨x, 0, none⟩), .int .u64 v] w fun e w' => (∃ v, e = .returned v) ∧ RunNew (acqSub (wd 0 2 3 0 0) (wd 0 2 3 0 1) (wd 0 2 3 0 2) who) AcqT.fresh w w' x (hvCells who nx cl p lk st id ct) 143 (.func (.func 167) #[.pointer (some ⟨x, 0, none⟩)] #[]) := by
  have hd : (v != 0) = true := by simpa using hv
  have hd0 : (v == 0) = false := by simpa using hv
  have H := hv_lookAgain w x cl who p lk st id nx ct h hw
  clear h hv hw
  go_enter Tryz.func160, Tryz.ntmps160
  go_wp2_with fail
  go_at_call 162; refine H.mono ?_; rintro e w1 ⟨⟨u, rfl⟩, hC⟩
  clear H
  go_wp2_with fail
  refine bodyPost_ret (results_none rfl _ _ _) rfl ?_
  exact ⟨⟨_, rfl⟩, hC⟩
theorem hv_consider_no :
    Calls Tryz.prog 160 #[.pointer (some ⟨x, 0, none⟩), .int .u64 0] w fun e w' => (∃ v, e = .returned v) ∧ Came w w' x (hvCells who nx cl p lk st id ct) 143 (axLd 10) (.told 163) := by
  have H := hv_load w x cl who p lk st id nx ct h 10 (by omega) 163
  clear h
  go_enter Tryz.func160, Tryz.ntmps160
  go_wp2_with fail
  go_at_call 157; refine H.mono ?_; rintro e w1 ⟨⟨u, rfl⟩, hC⟩
  clear H
  go_wp2_with fail
  go_end0
  exact ⟨⟨_, rfl⟩, hC⟩
theorem hv_count_yes (v : Int) (hv : v ≠ 0) (hw : 0 ≤ who ∧ who ≤ 1000000) :
    Calls Tryz.prog 163 #[.pointer (some ⟨x, 0, none⟩), .int .u64 v] w fun e w' => (∃ v, e = .returned v) ∧ RunNew (acqSub (wd 0 2 3 0 0) (wd 0 2 3 0 1) (wd 0 2 3 0 2) who) AcqT.fresh w w' x (hvCells who nx cl p lk st id ct) 143 (.func (.func 167) #[.pointer (some ⟨x, 0, none⟩)] #[]) := by
  have hd : (v != 0) = true := by simpa using hv
  have hd0 : (v == 0) = false := by simpa using hv
  have H := hv_lookAgain w x cl who p lk st id nx ct h hw
  clear h hv hw
  go_enter Tryz.func163, Tryz.ntmps163
  go_wp2_with fail
  go_at_call 162; refine H.mono ?_; rintro e w1 ⟨⟨u, rfl⟩, hC⟩
  clear H
  go_wp2_with fail
  refine bodyPost_ret (results_none rfl _ _ _) rfl ?_
  exact ⟨⟨_, rfl⟩, hC⟩
theorem hv_count_no :
    Calls Tryz.prog 163 #[.pointer (some ⟨x, 0, none⟩), .int .u64 0] w fun e w' => (∃ v, e = .returned v) ∧ Came w w' x (hvCells who nx cl p lk st id ct) 143 (axSw 13 0 1) (.swap 168) := by
  have H := came_swap w.drew x _ 143 h.drew (by simp [hvCells]) 13 0 1 168
  have c2 := h.cell 2 (v := .pointer (some ⟨cl, 0, none⟩)) rfl
  have hW := il_word w.drew cl 13 (by omega)
  clear h
  go_enter Tryz.func163, Tryz.ntmps163
  go_wp2_with fail
  go_region_with (first | (go_at_call 84; refine hW.mono ?_; rintro e w3 ⟨rfl, rfl⟩) | (go_at_call 148; refine H.mono ?_; rintro e w1 ⟨⟨v, rfl⟩, hC⟩))
  all_goals
    have hC2 := hC.undrew
    clear hW H c2 hC
    go_wp2_with fail
    go_end0
    exact ⟨⟨_, rfl⟩, hC2⟩
theorem hv_counted_no (hw : 0 ≤ who ∧ who ≤ 1000000) :
    Calls Tryz.prog 168 #[.pointer (some ⟨x, 0, none⟩), .bool false] w fun e w' => (∃ v, e = .returned v) ∧ RunNew (acqSub (wd 0 2 3 0 0) (wd 0 2 3 0 1) (wd 0 2 3 0 2) who) AcqT.fresh w w' x (hvCells who nx cl p lk st id ct) 143 (.func (.func 167) #[.pointer (some ⟨x, 0, none⟩)] #[]) := by
  have H := hv_lookAgain w x cl who p lk st id nx ct h hw
  clear h hw
  go_enter Tryz.func168, Tryz.ntmps168
  go_wp2_with fail
  go_at_call 162; refine H.mono ?_; rintro e w1 ⟨⟨u, rfl⟩, hC⟩
  clear H
  go_wp2_with fail
  refine bodyPost_ret (results_none rfl _ _ _) rfl ?_
  exact ⟨⟨_, rfl⟩, hC⟩
theorem hv_counted_yes :
    Calls Tryz.prog 168 #[.pointer (some ⟨x, 0, none⟩), .bool true] w fun e w' => (∃ v, e = .returned v) ∧ Came w w' x (hvCells who nx cl p lk st id true) 143 (axSt 14 0) (.untold 179) := by
  have c7 := h.cell 7 (v := .bool ct) rfl
  have f7 := h.fro 7
  obtain ⟨V, hV⟩ : ∃ V, (w.setCell ⟨x, 7, none⟩ (.bool true)) = V := ⟨_, rfl⟩
  have h' : Blk V x (hvCells who nx cl p lk st id true) 143 := by rw [← hV]; exact h.set 7 (.bool true)
  have hB : But [x] w V := by rw [← hV]; exact (But.refl _ w).set (g := x) (.inl (by simp)) 7 _
  have H := hv_store V x cl who p lk st id nx true h' 14 (by omega) 0 179
  clear h h'
  go_enter Tryz.func168, Tryz.ntmps168
  go_wp2_with fail
  try rw [hV]
  clear hV c7 f7
  go_at_call 178; refine H.mono ?_; rintro e w1 ⟨⟨u, rfl⟩, hC⟩
  have hC2 := hC.before hB
  clear H hC hB
  go_wp2_with fail
  go_end0
  exact ⟨⟨_, rfl⟩, hC2⟩
theorem hv_acquireForSpinning (hw : 0 ≤ who ∧ who ≤ 1000000) :
    Calls Tryz.prog 179 #[.pointer (some ⟨x, 0, none⟩)] w fun e w' => (∃ v, e = .returned v) ∧ RunNew (acqSub (wd 0 2 3 0 0) (wd 0 2 3 0 1) (wd 0 2 3 0 2) who) AcqT.fresh w w' x (hvCells who nx cl p lk st id ct) 143 (.func (.func 190) #[.pointer (some ⟨x, 0, none⟩)] #[]) := by
  have H := hv_acquire w x cl who p lk st id nx ct h hw (.func (.func 190) #[.pointer (some ⟨x, 0, none⟩)] #[]) (.some _ _ _)
  clear h hw
  go_enter Tryz.func179, Tryz.ntmps179
  go_wp2_with fail
  go_at_call 155; refine H.mono ?_; rintro e w1 ⟨⟨u, rfl⟩, hC⟩
  clear H
  go_wp2_with fail
  go_end0
  exact ⟨⟨_, rfl⟩, hC⟩
theorem hv_loadAgain :
    Calls Tryz.prog 167 #[.pointer (some ⟨x, 0, none⟩)] w fun e w' => (∃ v, e = .returned v) ∧ Came w w' x (hvCells who nx cl p lk st id ct) 143 (axLd 8) (.told 177) := by
  have H := hv_load w x cl who p lk st id nx ct h 8 (by omega) 177
  clear h
  go_enter Tryz.func167, Tryz.ntmps167
  go_wp2_with fail
  go_at_call 157; refine H.mono ?_; rintro e w1 ⟨⟨u, rfl⟩, hC⟩
  clear H
  go_wp2_with fail
  go_end0
  exact ⟨⟨_, rfl⟩, hC⟩
theorem hv_judgeAgain_no :
    Calls Tryz.prog 177 #[.pointer (some ⟨x, 0, none⟩), .int .u64 0] w fun e w' => (∃ v, e = .returned v) ∧ Came w w' x (hvCells who nx cl p lk st id ct) 143 (axLd 14) (.told 189) := by
  have H := hv_load w x cl who p lk st id nx ct h 14 (by omega) 189
  clear h
  go_enter Tryz.func177, Tryz.ntmps177
  go_wp2_with fail
  go_at_call 157; refine H.mono ?_; rintro e w1 ⟨⟨u, rfl⟩, hC⟩
  clear H
  go_wp2_with fail
  go_end0
  exact ⟨⟨_, rfl⟩, hC⟩
theorem hv_serve_yes (v : Int) (hv : v ≠ 0) :
    Calls Tryz.prog 189 #[.pointer (some ⟨x, 0, none⟩), .int .u64 v] w fun e w' => (∃ v, e = .returned v) ∧ Came w w' x (hvCells who nx cl p lk st id ct) 143 (axAd 13 1) (.told 199) := by
  have hd : (v != 0) = true := by simpa using hv
  have hd0 : (v == 0) = false := by simpa using hv
  have H := came_add w.drew x _ 143 h.drew (by simp [hvCells]) 13 1 199
  have c2 := h.cell 2 (v := .pointer (some ⟨cl, 0, none⟩)) rfl
  have hW := il_word w.drew cl 13 (by omega)
  clear h hv
  go_enter Tryz.func189, Tryz.ntmps189
  go_wp2_with fail
  go_region_with (first | (go_at_call 84; refine hW.mono ?_; rintro e w3 ⟨rfl, rfl⟩) | (go_at_call 135; refine H.mono ?_; rintro e w1 ⟨⟨v, rfl⟩, hC⟩))
  all_goals
    have hC2 := hC.undrew
    clear hW H c2 hC
    go_wp2_with fail
    go_end0
    exact ⟨⟨_, rfl⟩, hC2⟩
theorem hv_served (u : Int) :
    Calls Tryz.prog 199 #[.pointer (some ⟨x, 0, none⟩), .int .u64 u] w fun e w' => (∃ v, e = .returned v) ∧ Came w w' x (hvCells who nx cl p lk st id true) 143 (axSt 14 0) (.untold 190) := by
  have c7 := h.cell 7 (v := .bool ct) rfl
  have f7 := h.fro 7
  obtain ⟨V, hV⟩ : ∃ V, (w.setCell ⟨x, 7, none⟩ (.bool true)) = V := ⟨_, rfl⟩
  have h' : Blk V x (hvCells who nx cl p lk st id true) 143 := by rw [← hV]; exact h.set 7 (.bool true)
  have hB : But [x] w V := by rw [← hV]; exact (But.refl _ w).set (g := x) (.inl (by simp)) 7 _
  have H := hv_store V x cl who p lk st id nx true h' 14 (by omega) 0 190
  clear h h'
  go_enter Tryz.func199, Tryz.ntmps199
  go_wp2_with fail
  try rw [hV]
  clear hV c7 f7
  go_at_call 178; refine H.mono ?_; rintro e w1 ⟨⟨u2, rfl⟩, hC⟩
  have hC2 := hC.before hB
  clear H hC hB
  go_wp2_with fail
  go_end0
  exact ⟨⟨_, rfl⟩, hC2⟩
set_option maxHeartbeats 4000000 in
theorem hv_begin (sp : Bool) (P T G : Int) (hw : 0 ≤ who ∧ who ≤ 1000000) (hp : 0 ≤ P ∧ P ≤ 64) (hT : 0 ≤ T ∧ T ≤ 65536) :
    Calls Tryz.prog 159 #[.pointer (some ⟨x, 0, none⟩), .bool sp] w fun e w' => (∃ v, e = .returned v) ∧ HvHeld (hvSt who P T G p sp cl) (WsT.get .ld) w w' x (fun y => hvCells who nx cl p lk (some ⟨y, 0, none⟩) id false) 143 .nilFunc := by
  have c7 := h.cell 7 (v := .bool ct) rfl
  have f7 := h.fro 7
  obtain ⟨V0, hV⟩ : ∃ V, (w.setCell ⟨x, 7, none⟩ (.bool false)) = V := ⟨_, rfl⟩
  have h' : Blk V0 x (hvCells who nx cl p lk st id false) 143 := by rw [← hV]; exact h.set 7 (.bool false)
  have hB : But [x] w V0 := by rw [← hV]; exact (But.refl _ w).set (g := x) (.inl (by simp)) 7 _
  have hlt := h'.lt
  have hO := who_any V0.drew x who (h'.drew.cell 0 rfl)
  have hN := ws_new_at V0.drew cl who p P T G sp true hp hT
  have HG : Hid ((wsCp who P T G p sp true cl).I.Good (wsPM P T p sp true)) := Cp.good (ws_laws hw hp hT)
  have HH : Hid (Blk V0 x (hvCells who nx cl p lk st id false) 143) := h'
  have hH : Hid (V0.drew.cell? ⟨x, 2, none⟩ = some (.pointer (some ⟨cl, 0, none⟩)) ∧ V0.drew.cell? ⟨x, 3, none⟩ = some (.int .i64 p)) := ⟨h'.drew.cell 2 rfl, h'.drew.cell 3 rfl⟩
  have KB : Hid (∀ w4, Below V0.drew.heap.size V0.drew w4 → w4.cell? ⟨x, 2, none⟩ = some (.pointer (some ⟨cl, 0, none⟩)) ∧ w4.cell? ⟨x, 3, none⟩ = some (.int .i64 p)) := fun w4 k => ⟨(h'.drew.but (But.of_below (l := []) k) (by simp)).cell 2 rfl, (h'.drew.but (But.of_below (l := []) k) (by simp)).cell 3 rfl⟩
  have HST : Hid (∀ (X : World) (u : Value), Blk X x (hvCells who nx cl p lk st id false) 143 → (X.setCell ⟨x, 5, none⟩ u).cell? ⟨x, 2, none⟩ = some (.pointer (some ⟨cl, 0, none⟩)) ∧ (X.setCell ⟨x, 5, none⟩ u).cell? ⟨x, 3, none⟩ = some (.int .i64 p)) := fun X u h => ⟨(h.set 5 u).cell 2 rfl, (h.set 5 u).cell 3 rfl⟩
  clear h h' hw hp hT
  go_enter Tryz.func159, Tryz.ntmps159
  go_wp2_with fail
  try rw [hV]
  clear hV c7 f7
  go_region_held3 (fun w' => w'.cell? ⟨x, 2, none⟩ = some (.pointer (some ⟨cl, 0, none⟩)) ∧ w'.cell? ⟨x, 3, none⟩ = some (.int .i64 p)) (first | exact hH.out | exact HST.out _ _ ‹_› | exact KB.out _ ‹_›) (first | (go_at_call 119; refine hO.mono ?_; rintro e w3 ⟨rfl, rfl⟩) | (go_at_call 161; refine hN.mono ?_; rintro e w4 ⟨y, L, rfl, k1, k2, k3, k4⟩; have h4 : Blk w4 x (hvCells who nx cl p lk st id false) 143 := HH.out.but (But.of_below (l := []) (show Below V0.heap.size V0 w4 from (Below.refl _ _).drew.trans k2)) (by simp); have c8 := h4.cell 5 (v := .pointer st) rfl; have f8 := h4.fro 5; have l8 := h4.lt))
  all_goals
    have k3' : ∀ k ∈ L, V0.heap.size ≤ k := k3
    have k4' : V0.heap.size ≤ y := k4
    have hB4 : But [x] V0 (w4.setCell ⟨x, 5, none⟩ (.pointer (some ⟨y, 0, none⟩))) := (((But.refl [x] V0).drew).trans (But.of_below k2)).set (g := x) (.inl (by simp)) 5 _
    have h5 : Blk (w4.setCell ⟨x, 5, none⟩ (.pointer (some ⟨y, 0, none⟩))) x (hvCells who nx cl p lk (some ⟨y, 0, none⟩) id false) 143 := h4.set 5 _
    have hI5 : (wsCp who P T G p sp true cl).I (w4.setCell ⟨x, 5, none⟩ (.pointer (some ⟨y, 0, none⟩))) y (.get .ld) L := HG.out.keep k1 ((But.refl [x] w4).set (g := x) (.inl (by simp)) 5 _) (fun k hk => by have := k3' k hk; simp; omega)
    generalize (w4.setCell ⟨x, 5, none⟩ (.pointer (some ⟨y, 0, none⟩))) = V at *
    obtain ⟨a, ha⟩ : ∃ a, V.cell? ⟨y, 1, none⟩ = some (.pointer (some a)) := by
      obtain ⟨nx, q1, q2⟩ := HG.out.next hI5
      cases nx with
      | none => cases q2
      | some a => exact ⟨a, q1⟩
    have c8' := h5.cell 5 (v := .pointer (some ⟨y, 0, none⟩)) rfl
    have hf := frun_wst V.drew x y _ 143 .nilFunc a h5.drew (by simp [hvCells]) .none (by omega) (by simpa using ha)
    clear hO hN k1 k2 k3 k4 h4 c8 f8 l8 HH hH KB HST
    go_wp2_with fail
    go_region_with (first | (go_at_call 120; refine hf.mono ?_; rintro e w5 ⟨⟨v, rfl⟩, q, b, hC⟩))
    all_goals
      have hlL := HG.out.lt hI5
      have f1 : V.heap.size ≤ q := hC.at'.fresh
      have f2 : V.heap.size ≤ b := hC.fresh
      have hI6 := HG.out.keep hI5 (((But.refl [x] V).drew).trans hC.at'.but) (fun k hk => by have := k3' k hk; simp; omega)
      have hC6 := (hC.before ((But.refl [x] V).drew |> hB4.trans)).before hB
      have hq : q ∉ L ∧ b ∉ L := ⟨fun hm => by have := hlL q hm; omega, fun hm => by have := hlL b hm; omega⟩
      have hszB := hB.size
      clear hf hC c8' hB4 h5 hI5 HG hB
      go_wp2_with fail
      go_end0
      exact ⟨⟨_, rfl⟩, y, q, b, L, hC6, hI6, (fun k hk => Nat.le_trans hszB (k3' k hk)), hq.1, hq.2⟩
theorem hv_startPlain (P T G : Int) (hw : 0 ≤ who ∧ who ≤ 1000000) (hp : 0 ≤ P ∧ P ≤ 64) (hT : 0 ≤ T ∧ T ≤ 65536) :
    Calls Tryz.prog 156 #[.pointer (some ⟨x, 0, none⟩)] w fun e w' => (∃ v, e = .returned v) ∧ HvHeld (hvSt who P T G p false cl) (WsT.get .ld) w w' x (fun y => hvCells who nx cl p lk (some ⟨y, 0, none⟩) id false) 143 .nilFunc := by
  have H := hv_begin w x cl who p lk st id nx ct h false P T G hw hp hT
  clear h hw hp hT
  go_enter Tryz.func156, Tryz.ntmps156
  go_wp2_with fail
  go_at_call 159; refine H.mono ?_; rintro e w1 ⟨⟨u, rfl⟩, hC⟩
  clear H
  go_wp2_with fail
  go_end0
  exact ⟨⟨_, rfl⟩, hC⟩
theorem hv_startSpinning (P T G : Int) (hw : 0 ≤ who ∧ who ≤ 1000000) (hp : 0 ≤ P ∧ P ≤ 64) (hT : 0 ≤ T ∧ T ≤ 65536) :
    Calls Tryz.prog 190 #[.pointer (some ⟨x, 0, none⟩)] w fun e w' => (∃ v, e = .returned v) ∧ HvHeld (hvSt who P T G p true cl) (WsT.get .ld) w w' x (fun y => hvCells who nx cl p lk (some ⟨y, 0, none⟩) id false) 143 .nilFunc := by
  have H := hv_begin w x cl who p lk st id nx ct h true P T G hw hp hT
  clear h hw hp hT
  go_enter Tryz.func190, Tryz.ntmps190
  go_wp2_with fail
  go_at_call 159; refine H.mono ?_; rintro e w1 ⟨⟨u, rfl⟩, hC⟩
  clear H
  go_wp2_with fail
  go_end0
  exact ⟨⟨_, rfl⟩, hC⟩
theorem hv_judgeAgain_yes (v : Int) (hv : v ≠ 0) (P T G : Int) (hw : 0 ≤ who ∧ who ≤ 1000000) (hp : 0 ≤ P ∧ P ≤ 64) (hT : 0 ≤ T ∧ T ≤ 65536) :
    Calls Tryz.prog 177 #[.pointer (some ⟨x, 0, none⟩), .int .u64 v] w fun e w' => (∃ v, e = .returned v) ∧ HvHeld (hvSt who P T G p false cl) (WsT.get .ld) w w' x (fun y => hvCells who nx cl p lk (some ⟨y, 0, none⟩) id false) 143 .nilFunc := by
  have hd : (v != 0) = true := by simpa using hv
  have hd0 : (v == 0) = false := by simpa using hv
  have H := hv_startPlain w x cl who p lk st id nx ct h P T G hw hp hT
  clear h hv hw hp hT
  go_enter Tryz.func177, Tryz.ntmps177
  go_wp2_with fail
  go_at_call 156; refine H.mono ?_; rintro e w1 ⟨⟨u, rfl⟩, hC⟩
  clear H
  go_wp2_with fail
  refine bodyPost_ret (results_none rfl _ _ _) rfl ?_
  exact ⟨⟨_, rfl⟩, hC⟩
set_option maxHeartbeats 4000000 in
theorem hv_putIdle (P T G : Int) (hp : 0 ≤ P ∧ P ≤ 64) (hT : 0 ≤ T ∧ T ≤ 65536) :
    Calls Tryz.prog 198 #[.pointer (some ⟨x, 0, none⟩)] w fun e w' => (∃ v, e = .returned v) ∧ HvHeld (hvIp who P T G p cl) IpT.m0 w w' x (fun y => hvCells who nx cl p lk st (some ⟨y, 0, none⟩) ct) 143 (.func (.func 206) #[.pointer (some ⟨x, 0, none⟩)] #[]) := by
  have hlt := h.lt
  have hO := who_any w.drew x who (h.drew.cell 0 rfl)
  have hN := ip_new w.drew cl who p P
  have HG : Hid (((ipFl who p cl).I (ipPM P p)).Good (ipPM P p)) := Fl.good (ip_laws who P T G p cl hp hT)
  have HH : Hid (Blk w x (hvCells who nx cl p lk st id ct) 143) := h
  have hH : Hid (w.drew.cell? ⟨x, 2, none⟩ = some (.pointer (some ⟨cl, 0, none⟩)) ∧ w.drew.cell? ⟨x, 3, none⟩ = some (.int .i64 p)) := ⟨h.drew.cell 2 rfl, h.drew.cell 3 rfl⟩
  have KB : Hid (∀ w4, Below w.drew.heap.size w.drew w4 → w4.cell? ⟨x, 2, none⟩ = some (.pointer (some ⟨cl, 0, none⟩)) ∧ w4.cell? ⟨x, 3, none⟩ = some (.int .i64 p)) := fun w4 k => ⟨(h.drew.but (But.of_below (l := []) k) (by simp)).cell 2 rfl, (h.drew.but (But.of_below (l := []) k) (by simp)).cell 3 rfl⟩
  have HST : Hid (∀ (X : World) (u : Value), Blk X x (hvCells who nx cl p lk st id ct) 143 → (X.setCell ⟨x, 6, none⟩ u).cell? ⟨x, 2, none⟩ = some (.pointer (some ⟨cl, 0, none⟩)) ∧ (X.setCell ⟨x, 6, none⟩ u).cell? ⟨x, 3, none⟩ = some (.int .i64 p)) := fun X u h => ⟨(h.set 6 u).cell 2 rfl, (h.set 6 u).cell 3 rfl⟩
  clear h hp hT
  go_enter Tryz.func198, Tryz.ntmps198
  go_wp2_with fail
  go_region_held3 (fun w' => w'.cell? ⟨x, 2, none⟩ = some (.pointer (some ⟨cl, 0, none⟩)) ∧ w'.cell? ⟨x, 3, none⟩ = some (.int .i64 p)) (first | exact hH.out | exact HST.out _ _ ‹_› | exact KB.out _ ‹_›) (first | (go_at_call 119; refine hO.mono ?_; rintro e w3 ⟨rfl, rfl⟩) | (go_at_call 195; refine hN.mono ?_; rintro e w4 ⟨y, L, rfl, k1, k2, k3, k4⟩; have h4 : Blk w4 x (hvCells who nx cl p lk st id ct) 143 := HH.out.but (But.of_below (l := []) (show Below w.heap.size w w4 from (Below.refl _ _).drew.trans k2)) (by simp); have c8 := h4.cell 6 (v := .pointer id) rfl; have f8 := h4.fro 6; have l8 := h4.lt))
  all_goals
    have k3' : ∀ k ∈ L, w.heap.size ≤ k := k3
    have k4' : w.heap.size ≤ y := k4
    have hB4 : But [x] w (w4.setCell ⟨x, 6, none⟩ (.pointer (some ⟨y, 0, none⟩))) := (((But.refl [x] w).drew).trans (But.of_below k2)).set (g := x) (.inl (by simp)) 6 _
    have h5 : Blk (w4.setCell ⟨x, 6, none⟩ (.pointer (some ⟨y, 0, none⟩))) x (hvCells who nx cl p lk st (some ⟨y, 0, none⟩) ct) 143 := h4.set 6 _
    have hI5 : (ipFl who p cl).I (ipPM P p) (w4.setCell ⟨x, 6, none⟩ (.pointer (some ⟨y, 0, none⟩))) y .m0 L := HG.out.keep k1 ((But.refl [x] w4).set (g := x) (.inl (by simp)) 6 _) (fun k hk => by have := k3' k hk; simp; omega)
    generalize (w4.setCell ⟨x, 6, none⟩ (.pointer (some ⟨y, 0, none⟩))) = V at *
    obtain ⟨a, ha⟩ : ∃ a, V.cell? ⟨y, 1, none⟩ = some (.pointer (some a)) := by
      obtain ⟨nx, q1, q2⟩ := HG.out.next hI5
      cases nx with
      | none => cases q2
      | some a => exact ⟨a, q1⟩
    have c8' := h5.cell 6 (v := .pointer (some ⟨y, 0, none⟩)) rfl
    have hf := frun_ipp V.drew x y _ 143 (.func (.func 206) #[.pointer (some ⟨x, 0, none⟩)] #[]) a h5.drew (by simp [hvCells]) (.some _ _ _) (by omega) (by simpa using ha)
    clear hO hN k1 k2 k3 k4 h4 c8 f8 l8 HH hH KB HST
    go_wp2_with fail
    go_region_with (first | (go_at_call 120; refine hf.mono ?_; rintro e w5 ⟨⟨v, rfl⟩, q, b, hC⟩))
    all_goals
      have hlL := HG.out.lt hI5
      have f1 : V.heap.size ≤ q := hC.at'.fresh
      have f2 : V.heap.size ≤ b := hC.fresh
      have hI6 := HG.out.keep hI5 (((But.refl [x] V).drew).trans hC.at'.but) (fun k hk => by have := k3' k hk; simp; omega)
      have hC6 := hC.before ((But.refl [x] V).drew |> hB4.trans)
      have hq : q ∉ L ∧ b ∉ L := ⟨fun hm => by have := hlL q hm; omega, fun hm => by have := hlL b hm; omega⟩
      clear hf hC c8' hB4 h5 hI5 HG
      go_wp2_with fail
      go_end0
      exact ⟨⟨_, rfl⟩, y, q, b, L, hC6, hI6, k3', hq.1, hq.2⟩
theorem hv_serve_no (P T G : Int) (hp : 0 ≤ P ∧ P ≤ 64) (hT : 0 ≤ T ∧ T ≤ 65536) :
    Calls Tryz.prog 189 #[.pointer (some ⟨x, 0, none⟩), .int .u64 0] w fun e w' => (∃ v, e = .returned v) ∧ HvHeld (hvIp who P T G p cl) IpT.m0 w w' x (fun y => hvCells who nx cl p lk st (some ⟨y, 0, none⟩) ct) 143 (.func (.func 206) #[.pointer (some ⟨x, 0, none⟩)] #[]) := by
  have H := hv_putIdle w x cl who p lk st id nx ct h P T G hp hT
  clear h hp hT
  go_enter Tryz.func189, Tryz.ntmps189
  go_wp2_with fail
  go_at_call 198; refine H.mono ?_; rintro e w1 ⟨⟨u, rfl⟩, hC⟩
  clear H
  go_wp2_with fail
  refine bodyPost_ret (results_none rfl _ _ _) rfl ?_
  exact ⟨⟨_, rfl⟩, hC⟩
theorem hv_holds_p (y : Nat) (hlk : lk = some ⟨y, 0, none⟩) (hst : st = none) (hid : id = none) : Calls Tryz.prog 49 #[.pointer (some ⟨x, 0, none⟩)] w fun e w' => e = .returned (.int .i64 p) ∧ w = w' := by
  subst hlk hst hid
  have c3 := h.cell 3 (v := .int .i64 p) rfl
  have c4 := h.cell 4 (v := .pointer (some ⟨y, 0, none⟩)) rfl
  have c5 := h.cell 5 (v := .pointer none) rfl
  have c6 := h.cell 6 (v := .pointer none) rfl
  clear h
  go_enter Tryz.func49, Tryz.ntmps49
  go_wp2_with fail
  go_ret
  exact ⟨rfl, rfl⟩
theorem hv_holds_st (y z : Nat) (v : Int) (hlk : lk = some ⟨y, 0, none⟩) (hst : st = some ⟨z, 0, none⟩) (hP : Calls Tryz.prog 76 #[.pointer (some ⟨z, 0, none⟩)] w fun e w' => e = .returned (.int .i64 v) ∧ w = w') : Calls Tryz.prog 49 #[.pointer (some ⟨x, 0, none⟩)] w fun e w' => e = .returned (.int .i64 v) ∧ w = w' := by
  subst hlk hst
  have c4 := h.cell 4 (v := .pointer (some ⟨y, 0, none⟩)) rfl
  have c5 := h.cell 5 (v := .pointer (some ⟨z, 0, none⟩)) rfl
  clear h
  go_enter Tryz.func49, Tryz.ntmps49
  go_wp2_with fail
  go_at_call 76; refine hP.mono ?_; rintro e w1 ⟨rfl, rfl⟩
  clear hP
  go_wp2_with fail
  go_ret
  exact ⟨rfl, rfl⟩
theorem hv_holds_id (y z : Nat) (v : Int) (hlk : lk = some ⟨y, 0, none⟩) (hst : st = none) (hid : id = some ⟨z, 0, none⟩) (hP : Calls Tryz.prog 77 #[.pointer (some ⟨z, 0, none⟩)] w fun e w' => e = .returned (.int .i64 v) ∧ w = w') : Calls Tryz.prog 49 #[.pointer (some ⟨x, 0, none⟩)] w fun e w' => e = .returned (.int .i64 v) ∧ w = w' := by
  subst hlk hst hid
  have c4 := h.cell 4 (v := .pointer (some ⟨y, 0, none⟩)) rfl
  have c5 := h.cell 5 (v := .pointer none) rfl
  have c6 := h.cell 6 (v := .pointer (some ⟨z, 0, none⟩)) rfl
  clear h
  go_enter Tryz.func49, Tryz.ntmps49
  go_wp2_with fail
  go_at_call 77; refine hP.mono ?_; rintro e w1 ⟨rfl, rfl⟩
  clear hP
  go_wp2_with fail
  go_ret
  exact ⟨rfl, rfl⟩
theorem hv_counts : Calls Tryz.prog 50 #[.pointer (some ⟨x, 0, none⟩)] w fun e w' => e = .returned (.bool ct) ∧ w = w' := by
  have c7 := h.cell 7 (v := .bool ct) rfl
  clear h
  go_enter Tryz.func50, Tryz.ntmps50
  go_wp2_with fail
  go_ret
  exact ⟨rfl, rfl⟩
end
theorem hv_Holds_nil (w : World) : Calls Tryz.prog 49 #[.pointer none] w fun e w' => e = .returned (.int .i64 (-1)) ∧ w = w' := by
  go_enter Tryz.func49, Tryz.ntmps49
  go_wp2_with fail
  go_ret
  exact ⟨rfl, rfl⟩
theorem hv_Counts_nil (w : World) : Calls Tryz.prog 50 #[.pointer none] w fun e w' => e = .returned (.bool false) ∧ w = w' := by
  go_enter Tryz.func50, Tryz.ntmps50
  go_wp2_with fail
  go_ret
  exact ⟨rfl, rfl⟩
end Go.Proofs.YthjfbknmdligeaaGreat

namespace Go.Proofs.YthjfbknmdligeaaGreat
open Go Go.RowKit
set_option linter.unusedVariables false
set_option maxRecDepth 100000
set_option linter.unusedSimpArgs false


end Go.Proofs.YthjfbknmdligeaaGreat

namespace Go.Proofs.YthjfbknmdligeaaGreat
open Go Go.RowKit
set_option linter.unusedVariables false
set_option maxRecDepth 100000
set_option linter.unusedSimpArgs false

def rpCells (who : Int) (nx : Option Addr) (cl : Nat) (p g : Int) (has : Bool) (nt hd tl : Int) (rest : List Value) : Array Value := (.int .i64 who :: .pointer nx :: .pointer (some ⟨cl, 0, none⟩) :: .int .i64 p :: .int .i64 g :: .bool has :: .int .u64 nt :: .int .u64 hd :: .int .u64 tl :: rest).toArray
def rpw (g : Int) : Int := IntKind.u64.wrap (IntKind.u64.wrap g + 1)
section
variable {who : Int} {nx : Option Addr} {cl : Nat} {p g : Int} {has : Bool} {nt hd tl : Int} {rest : List Value}
theorem rp_size : 2 ≤ (rpCells who nx cl p g has nt hd tl rest).size := by simp [rpCells]
theorem rp_c0 : (rpCells who nx cl p g has nt hd tl rest)[0]? = some (.int .i64 who) := by simp [rpCells]
theorem rp_c1 : (rpCells who nx cl p g has nt hd tl rest)[1]? = some (.pointer nx) := by simp [rpCells]
theorem rp_c2 : (rpCells who nx cl p g has nt hd tl rest)[2]? = some (.pointer (some ⟨cl, 0, none⟩)) := by simp [rpCells]
theorem rp_c3 : (rpCells who nx cl p g has nt hd tl rest)[3]? = some (.int .i64 p) := by simp [rpCells]
theorem rp_c4 : (rpCells who nx cl p g has nt hd tl rest)[4]? = some (.int .i64 g) := by simp [rpCells]
theorem rp_c5 : (rpCells who nx cl p g has nt hd tl rest)[5]? = some (.bool has) := by simp [rpCells]
theorem rp_c6 : (rpCells who nx cl p g has nt hd tl rest)[6]? = some (.int .u64 nt) := by simp [rpCells]
theorem rp_c7 : (rpCells who nx cl p g has nt hd tl rest)[7]? = some (.int .u64 hd) := by simp [rpCells]
theorem rp_c8 : (rpCells who nx cl p g has nt hd tl rest)[8]? = some (.int .u64 tl) := by simp [rpCells]
theorem rp_s1 (nx' : Option Addr) : (rpCells who nx cl p g has nt hd tl rest).setIfInBounds 1 (.pointer nx') = (rpCells who nx' cl p g has nt hd tl rest) := by simp [rpCells]
theorem rp_s4 (g' : Int) : (rpCells who nx cl p g has nt hd tl rest).setIfInBounds 4 (.int .i64 g') = (rpCells who nx cl p g' has nt hd tl rest) := by simp [rpCells]
theorem rp_s5 (h' : Bool) : (rpCells who nx cl p g has nt hd tl rest).setIfInBounds 5 (.bool h') = (rpCells who nx cl p g h' nt hd tl rest) := by simp [rpCells]
theorem rp_s6 (v' : Int) : (rpCells who nx cl p g has nt hd tl rest).setIfInBounds 6 (.int .u64 v') = (rpCells who nx cl p g has v' hd tl rest) := by simp [rpCells]
theorem rp_s7 (v' : Int) : (rpCells who nx cl p g has nt hd tl rest).setIfInBounds 7 (.int .u64 v') = (rpCells who nx cl p g has nt v' tl rest) := by simp [rpCells]
theorem rp_s8 (v' : Int) : (rpCells who nx cl p g has nt hd tl rest).setIfInBounds 8 (.int .u64 v') = (rpCells who nx cl p g has nt hd v' rest) := by simp [rpCells]
end
end Go.Proofs.YthjfbknmdligeaaGreat

namespace Go.Proofs.YthjfbknmdligeaaGreat
open Go Go.RowKit
set_option linter.unusedVariables false
set_option maxRecDepth 100000
set_option linter.unusedSimpArgs false

/-- The cells behind Tail: what is given, how many are loaded, what puts them. -/
def rpRest (gv : List Int) (ld : Int) (qu : Option Addr) : List Value := gv.map (Value.int .i64) ++ [.int .i64 ld, .pointer qu]
section
variable {who : Int} {nx : Option Addr} {cl : Nat} {p g : Int} {has : Bool} {nt hd tl : Int} {gv : List Int} {ld : Int} {qu : Option Addr} (h : gv.length = 128)
include h
theorem rp_c137 : (rpCells who nx cl p g has nt hd tl (rpRest gv ld qu))[137]? = some (.int .i64 ld) := by
  unfold rpCells
  rw [List.getElem?_toArray]
  show (rpRest gv ld qu)[128]? = _
  unfold rpRest
  rw [List.getElem?_append_right (by simp [h])]
  simp [h]
theorem rp_c138 : (rpCells who nx cl p g has nt hd tl (rpRest gv ld qu))[138]? = some (.pointer qu) := by
  unfold rpCells
  rw [List.getElem?_toArray]
  show (rpRest gv ld qu)[129]? = _
  unfold rpRest
  rw [List.getElem?_append_right (by simp [h])]
  simp [h]
theorem rp_given (k : Nat) (hk : k < 128) : (rpCells who nx cl p g has nt hd tl (rpRest gv ld qu))[9 + k]? = some (.int .i64 (gv.getD k 0)) := by
  unfold rpCells
  rw [List.getElem?_toArray, Nat.add_comm]
  show (rpRest gv ld qu)[k]? = _
  unfold rpRest
  rw [List.getElem?_append_left (by simp [h]; omega), List.getElem?_map, List.getElem?_eq_getElem (by omega), List.getD_eq_getElem?_getD, List.getElem?_eq_getElem (by omega)]
  rfl
theorem rp_s137 (l' : Int) : (rpCells who nx cl p g has nt hd tl (rpRest gv ld qu)).setIfInBounds 137 (.int .i64 l') = (rpCells who nx cl p g has nt hd tl (rpRest gv l' qu)) := by
  unfold rpCells
  rw [List.setIfInBounds_toArray]
  congr 1
  show _ :: _ :: _ :: _ :: _ :: _ :: _ :: _ :: _ :: (rpRest gv ld qu).set 128 _ = _
  unfold rpRest
  rw [List.set_append_right _ _ (by simp [h])]
  simp [h]
theorem rp_s138 (q' : Option Addr) : (rpCells who nx cl p g has nt hd tl (rpRest gv ld qu)).setIfInBounds 138 (.pointer q') = (rpCells who nx cl p g has nt hd tl (rpRest gv ld q')) := by
  unfold rpCells
  rw [List.setIfInBounds_toArray]
  congr 1
  show _ :: _ :: _ :: _ :: _ :: _ :: _ :: _ :: _ :: (rpRest gv ld qu).set 129 _ = _
  unfold rpRest
  rw [List.set_append_right _ _ (by simp [h])]
  simp [h]
theorem rp_sgiven (k : Nat) (hk : k < 128) (v : Int) : (rpCells who nx cl p g has nt hd tl (rpRest gv ld qu)).setIfInBounds (9 + k) (.int .i64 v) = (rpCells who nx cl p g has nt hd tl (rpRest (gv.set k v) ld qu)) := by
  unfold rpCells
  rw [List.setIfInBounds_toArray, Nat.add_comm 9 k]
  congr 1
  show _ :: _ :: _ :: _ :: _ :: _ :: _ :: _ :: _ :: (rpRest gv ld qu).set k _ = _
  unfold rpRest
  rw [List.set_append_left _ _ (by simp [h]; omega), List.map_set]
end
end Go.Proofs.YthjfbknmdligeaaGreat

namespace Go.Proofs.YthjfbknmdligeaaGreat
open Go Go.RowKit
set_option linter.unusedVariables false
set_option maxRecDepth 100000
set_option linter.unusedSimpArgs false

end Go.Proofs.YthjfbknmdligeaaGreat

namespace Go.Proofs.YthjfbknmdligeaaGreat
open Go Go.RowKit
set_option linter.unusedVariables false
set_option maxRecDepth 100000
set_option linter.unusedSimpArgs false

/-- The cells of a machine that begins. -/
def rpZ (nx : Option Addr) (who p g : Int) (cl : Nat) : Array Value := rpCells who nx cl p g true 0 0 0 (rpRest (List.replicate 128 0) 0 none)
theorem rp_zset (who p g : Int) (cl : Nat) (nx : Option Addr) (v : Value) : (rpZ nx 0 p g cl).setIfInBounds 0 (.int .i64 who) = rpZ nx who p g cl := by simp [rpZ, rpCells]
end Go.Proofs.YthjfbknmdligeaaGreat

namespace Go.Proofs.YthjfbknmdligeaaGreat
open Go Go.RowKit
set_option linter.unusedVariables false
set_option maxRecDepth 100000
set_option linter.unusedSimpArgs false

end Go.Proofs.YthjfbknmdligeaaGreat

namespace Go.Proofs.YthjfbknmdligeaaGreat
open Go Go.RowKit Go.Maps
set_option linter.unusedVariables false
set_option maxRecDepth 100000
set_option linter.unusedSimpArgs false

end Go.Proofs.YthjfbknmdligeaaGreat

namespace Go.Proofs.YthjfbknmdligeaaGreat
open Go Go.RowKit
set_option linter.unusedVariables false
set_option maxRecDepth 100000
set_option linter.unusedSimpArgs false

/-- What it has: the goroutine, whether it is in the hand, the words that were loaded, what is given, how many were loaded. -/
structure RpD where
  g : Int
  has : Bool
  nt : Int
  hd : Int
  tl : Int
  gv : List Int
  ld : Int
inductive RpT where
  | nx (d : RpD)
  | sn (d : RpD)
  | hd (d : RpD)
  | tl (d : RpD)
  | st (d : RpD)
  | ln (d : RpD)
  | gl (d : RpD) (k : Nat)
  | sh (d : RpD)
  | acq (d : RpD) (p : AcqT)
  | que (d : RpD) (q : QpT)
  | rel (d : RpD) (q : QpT) (p : RelT)
  | over (d : RpD)
def RpD.all (d : RpD) : List Int := d.gv ++ [d.g]
def RpD.take1 (d : RpD) (k : Nat) (v : Int) : RpD := { d with gv := d.gv.set k (gw v), ld := ((k + 1 : Nat) : Int) }
def rpPM (who P p : Int) (gl : Int → Int) : PM RpT where
  ax := fun
    | .nx _ => some (axLd (wd 20 P 264 p 3))
    | .sn d => some (axSw (wd 20 P 264 p 3) d.nt (rpw d.g))
    | .hd _ => some (axLd (wd 20 P 264 p 1))
    | .tl _ => some (axLd (wd 20 P 264 p 2))
    | .st d => some (axSt (wd 20 P 264 p (8 + d.tl % 256)) (rpw d.g))
    | .ln d => some (axSt (wd 20 P 264 p 2) ((d.tl + 1) % 4294967296))
    | .gl d k => some (axLd (wd 20 P 264 p (8 + IntKind.u64.wrap (d.hd + k) % 256)))
    | .sh d => some (axSw (wd 20 P 264 p 1) d.hd ((d.hd + 128) % 4294967296))
    | .acq _ q => (acqPM (wd 0 2 3 0 0) (wd 0 2 3 0 1) (wd 0 2 3 0 2) who).ax q
    | .que d q => (qpPM gl d.all).ax q
    | .rel _ _ q => (relPM (wd 0 2 3 0 1) (wd 0 2 3 0 2)).ax q
    | .over _ => none
  nx := fun
    | .nx d, v => .sn { d with nt := v }
    | .sn d, v => if v = 0 then .nx d else if d.nt = 0 then .over { d with has := false } else .hd { d with g := gw d.nt }
    | .hd d, v => .tl { d with hd := v }
    | .tl d, v => if (v - d.hd) % 4294967296 < 256 then .st { d with tl := v } else .gl { d with tl := v, ld := 0 } 0
    | .st d, _ => .ln d
    | .ln d, _ => .over { d with has := false }
    | .gl d k, v => if k + 1 < 128 then .gl (d.take1 k v) (k + 1) else .sh (d.take1 k v)
    | .sh d, v => if v = 0 then .hd d else .acq d .fresh
    | .acq d q, v => ((acqPM (wd 0 2 3 0 0) (wd 0 2 3 0 1) (wd 0 2 3 0 2) who).nx q v).goes (.acq d) (.que d (.ch 0))
    | .que d q, v => if ((qpPM gl d.all).ax ((qpPM gl d.all).nx q v)).isSome = true then .que d ((qpPM gl d.all).nx q v) else .rel d ((qpPM gl d.all).nx q v) .fresh
    | .rel d q r, v => .rel d q ((relPM (wd 0 2 3 0 1) (wd 0 2 3 0 2)).nx r v)
    | t, _ => t
def RpT.d : RpT → RpD
  | .nx d => d
  | .sn d => d
  | .hd d => d
  | .tl d => d
  | .st d => d
  | .ln d => d
  | .gl d _ => d
  | .sh d => d
  | .acq d _ => d
  | .que d _ => d
  | .rel d _ _ => d
  | .over d => d
def RpT.full : RpT → Bool
  | .acq _ _ => true
  | .que _ _ => true
  | .rel _ _ _ => true
  | _ => false
/-- What is in its hand. -/
def RpT.holds : RpT → List Int
  | .acq d _ => if d.has then d.all else []
  | .que d q => if d.has then (if q.lies then [] else d.all) else []
  | .rel d q _ => if d.has then (if q.lies then [] else d.all) else []
  | t => if t.d.has then [t.d.g] else []
def rpAt (who p : Int) (cl : Nat) (t : RpT) (es : List Nat) (nx : Option Addr) : Array Value := rpCells who nx cl p t.d.g t.d.has t.d.nt t.d.hd t.d.tl (rpRest t.d.gv t.d.ld (if t.full = true then some ⟨es.getD 0 0, 0, none⟩ else none))
def rU64 (v : Int) : Prop := 0 ≤ v ∧ v ≤ 18446744073709551615
structure RpD.Ok (d : RpD) : Prop where
  len : d.gv.length = 128
  nt : rU64 d.nt
  hd : rU64 d.hd
  tl : rU64 d.tl
theorem rpw_bd (g : Int) : 0 ≤ rpw g ∧ rpw g ≤ 18446744073709551615 := by
  unfold rpw
  generalize IntKind.u64.wrap g + 1 = z
  simp [IntKind.wrap, IntKind.bits, IntKind.signed]
  omega
theorem rp_acq_live {tk sv ow who v : Int} (p : AcqT) (h : ((acqPM tk sv ow who).ax ((acqPM tk sv ow who).nx p v)).isSome = true) : ((acqPM tk sv ow who).nx p v).Live := by
  cases hp : (acqPM tk sv ow who).nx p v with
  | over t => rw [hp] at h; cases h
  | fresh => trivial
  | wait t => trivial
  | has t => trivial
theorem rp_acq_goes {σ : Type} {f : AcqT → σ} {e : σ} : ∀ (p : AcqT), p.Live → p.goes f e = f p
  | .fresh, _ => rfl
  | .wait _, _ => rfl
  | .has _, _ => rfl
theorem rp_acq_over {σ : Type} {f : AcqT → σ} {e : σ} {tk sv ow who : Int} : ∀ (p : AcqT), (acqPM tk sv ow who).ax p = none → p.goes f e = e
  | .fresh, h => by cases h
  | .wait _, h => by cases h
  | .has _, h => by cases h
  | .over _, _ => rfl
theorem rp_acq_some {tk sv ow who : Int} : ∀ (p : AcqT), p.Live → ((acqPM tk sv ow who).ax p).isSome = true
  | .fresh, _ => rfl
  | .wait _, _ => rfl
  | .has _, _ => rfl

end Go.Proofs.YthjfbknmdligeaaGreat

namespace Go.Proofs.YthjfbknmdligeaaGreat
open Go Go.RowKit
set_option linter.unusedVariables false
set_option maxRecDepth 100000
set_option linter.unusedSimpArgs false

/-- A config as a value, and in a box of its own. -/
def cfgV (P T G : Int) : Value := .agg #[.int .i64 P, .int .i64 T, .int .i64 G]
def cfgA (P T G : Int) : Array Value := #[.int .i64 P, .int .i64 T, .int .i64 G]
end Go.Proofs.YthjfbknmdligeaaGreat

namespace Go.Proofs.YthjfbknmdligeaaGreat
open Go Go.RowKit
set_option linter.unusedVariables false
set_option maxRecDepth 100000
set_option linter.unusedSimpArgs false

structure QpIn {σ : Type} (M : PM σ) (gl : Int → Int) (l : List Int) (emb : QpT → σ) : Prop where
  ch : ∀ k, M.ax (emb (.ch k)) = some (axSt (gl (l.getD k 0)) (if k + 1 < l.length then qwd (l.getD (k + 1) 0) else 0))
  ld : M.ax (emb .ld) = some (axLd 7)
  pt : ∀ t, M.ax (emb (.pt t)) = some (axSt (if t = 0 then 6 else gl (gw t)) (qwd (l.getD 0 0)))
  tr : M.ax (emb .tr) = some (axSt 7 (qwd (l.getD (l.length - 1) 0)))
  ct : M.ax (emb .ct) = some (axAd 8 l.length)
  n1 : ∀ k v, M.nx (emb (.ch k)) v = if k + 1 < l.length then emb (.ch (k + 1)) else emb .ld
  n2 : ∀ v, M.nx (emb .ld) v = emb (.pt v)
  n3 : ∀ t v, M.nx (emb (.pt t)) v = emb .tr
  n4 : ∀ v, M.nx (emb .tr) v = emb .ct
  n5 : ∀ v, M.nx (emb .ct) v = emb .over
def QpT.live : QpT → Bool
  | .over => false
  | .done0 => false
  | _ => true
theorem qp_in (gl : Int → Int) (l : List Int) : QpIn (qpPM gl l) gl l (fun p => p) where
  ch := fun _ => rfl
  ld := rfl
  pt := fun _ => rfl
  tr := rfl
  ct := rfl
  n1 := fun _ _ => rfl
  n2 := fun _ => rfl
  n3 := fun _ _ => rfl
  n4 := fun _ => rfl
  n5 := fun _ => rfl
/-- Where a put stopped, and what it holds there. -/
def QpQ {σ : Type} (Q : σ → Prop) (emb : QpT → σ) (l held : List Int) (q : σ) : Prop := (Q q ∧ held = l) ∨ ∃ p', QpT.live p' = true ∧ q = emb p' ∧ held = if p'.lies = true then [] else l
def QpE {σ : Type} (Q : σ → Prop) (emb : QpT → σ) (q : σ) : Prop := Q q ∨ ∃ p', QpT.live p' = true ∧ q = emb p' ∧ p'.lies = false
theorem QpE.q {σ : Type} {Q : σ → Prop} {emb : QpT → σ} {l : List Int} {q : σ} (h : QpE Q emb q) : QpQ Q emb l l q := by
  rcases h with h | ⟨p', h1, h2, h3⟩
  · exact .inl ⟨h, rfl⟩
  · exact .inr ⟨p', h1, h2, by rw [h3]; rfl⟩
def QpGot {σ : Type} (M : PM σ) (emb : QpT → σ) (l : List Int) (w : World) (x : Nat) (A : Option Addr) (cap m : Nat) (g : Nat → Int) (s0 : σ) (Q : σ → Prop) (j : Nat) (e : Ending) (w' : World) : Prop := ∃ (v : Value) (held : List Int) (j' : Nat) (p : QpT), e = .returned v ∧ SeesL w' v held ∧ RunOn w' x A cap m g (M.rj s0 g m j') ∧ Syn M s0 g m j' (emb p) (QpQ Q emb l held) ∧ p.live = false ∧ (j' ≤ m → held = if p.lies = true then [] else l) ∧ But [x] w w' ∧ j ≤ j'
theorem SeesL.but {w w' : World} {A : Option Addr} {n cap x : Nat} {l : List Int} (h : SeesL w (.slice A n cap) l) (hB : But [x] w w') (hx : ∀ b off : Nat, A = some ⟨b, off, none⟩ → b ≠ x) : SeesL w' (.slice A n cap) l := by
  obtain ⟨A', cap', e, h1, h2⟩ := h
  cases e
  refine ⟨_, _, rfl, h1, fun hn => ?_⟩
  obtain ⟨b, off, e1, h3, h4⟩ := h2 hn
  refine ⟨b, off, e1, Nat.lt_of_lt_of_le h3 hB.size, fun j hj => ?_⟩
  rw [← h4 j hj]
  have hk := hB.block b h3 (by simpa using hx b off e1)
  simp only [World.cell?]
  rw [hk]

/-- The same, and where what is answered lies. -/
def QpGotB (B : Option Addr) {σ : Type} (M : PM σ) (emb : QpT → σ) (l : List Int) (w : World) (x : Nat) (A : Option Addr) (cap m : Nat) (g : Nat → Int) (s0 : σ) (Q : σ → Prop) (j : Nat) (e : Ending) (w' : World) : Prop := ∃ (v : Value) (held : List Int) (j' : Nat) (p : QpT), e = .returned v ∧ SeesL w' v held ∧ RunOn w' x A cap m g (M.rj s0 g m j') ∧ Syn M s0 g m j' (emb p) (QpQ Q emb l held) ∧ p.live = false ∧ (j' ≤ m → held = if p.lies = true then [] else l) ∧ But [x] w w' ∧ j ≤ j' ∧ ∀ A1 (n1 c1 : Nat), v = .slice A1 n1 c1 → 0 < n1 → A1 = B
end Go.Proofs.YthjfbknmdligeaaGreat

namespace Go.Proofs.YthjfbknmdligeaaGreat
open Go Go.RowKit
set_option linter.unusedVariables false
set_option maxRecDepth 100000
set_option linter.unusedSimpArgs false

theorem qp_axok (gl : Int → Int) (l : List Int) (hn : l.length ≤ 1000000) : ∀ t a, (qpPM gl l).ax t = some a → a.Ok := by
  intro t a h
  cases t with
  | ch k =>
    cases h
    have := qwd_bd (l.getD (k + 1) 0)
    refine axSt_ok _ _ ?_
    split <;> omega
  | ld => cases h; exact axLd_ok _
  | pt t => cases h; exact axSt_ok _ _ (qwd_bd _)
  | tr => cases h; exact axSt_ok _ _ (qwd_bd _)
  | ct => cases h; exact axAd_ok _ _ (by omega)
  | over => cases h
  | done0 => cases h
def knownL (G : Int) (l : List Int) : Bool := l.all (fun y => decide (0 ≤ y ∧ y < G))
end Go.Proofs.YthjfbknmdligeaaGreat

namespace Go.Proofs.YthjfbknmdligeaaGreat
open Go Go.RowKit
set_option linter.unusedVariables false
set_option maxRecDepth 100000
set_option linter.unusedSimpArgs false

theorem folC_swap {W : World} {x K : Nat} {v : Int} {M : World → Prop} (b : Bool) (hb : decide (v ≠ 0) = b) (h : Calls Tryz.prog K #[.pointer (some ⟨x, 0, none⟩), .bool b] W fun e w' => (∃ u, e = .returned u) ∧ M w') : FolC W x (.swap K) v M := by
  subst hb; exact h
theorem RpD.all_len' {d : RpD} (h : d.gv.length = 128) : d.all.length = 129 := by
  unfold RpD.all
  rw [List.length_append, h]; rfl
theorem RpD.all_len {d : RpD} (h : d.Ok) : d.all.length = 129 := RpD.all_len' h.len
theorem RpD.take1_ok {d : RpD} (h : d.Ok) (k : Nat) (v : Int) : (d.take1 k v).Ok := ⟨by show (d.gv.set k _).length = 128; rw [List.length_set]; exact h.len, h.nt, h.hd, h.tl⟩
end Go.Proofs.YthjfbknmdligeaaGreat

namespace Go.Proofs.YthjfbknmdligeaaGreat
open Go Go.RowKit
set_option linter.unusedVariables false
set_option maxRecDepth 100000
set_option linter.unusedSimpArgs false

/-- How many it moved. -/
def RpT.moved (t : RpT) : Int := if t.full = true then 129 else 0
/-- Its beginning. -/
def rpD0 (g : Int) : RpD := ⟨g, true, 0, 0, 0, List.replicate 128 0, 0⟩
def rpStart (g : Int) (nxt : Bool) : RpT := if nxt = true then .nx (rpD0 g) else .hd (rpD0 g)
theorem rpD0_ok (g : Int) : (rpD0 g).Ok := ⟨by simp [rpD0], by constructor <;> simp [rpD0], by constructor <;> simp [rpD0], by constructor <;> simp [rpD0]⟩
end Go.Proofs.YthjfbknmdligeaaGreat

namespace Go.Proofs.YthjfbknmdligeaaGreat
open Go Go.RowKit
set_option linter.unusedVariables false
set_option maxRecDepth 100000
set_option linter.unusedSimpArgs false

def rpQue (d : RpD) : QpT → RpT
  | .over => .rel d .over .fresh
  | .done0 => .rel d .done0 .fresh
  | q => .que d q
def rpAcq (d : RpD) (p : AcqT) : RpT := p.goes (.acq d) (.que d (.ch 0))
theorem rp_acqIn (who P p : Int) (gl : Int → Int) (d : RpD) : AcqIn (rpPM who P p gl) 0 who (rpAcq d) where
  f := rfl
  w := fun t => rfl
  h := fun t => rfl
  nf := fun v => rfl
  nw := fun t v => by
    show ((if v = t then AcqT.has t else AcqT.wait t)).goes (RpT.acq d) (.que d (.ch 0)) = _
    split <;> rfl
  nh := fun t v => rfl
theorem rp_relIn (who P p : Int) (gl : Int → Int) (d : RpD) (q : QpT) : RelIn (rpPM who P p gl) 0 (RpT.rel d q) where
  f := rfl
  p := rfl
  nf := fun v => rfl
  np := fun v => rfl
theorem rp_qpIn (who P p : Int) (gl : Int → Int) (d : RpD) : QpIn (rpPM who P p gl) gl d.all (rpQue d) where
  ch := fun _ => rfl
  ld := rfl
  pt := fun _ => rfl
  tr := rfl
  ct := rfl
  n1 := fun k v => by
    show (if ((qpPM gl d.all).ax (if k + 1 < d.all.length then QpT.ch (k + 1) else .ld)).isSome = true then RpT.que d (if k + 1 < d.all.length then QpT.ch (k + 1) else .ld) else .rel d (if k + 1 < d.all.length then QpT.ch (k + 1) else .ld) .fresh) = _
    split <;> (split <;> first | rfl | (rename_i h _; exact absurd rfl h) | (rename_i h; exact absurd rfl h))
  n2 := fun _ => rfl
  n3 := fun _ _ => rfl
  n4 := fun _ => rfl
  n5 := fun _ => rfl
/-- Where a slow put stopped, and what it holds there. -/
def RpQ (Q : RpT → Prop) (d : RpD) (held : List Int) (r : RpT) : Prop := (Q r ∧ held = d.all) ∨ (r.d = d ∧ r.full = true ∧ (d.has = true → held = r.holds))
def RpGot (M : PM RpT) (d : RpD) (w : World) (x : Nat) (A : Option Addr) (cap m : Nat) (g : Nat → Int) (s0 : RpT) (Q : RpT → Prop) (j : Nat) (e : Ending) (w' : World) : Prop := ∃ (v : Value) (held : List Int) (j' : Nat) (q : QpT), e = .returned (.agg #[v, .int .i64 129]) ∧ SeesL w' v held ∧ RunOn w' x A cap m g (M.rj s0 g m j') ∧ Syn M s0 g m j' (.rel d q .over) (RpQ Q d held) ∧ (j' ≤ m → held = if q.lies = true then [] else d.all) ∧ But [x] w w' ∧ j ≤ j'
theorem rpQ_acq {Q : RpT → Prop} {d : RpD} (p : AcqT) : RpQ Q d d.all (.acq d p) := .inr ⟨rfl, rfl, fun h => by show _ = if d.has = true then _ else _; rw [if_pos h]⟩
theorem rpQ_que {Q : RpT → Prop} {d : RpD} {held : List Int} (q : QpT) (h : held = if q.lies = true then [] else d.all) : RpQ Q d held (.que d q) := .inr ⟨rfl, rfl, fun h2 => by show _ = if d.has = true then _ else _; rw [if_pos h2]; exact h⟩
theorem rpQ_rel {Q : RpT → Prop} {d : RpD} {held : List Int} (q : QpT) (p : RelT) (h : held = if q.lies = true then [] else d.all) : RpQ Q d held (.rel d q p) := .inr ⟨rfl, rfl, fun h2 => by show _ = if d.has = true then _ else _; rw [if_pos h2]; exact h⟩
theorem rpQue_live {d : RpD} : ∀ {q : QpT}, q.live = true → rpQue d q = .que d q
  | .ch _, _ => rfl
  | .ld, _ => rfl
  | .pt _, _ => rfl
  | .tr, _ => rfl
  | .ct, _ => rfl
theorem rpQue_over {d : RpD} : ∀ {q : QpT}, q.live = false → rpQue d q = .rel d q .fresh
  | .over, _ => rfl
  | .done0, _ => rfl
theorem rpQ_qp {Q : RpT → Prop} {d : RpD} {held : List Int} {r : RpT} (h : QpQ (RpQ Q d d.all) (rpQue d) d.all held r) : RpQ Q d held r := by
  rcases h with ⟨h1, h2⟩ | ⟨p', h1, h2, h3⟩
  · rw [h2]; exact h1
  · rw [h2, rpQue_live h1]; exact rpQ_que p' h3
theorem qpQ_held {Q : RpT → Prop} {d : RpD} {held : List Int} {r : RpT} (h : QpQ (RpQ Q d d.all) (rpQue d) d.all held r) : held = d.all ∨ held = [] := by
  rcases h with ⟨h1, h2⟩ | ⟨p', h1, h2, h3⟩
  · exact .inl h2
  · rw [h3]; split <;> simp

theorem sees_far {w : World} {A : Option Addr} {cap n : Nat} {l : List Int} (h : SeesL w (.slice A n cap) l) (hl : 0 < l.length → l.length = 129) {k : Nat} {cs : Array Value} {T : TypeId} (hB : Blk w k cs T) (hc : cs.size ≤ 100) (h0 : 0 < l.length) : ∀ b off : Nat, A = some ⟨b, off, none⟩ → b ≠ k := by
  rintro b off rfl rfl
  obtain ⟨A', c', e', -, h2⟩ := h
  injection e' with ea eb ec
  subst ea
  obtain ⟨b', off', e3, -, h4⟩ := h2 h0
  cases e3
  have h6 := h4 128 (by have := hl h0; omega)
  simp only [World.cell?, hB.heap] at h6
  rw [Array.getElem?_eq_none (by omega)] at h6
  cases h6
theorem SeesL.but2 {w w' : World} {A : Option Addr} {n cap k : Nat} {l : List Int} (h : SeesL w (.slice A n cap) l) (hB : But [k] w w') (hx : 0 < l.length → ∀ b off : Nat, A = some ⟨b, off, none⟩ → b ≠ k) : SeesL w' (.slice A n cap) l := by
  by_cases h0 : 0 < l.length
  · exact h.but hB (hx h0)
  · obtain ⟨A', c', e', h1, h2⟩ := h
    exact ⟨A', c', e', h1, fun h => absurd h h0⟩
theorem SeesL.but1 {w w' : World} {A : Option Addr} {n cap k : Nat} {l : List Int} (h : SeesL w (.slice A n cap) l) (hB : But [k] w w') (hx : ∀ b off : Nat, A = some ⟨b, off, none⟩ → b ≠ k) : SeesL w' (.slice A n cap) l := h.but hB hx
theorem But.low {w w1 w2 : World} {x k : Nat} (h : But [x] w w1) (h2 : But [k] w1 w2) (hk : w.heap.size ≤ k) : But [x] w w2 :=
  ⟨h2.os.trans h.os, h2.tape.trans h.tape, h2.output.trans h.output, Nat.le_trans h.size h2.size, fun i hi hc => (h2.block i (Nat.lt_of_lt_of_le hi h.size) (by simp; omega)).trans (h.block i hi hc)⟩
end Go.Proofs.YthjfbknmdligeaaGreat

namespace Go.Proofs.YthjfbknmdligeaaGreat
open Go Go.RowKit
set_option linter.unusedVariables false
set_option maxRecDepth 100000
set_option linter.unusedSimpArgs false

/-- What was loaded is told back as it was. -/
theorem rpw_gw (v : Int) (hv : 0 ≤ v ∧ v ≤ 18446744073709551615) : rpw (gw v) = v := by
  rw [← gw_eq v hv]
  unfold rpw
  simp [IntKind.wrap, IntKind.bits, IntKind.signed, wrap64]
  repeat' split
  all_goals omega
theorem rpQue_start (d : RpD) : rpQue d (qpStart d.all) = .que d (.ch 0) := by
  have e : qpStart d.all = .ch 0 := if_neg (by simp [RpD.all])
  rw [e]; rfl
end Go.Proofs.YthjfbknmdligeaaGreat

namespace Go.Proofs.YthjfbknmdligeaaGreat
open Go Go.RowKit
set_option linter.unusedVariables false
set_option maxRecDepth 100000
set_option linter.unusedSimpArgs false
set_option linter.unusedSectionVars false

end Go.Proofs.YthjfbknmdligeaaGreat

namespace Go.Proofs.YthjfbknmdligeaaGreat
open Go Go.RowKit
set_option linter.unusedVariables false
set_option maxRecDepth 100000
set_option linter.unusedSimpArgs false
set_option linter.unusedSectionVars false

/-- Handing a processor over, as plain data. -/
inductive HvT where
  | lk (l : LoT)
  | gs
  | sp
  | ip
  | sw
  | nd
  | acqP (a : AcqT)
  | acqS (a : AcqT)
  | acqL (a : AcqT)
  | gs2
  | ne
  | ad
  | nd2
  | runP (s : WsT)
  | ovP (s : WsT)
  | runS (s : WsT)
  | ovS (s : WsT)
  | put (q : IpT)
  | rel (q : IpT) (r : RelT)
  | ovR (q : IpT)
/-- The processor in its hand, and whether it counts by itself. -/
def HvT.holds (p : Int) : HvT → Int
  | .runP s => s.holds p
  | .ovP s => s.holds p
  | .runS s => s.holds p
  | .ovS s => s.holds p
  | .put q => q.obs p
  | .rel q _ => q.obs p
  | .ovR q => q.obs p
  | _ => p
def HvT.counts : HvT → Bool
  | .nd => true
  | .acqS _ => true
  | .nd2 => true
  | _ => false
def HvT.hasS : HvT → Bool
  | .runP _ => true
  | .ovP _ => true
  | .runS _ => true
  | .ovS _ => true
  | _ => false
def HvT.hasI : HvT → Bool
  | .put _ => true
  | .rel _ _ => true
  | .ovR _ => true
  | _ => false
def hvPM (P T who p : Int) : PM HvT where
  ax := fun
    | .lk l => (loPM P p).ax l
    | .gs => some (axLd 8)
    | .sp => some (axLd 13)
    | .ip => some (axLd 10)
    | .sw => some (axSw 13 0 1)
    | .nd => some (axSt 14 0)
    | .acqP a => (acqPM (wd 0 2 3 0 0) (wd 0 2 3 0 1) (wd 0 2 3 0 2) who).ax a
    | .acqS a => (acqPM (wd 0 2 3 0 0) (wd 0 2 3 0 1) (wd 0 2 3 0 2) who).ax a
    | .acqL a => (acqPM (wd 0 2 3 0 0) (wd 0 2 3 0 1) (wd 0 2 3 0 2) who).ax a
    | .gs2 => some (axLd 8)
    | .ne => some (axLd 14)
    | .ad => some (axAd 13 1)
    | .nd2 => some (axSt 14 0)
    | .runP s => (wsPM P T p false true).ax s
    | .ovP _ => none
    | .runS s => (wsPM P T p true true).ax s
    | .ovS _ => none
    | .put q => (ipPM P p).ax q
    | .rel _ r => (relPM (wd 0 2 3 0 1) (wd 0 2 3 0 2)).ax r
    | .ovR _ => none
  nx := fun
    | .lk l, v => if ((loPM P p).ax ((loPM P p).nx l v)).isSome = true then .lk ((loPM P p).nx l v) else if ((loPM P p).nx l v).e = true then .gs else .acqP .fresh
    | .gs, v => if v = 0 then .sp else .acqP .fresh
    | .sp, v => if v = 0 then .ip else .acqL .fresh
    | .ip, v => if v = 0 then .sw else .acqL .fresh
    | .sw, v => if v = 0 then .acqL .fresh else .nd
    | .nd, _ => .acqS .fresh
    | .acqP a, v => if ((acqPM (wd 0 2 3 0 0) (wd 0 2 3 0 1) (wd 0 2 3 0 2) who).ax ((acqPM (wd 0 2 3 0 0) (wd 0 2 3 0 1) (wd 0 2 3 0 2) who).nx a v)).isSome = true then .acqP ((acqPM (wd 0 2 3 0 0) (wd 0 2 3 0 1) (wd 0 2 3 0 2) who).nx a v) else .runP (.get .ld)
    | .acqS a, v => if ((acqPM (wd 0 2 3 0 0) (wd 0 2 3 0 1) (wd 0 2 3 0 2) who).ax ((acqPM (wd 0 2 3 0 0) (wd 0 2 3 0 1) (wd 0 2 3 0 2) who).nx a v)).isSome = true then .acqS ((acqPM (wd 0 2 3 0 0) (wd 0 2 3 0 1) (wd 0 2 3 0 2) who).nx a v) else .runS (.get .ld)
    | .acqL a, v => if ((acqPM (wd 0 2 3 0 0) (wd 0 2 3 0 1) (wd 0 2 3 0 2) who).ax ((acqPM (wd 0 2 3 0 0) (wd 0 2 3 0 1) (wd 0 2 3 0 2) who).nx a v)).isSome = true then .acqL ((acqPM (wd 0 2 3 0 0) (wd 0 2 3 0 1) (wd 0 2 3 0 2) who).nx a v) else .gs2
    | .gs2, v => if v = 0 then .ne else .runP (.get .ld)
    | .ne, v => if v = 0 then .put .m0 else .ad
    | .ad, _ => .nd2
    | .nd2, _ => .runS (.get .ld)
    | .runP s, v => if ((wsPM P T p false true).ax ((wsPM P T p false true).nx s v)).isSome = true then .runP ((wsPM P T p false true).nx s v) else .ovP ((wsPM P T p false true).nx s v)
    | .runS s, v => if ((wsPM P T p true true).ax ((wsPM P T p true true).nx s v)).isSome = true then .runS ((wsPM P T p true true).nx s v) else .ovS ((wsPM P T p true true).nx s v)
    | .put q, v => if ((ipPM P p).ax ((ipPM P p).nx q v)).isSome = true then .put ((ipPM P p).nx q v) else .rel ((ipPM P p).nx q v) .fresh
    | .rel q r, v => if ((relPM (wd 0 2 3 0 1) (wd 0 2 3 0 2)).ax ((relPM (wd 0 2 3 0 1) (wd 0 2 3 0 2)).nx r v)).isSome = true then .rel q ((relPM (wd 0 2 3 0 1) (wd 0 2 3 0 2)).nx r v) else .ovR q
    | s, _ => s
def hvExt (who P T G p : Int) (cl : Nat) (s : HvT) (es : List Nat) (w : World) (Le : List Nat) : Prop := match s with
  | .ovP s => (wsCp who P T G p false true cl).I w (es.getD 1 0) s Le
  | .ovS s => (wsCp who P T G p true true cl).I w (es.getD 1 0) s Le
  | .rel q _ => (ipFl who p cl).I (ipPM P p) w (es.getD 1 0) q Le
  | .ovR q => (ipFl who p cl).I (ipPM P p) w (es.getD 1 0) q Le
  | _ => Le = []
def hvAt (who p : Int) (cl : Nat) (s : HvT) (es : List Nat) (nx : Option Addr) : Array Value := hvCells who nx cl p (some ⟨es.getD 0 0, 0, none⟩) (if s.hasS = true then some ⟨es.getD 1 0, 0, none⟩ else none) (if s.hasI = true then some ⟨es.getD 1 0, 0, none⟩ else none) s.counts
def hvCp (who P T G p : Int) (cl : Nat) : Cp HvT where
  T := 143
  cells := hvAt who p cl
  kind := fun
    | .lk l => .run (hvLk who P T G p cl) l (.fn 154)
    | .gs => .acc (axLd 8) (.told 158)
    | .sp => .acc (axLd 13) (.told 160)
    | .ip => .acc (axLd 10) (.told 163)
    | .sw => .acc (axSw 13 0 1) (.swap 168)
    | .nd => .acc (axSt 14 0) (.untold 179)
    | .acqP a => .run (acqSub (wd 0 2 3 0 0) (wd 0 2 3 0 1) (wd 0 2 3 0 2) who) a (.fn 156)
    | .acqS a => .run (acqSub (wd 0 2 3 0 0) (wd 0 2 3 0 1) (wd 0 2 3 0 2) who) a (.fn 190)
    | .acqL a => .run (acqSub (wd 0 2 3 0 0) (wd 0 2 3 0 1) (wd 0 2 3 0 2) who) a (.fn 167)
    | .gs2 => .acc (axLd 8) (.told 177)
    | .ne => .acc (axLd 14) (.told 189)
    | .ad => .acc (axAd 13 1) (.told 199)
    | .nd2 => .acc (axSt 14 0) (.untold 190)
    | .runP s => .run (hvSt who P T G p false cl) s .nil
    | .ovP _ => .over
    | .runS s => .run (hvSt who P T G p true cl) s .nil
    | .ovS _ => .over
    | .put q => .run (hvIp who P T G p cl) q (.fn 206)
    | .rel _ r => .run (relSub (wd 0 2 3 0 1) (wd 0 2 3 0 2) who) r .nil
    | .ovR _ => .over
  ok := fun
    | .lk l => ((loPM P p).ax l).isSome = true
    | .acqP a => ((acqPM (wd 0 2 3 0 0) (wd 0 2 3 0 1) (wd 0 2 3 0 2) who).ax a).isSome = true
    | .acqS a => ((acqPM (wd 0 2 3 0 0) (wd 0 2 3 0 1) (wd 0 2 3 0 2) who).ax a).isSome = true
    | .acqL a => ((acqPM (wd 0 2 3 0 0) (wd 0 2 3 0 1) (wd 0 2 3 0 2) who).ax a).isSome = true
    | .runP s => ((wsPM P T p false true).ax s).isSome = true ∧ (wsCp who P T G p false true cl).ok s
    | .runS s => ((wsPM P T p true true).ax s).isSome = true ∧ (wsCp who P T G p true true cl).ok s
    | .put q => ((ipPM P p).ax q).isSome = true ∧ (ipFl who p cl).ok q
    | .rel _ r => ((relPM (wd 0 2 3 0 1) (wd 0 2 3 0 2)).ax r).isSome = true
    | _ => True
  ext := hvExt who P T G p cl
  tie := fun s es y => match s with
    | .lk _ => es.getD 0 0 = y
    | .runP _ => es.getD 1 0 = y
    | .runS _ => es.getD 1 0 = y
    | .put _ => es.getD 1 0 = y
    | _ => True
theorem ent_hv_judge : Ent 154 := fun args w => by kernel_rfl
theorem ent_hv_seek : Ent 158 := fun args w => by kernel_rfl
theorem ent_hv_consider : Ent 160 := fun args w => by kernel_rfl
theorem ent_hv_count : Ent 163 := fun args w => by kernel_rfl
theorem ent_hv_counted : Ent 168 := fun args w => by kernel_rfl
theorem ent_hv_acquireForSpinning : Ent 179 := fun args w => by kernel_rfl
theorem ent_hv_startPlain : Ent 156 := fun args w => by kernel_rfl
theorem ent_hv_startSpinning : Ent 190 := fun args w => by kernel_rfl
theorem ent_hv_loadAgain : Ent 167 := fun args w => by kernel_rfl
theorem ent_hv_judgeAgain : Ent 177 := fun args w => by kernel_rfl
theorem ent_hv_serve : Ent 189 := fun args w => by kernel_rfl
theorem ent_hv_served : Ent 199 := fun args w => by kernel_rfl
theorem ent_hv_release : Ent 206 := fun args w => by kernel_rfl
section
variable {who P T G p : Int} {cl : Nat}
theorem hv_on {s : HvT} {v : Int} {S : Sub} {q : S.τ} {af : After} (hp : 0 ≤ P ∧ P ≤ 64) (hT : 0 ≤ T ∧ T ≤ 65536) (hv : 0 ≤ v ∧ v ≤ 18446744073709551615) (hok : (hvCp who P T G p cl).ok s) (hk : (hvCp who P T G p cl).kind s = .run S q af) (hs : (S.M.ax (S.M.nx q v)).isSome = true) :
    (hvCp who P T G p cl).ok ((hvPM P T who p).nx s v) ∧ (hvCp who P T G p cl).kind ((hvPM P T who p).nx s v) = .run S (S.M.nx q v) af ∧ (∀ es, (hvCp who P T G p cl).cells ((hvPM P T who p).nx s v) es = (hvCp who P T G p cl).cells s es) ∧ (∀ es w Le, (hvCp who P T G p cl).ext s es w Le → (hvCp who P T G p cl).ext ((hvPM P T who p).nx s v) es w Le) ∧ (∀ es y, (hvCp who P T G p cl).tie s es y → (hvCp who P T G p cl).tie ((hvPM P T who p).nx s v) es y) := by
  cases s with
  | lk l =>
    cases hk
    have e : (hvPM P T who p).nx (.lk l) v = .lk ((loPM P p).nx l v) := if_pos hs
    rw [e]
    exact ⟨hs, rfl, fun _ => rfl, fun _ _ _ h => h, fun _ _ h => h⟩
  | acqP a =>
    cases hk
    have e : (hvPM P T who p).nx (.acqP a) v = .acqP ((acqPM (wd 0 2 3 0 0) (wd 0 2 3 0 1) (wd 0 2 3 0 2) who).nx a v) := if_pos hs
    rw [e]
    exact ⟨hs, rfl, fun _ => rfl, fun _ _ _ h => h, fun _ _ h => h⟩
  | acqS a =>
    cases hk
    have e : (hvPM P T who p).nx (.acqS a) v = .acqS ((acqPM (wd 0 2 3 0 0) (wd 0 2 3 0 1) (wd 0 2 3 0 2) who).nx a v) := if_pos hs
    rw [e]
    exact ⟨hs, rfl, fun _ => rfl, fun _ _ _ h => h, fun _ _ h => h⟩
  | acqL a =>
    cases hk
    have e : (hvPM P T who p).nx (.acqL a) v = .acqL ((acqPM (wd 0 2 3 0 0) (wd 0 2 3 0 1) (wd 0 2 3 0 2) who).nx a v) := if_pos hs
    rw [e]
    exact ⟨hs, rfl, fun _ => rfl, fun _ _ _ h => h, fun _ _ h => h⟩
  | runP s =>
    cases hk
    have e : (hvPM P T who p).nx (.runP s) v = .runP ((wsPM P T p false true).nx s v) := if_pos hs
    rw [e]
    obtain ⟨a, ha⟩ := Option.isSome_iff_exists.1 hok.1
    exact ⟨⟨hs, ws_ok_next hp hT hok.2 ha hv⟩, rfl, fun _ => rfl, fun _ _ _ h => h, fun _ _ h => h⟩
  | runS s =>
    cases hk
    have e : (hvPM P T who p).nx (.runS s) v = .runS ((wsPM P T p true true).nx s v) := if_pos hs
    rw [e]
    obtain ⟨a, ha⟩ := Option.isSome_iff_exists.1 hok.1
    exact ⟨⟨hs, ws_ok_next hp hT hok.2 ha hv⟩, rfl, fun _ => rfl, fun _ _ _ h => h, fun _ _ h => h⟩
  | put q =>
    cases hk
    have e : (hvPM P T who p).nx (.put q) v = .put ((ipPM P p).nx q v) := if_pos hs
    rw [e]
    obtain ⟨a, ha⟩ := Option.isSome_iff_exists.1 hok.1
    exact ⟨⟨hs, (ip_laws who P T G p cl hp hT).ok q a v hok.2 ha hv⟩, rfl, fun _ => rfl, fun _ _ _ h => h, fun _ _ h => h⟩
  | rel q r =>
    cases hk
    have e : (hvPM P T who p).nx (.rel q r) v = .rel q ((relPM (wd 0 2 3 0 1) (wd 0 2 3 0 2)).nx r v) := if_pos hs
    rw [e]
    exact ⟨hs, rfl, fun _ => rfl, fun _ _ _ h => h, fun _ _ h => h⟩
  | gs => cases hk
  | sp => cases hk
  | ip => cases hk
  | sw => cases hk
  | nd => cases hk
  | gs2 => cases hk
  | ne => cases hk
  | ad => cases hk
  | nd2 => cases hk
  | ovP _ => cases hk
  | ovS _ => cases hk
  | ovR _ => cases hk
set_option maxHeartbeats 8000000 in
theorem hv_laws (hw : 0 ≤ who ∧ who ≤ 1000000) (hp : 0 ≤ P ∧ P ≤ 64) (hT : 0 ≤ T ∧ T ≤ 65536) :
    (hvCp who P T G p cl).Laws (hvPM P T who p) (Rd.lay cl P T G) who where
  c0 := fun s es nx => rfl
  c1 := fun s es nx => rfl
  set := fun s es nx nx' => rfl
  k0 := fun s hok hk => by
    cases s <;> first | rfl | cases hk
  k1 := fun s a f hok hk => by
    cases s with
    | gs => cases hk; exact ⟨rfl, axLd_ok _, ent_hv_seek⟩
    | sp => cases hk; exact ⟨rfl, axLd_ok _, ent_hv_consider⟩
    | ip => cases hk; exact ⟨rfl, axLd_ok _, ent_hv_count⟩
    | sw => cases hk; exact ⟨rfl, axSw_ok _ _ _ (by omega), ent_hv_counted⟩
    | nd => cases hk; exact ⟨rfl, axSt_ok _ _ (by omega), ent_hv_acquireForSpinning⟩
    | gs2 => cases hk; exact ⟨rfl, axLd_ok _, ent_hv_judgeAgain⟩
    | ne => cases hk; exact ⟨rfl, axLd_ok _, ent_hv_serve⟩
    | ad => cases hk; exact ⟨rfl, axAd_ok _ _ (by omega), ent_hv_served⟩
    | nd2 => cases hk; exact ⟨rfl, axSt_ok _ _ (by omega), ent_hv_startSpinning⟩
    | _ => cases hk
  k2 := fun s S q af hok hk => by
    cases s with
    | lk l => cases hk; exact ⟨rfl, hok, ent_hv_judge, fun b => (lo_laws who P T G p cl hp).axok _ b trivial⟩
    | acqP a => cases hk; exact ⟨rfl, hok, ent_hv_startPlain, fun b => (acq_laws _ _ _ who hw).axok _ b trivial⟩
    | acqS a => cases hk; exact ⟨rfl, hok, ent_hv_startSpinning, fun b => (acq_laws _ _ _ who hw).axok _ b trivial⟩
    | acqL a => cases hk; exact ⟨rfl, hok, ent_hv_loadAgain, fun b => (acq_laws _ _ _ who hw).axok _ b trivial⟩
    | runP s => cases hk; exact ⟨rfl, hok.1, trivial, fun a ha => Cp.okax (ws_laws (G := G) (cl := cl) hw hp hT) hok.2 a ha⟩
    | runS s => cases hk; exact ⟨rfl, hok.1, trivial, fun a ha => Cp.okax (ws_laws (G := G) (cl := cl) hw hp hT) hok.2 a ha⟩
    | put q => cases hk; exact ⟨rfl, hok.1, ent_hv_release, fun a ha => (ip_laws who P T G p cl hp hT).axok _ a hok.2 ha⟩
    | rel q r => cases hk; exact ⟨rfl, hok, trivial, fun a => (rel_laws _ _ who).axok _ a trivial⟩
    | _ => cases hk
  sub := fun s S q af hok hk => by
    cases s with
    | lk l => cases hk; exact ⟨Fl.steps (lo_laws who P T G p cl hp) stepby_look, Fl.good (lo_laws who P T G p cl hp), act_look, fun w h => h, fun k h => h⟩
    | acqP a => cases hk; exact acqSub_ok _ _ _ who hw _
    | acqS a => cases hk; exact acqSub_ok _ _ _ who hw _
    | acqL a => cases hk; exact acqSub_ok _ _ _ who hw _
    | runP s => cases hk; exact ⟨Cp.steps (ws_laws hw hp hT) stepby_wst, Cp.good (ws_laws hw hp hT), act_wst, fun w h => h, fun k h => h⟩
    | runS s => cases hk; exact ⟨Cp.steps (ws_laws hw hp hT) stepby_wst, Cp.good (ws_laws hw hp hT), act_wst, fun w h => h, fun k h => h⟩
    | put q => cases hk; exact ⟨Fl.steps (ip_laws who P T G p cl hp hT) stepby_ipp, Fl.good (ip_laws who P T G p cl hp hT), act_ipp, fun w h => h, fun k h => h⟩
    | rel q r => cases hk; exact relSub_ok _ _ who _
    | _ => cases hk
  on := fun s S q af v hok hk hv hs => hv_on hp hT hv hok hk hs
  ns := fun s a f hk => by
    cases s <;> cases hk <;> rfl
  ekeep := fun s es w w' ll Le he hb hk => by
    cases s with
    | ovP s => exact (Cp.good (ws_laws hw hp hT)).keep he hb hk
    | ovS s => exact (Cp.good (ws_laws hw hp hT)).keep he hb hk
    | rel q r => exact (Fl.good (ip_laws who P T G p cl hp hT)).keep he hb hk
    | ovR q => exact (Fl.good (ip_laws who P T G p cl hp hT)).keep he hb hk
    | _ => exact he
  elt := fun s es w Le he k hk => by
    cases s with
    | ovP s => exact (Cp.good (ws_laws hw hp hT)).lt he k hk
    | ovS s => exact (Cp.good (ws_laws hw hp hT)).lt he k hk
    | rel q r => exact (Fl.good (ip_laws who P T G p cl hp hT)).lt he k hk
    | ovR q => exact (Fl.good (ip_laws who P T G p cl hp hT)).lt he k hk
    | _ => rw [show Le = [] from he] at hk; cases hk
  fol := fun W x s a f v es Le hok hk hv hB he hxe hR hxR => by
    have hlt := hB.lt
    have hcx : cl ≠ x := fun e => hxR (by rw [e]; exact List.mem_singleton.2 rfl)
    cases s with
    | gs =>
      cases hk
      obtain rfl : Le = [] := he
      by_cases h0 : v = 0
      · subst h0
        have e : (hvPM P T who p).nx .gs 0 = .sp := rfl
        rw [e]
        refine (hv_seek_no W x cl who p (some ⟨es.getD 0 0, 0, none⟩) none none none false hB ).mono ?_
        rintro e w' ⟨hu, hC⟩
        exact ⟨hu, Cp.lnd_acc (C := (hvCp who P T G p cl)) (s := .sp) (es := es) (Le' := []) hC (fun _ => rfl) trivial rfl hlt rfl (by simp) (fun k hk => by cases hk)⟩
      · have e : (hvPM P T who p).nx .gs v = .acqP .fresh := if_neg h0
        rw [e]
        refine (hv_seek_yes W x cl who p (some ⟨es.getD 0 0, 0, none⟩) none none none false hB v h0 hw).mono ?_
        rintro e w' ⟨hu, hC⟩
        exact ⟨hu, Cp.lnd_run (C := (hvCp who P T G p cl)) (S := (acqSub (wd 0 2 3 0 0) (wd 0 2 3 0 1) (wd 0 2 3 0 2) who)) (af := .fn 156) (pt := AcqT.fresh) (s := .acqP .fresh) (es := es) (Le' := []) hC (fun _ => rfl) rfl rfl (fun _ => trivial) hlt rfl (by simp) (fun k hk => by cases hk)⟩
    | sp =>
      cases hk
      obtain rfl : Le = [] := he
      by_cases h0 : v = 0
      · subst h0
        have e : (hvPM P T who p).nx .sp 0 = .ip := rfl
        rw [e]
        refine (hv_consider_no W x cl who p (some ⟨es.getD 0 0, 0, none⟩) none none none false hB ).mono ?_
        rintro e w' ⟨hu, hC⟩
        exact ⟨hu, Cp.lnd_acc (C := (hvCp who P T G p cl)) (s := .ip) (es := es) (Le' := []) hC (fun _ => rfl) trivial rfl hlt rfl (by simp) (fun k hk => by cases hk)⟩
      · have e : (hvPM P T who p).nx .sp v = .acqL .fresh := if_neg h0
        rw [e]
        refine (hv_consider_yes W x cl who p (some ⟨es.getD 0 0, 0, none⟩) none none none false hB v h0 hw).mono ?_
        rintro e w' ⟨hu, hC⟩
        exact ⟨hu, Cp.lnd_run (C := (hvCp who P T G p cl)) (S := (acqSub (wd 0 2 3 0 0) (wd 0 2 3 0 1) (wd 0 2 3 0 2) who)) (af := .fn 167) (pt := AcqT.fresh) (s := .acqL .fresh) (es := es) (Le' := []) hC (fun _ => rfl) rfl rfl (fun _ => trivial) hlt rfl (by simp) (fun k hk => by cases hk)⟩
    | ip =>
      cases hk
      obtain rfl : Le = [] := he
      by_cases h0 : v = 0
      · subst h0
        have e : (hvPM P T who p).nx .ip 0 = .sw := rfl
        rw [e]
        refine (hv_count_no W x cl who p (some ⟨es.getD 0 0, 0, none⟩) none none none false hB ).mono ?_
        rintro e w' ⟨hu, hC⟩
        exact ⟨hu, Cp.lnd_acc (C := (hvCp who P T G p cl)) (s := .sw) (es := es) (Le' := []) hC (fun _ => rfl) trivial rfl hlt rfl (by simp) (fun k hk => by cases hk)⟩
      · have e : (hvPM P T who p).nx .ip v = .acqL .fresh := if_neg h0
        rw [e]
        refine (hv_count_yes W x cl who p (some ⟨es.getD 0 0, 0, none⟩) none none none false hB v h0 hw).mono ?_
        rintro e w' ⟨hu, hC⟩
        exact ⟨hu, Cp.lnd_run (C := (hvCp who P T G p cl)) (S := (acqSub (wd 0 2 3 0 0) (wd 0 2 3 0 1) (wd 0 2 3 0 2) who)) (af := .fn 167) (pt := AcqT.fresh) (s := .acqL .fresh) (es := es) (Le' := []) hC (fun _ => rfl) rfl rfl (fun _ => trivial) hlt rfl (by simp) (fun k hk => by cases hk)⟩
    | sw =>
      cases hk
      obtain rfl : Le = [] := he
      by_cases h0 : v = 0
      · have e : (hvPM P T who p).nx .sw v = .acqL .fresh := if_pos h0
        rw [e]
        refine folC_sw false (decide_eq_false (fun h => h h0)) ((hv_counted_no W x cl who p (some ⟨es.getD 0 0, 0, none⟩) none none none false hB hw).mono ?_)
        rintro e w' ⟨hu, hC⟩
        exact ⟨hu, Cp.lnd_run (C := (hvCp who P T G p cl)) (S := (acqSub (wd 0 2 3 0 0) (wd 0 2 3 0 1) (wd 0 2 3 0 2) who)) (af := .fn 167) (pt := AcqT.fresh) (s := .acqL .fresh) (es := es) (Le' := []) hC (fun _ => rfl) rfl rfl (fun _ => trivial) hlt rfl (by simp) (fun k hk => by cases hk)⟩
      · have e : (hvPM P T who p).nx .sw v = .nd := if_neg h0
        rw [e]
        refine folC_sw true (decide_eq_true h0) ((hv_counted_yes W x cl who p (some ⟨es.getD 0 0, 0, none⟩) none none none false hB ).mono ?_)
        rintro e w' ⟨hu, hC⟩
        exact ⟨hu, Cp.lnd_acc (C := (hvCp who P T G p cl)) (s := .nd) (es := es) (Le' := []) hC (fun _ => rfl) trivial rfl hlt rfl (by simp) (fun k hk => by cases hk)⟩
    | nd =>
      cases hk
      obtain rfl : Le = [] := he
      have e : (hvPM P T who p).nx .nd v = .acqS .fresh := rfl
      rw [e]
      refine (hv_acquireForSpinning W x cl who p (some ⟨es.getD 0 0, 0, none⟩) none none none true hB hw).mono ?_
      rintro e w' ⟨hu, hC⟩
      exact ⟨hu, Cp.lnd_run (C := (hvCp who P T G p cl)) (S := (acqSub (wd 0 2 3 0 0) (wd 0 2 3 0 1) (wd 0 2 3 0 2) who)) (af := .fn 190) (pt := AcqT.fresh) (s := .acqS .fresh) (es := es) (Le' := []) hC (fun _ => rfl) rfl rfl (fun _ => trivial) hlt rfl (by simp) (fun k hk => by cases hk)⟩
    | gs2 =>
      cases hk
      obtain rfl : Le = [] := he
      by_cases h0 : v = 0
      · subst h0
        have e : (hvPM P T who p).nx .gs2 0 = .ne := rfl
        rw [e]
        refine (hv_judgeAgain_no W x cl who p (some ⟨es.getD 0 0, 0, none⟩) none none none false hB ).mono ?_
        rintro e w' ⟨hu, hC⟩
        exact ⟨hu, Cp.lnd_acc (C := (hvCp who P T G p cl)) (s := .ne) (es := es) (Le' := []) hC (fun _ => rfl) trivial rfl hlt rfl (by simp) (fun k hk => by cases hk)⟩
      · have e : (hvPM P T who p).nx .gs2 v = .runP (.get .ld) := if_neg h0
        rw [e]
        refine (hv_judgeAgain_yes W x cl who p (some ⟨es.getD 0 0, 0, none⟩) none none none false hB v h0 P T G hw hp hT).mono ?_
        rintro e w' ⟨hu, y1, q1, b, L, hC, hI, hL, hq, hg⟩
        exact ⟨hu, Cp.lnd_run0 (C := (hvCp who P T G p cl)) (S := (hvSt who P T G p false cl)) (af := .nil) (pt := WsT.get .ld) (s := .runP (.get .ld)) (es := [es.getD 0 0, y1]) (Le' := []) hC (fun _ => rfl) hI hL hq hg ⟨rfl, rfl, trivial⟩ rfl rfl hlt rfl (by simp) (fun k hk => by cases hk)⟩
    | ne =>
      cases hk
      obtain rfl : Le = [] := he
      by_cases h0 : v = 0
      · subst h0
        have e : (hvPM P T who p).nx .ne 0 = .put .m0 := rfl
        rw [e]
        refine (hv_serve_no W x cl who p (some ⟨es.getD 0 0, 0, none⟩) none none none false hB P T G hp hT).mono ?_
        rintro e w' ⟨hu, y1, q1, b, L, hC, hI, hL, hq, hg⟩
        exact ⟨hu, Cp.lnd_run0 (C := (hvCp who P T G p cl)) (S := (hvIp who P T G p cl)) (af := .fn 206) (pt := IpT.m0) (s := .put .m0) (es := [es.getD 0 0, y1]) (Le' := []) hC (fun _ => rfl) hI hL hq hg ⟨rfl, trivial⟩ rfl rfl hlt rfl (by simp) (fun k hk => by cases hk)⟩
      · have e : (hvPM P T who p).nx .ne v = .ad := if_neg h0
        rw [e]
        refine (hv_serve_yes W x cl who p (some ⟨es.getD 0 0, 0, none⟩) none none none false hB v h0).mono ?_
        rintro e w' ⟨hu, hC⟩
        exact ⟨hu, Cp.lnd_acc (C := (hvCp who P T G p cl)) (s := .ad) (es := es) (Le' := []) hC (fun _ => rfl) trivial rfl hlt rfl (by simp) (fun k hk => by cases hk)⟩
    | ad =>
      cases hk
      obtain rfl : Le = [] := he
      have e : (hvPM P T who p).nx .ad v = .nd2 := rfl
      rw [e]
      refine (hv_served W x cl who p (some ⟨es.getD 0 0, 0, none⟩) none none none false hB v).mono ?_
      rintro e w' ⟨hu, hC⟩
      exact ⟨hu, Cp.lnd_acc (C := (hvCp who P T G p cl)) (s := .nd2) (es := es) (Le' := []) hC (fun _ => rfl) trivial rfl hlt rfl (by simp) (fun k hk => by cases hk)⟩
    | nd2 =>
      cases hk
      obtain rfl : Le = [] := he
      have e : (hvPM P T who p).nx .nd2 v = .runS (.get .ld) := rfl
      rw [e]
      refine (hv_startSpinning W x cl who p (some ⟨es.getD 0 0, 0, none⟩) none none none true hB P T G hw hp hT).mono ?_
      rintro e w' ⟨hu, y1, q1, b, L, hC, hI, hL, hq, hg⟩
      exact ⟨hu, Cp.lnd_run0 (C := (hvCp who P T G p cl)) (S := (hvSt who P T G p true cl)) (af := .nil) (pt := WsT.get .ld) (s := .runS (.get .ld)) (es := [es.getD 0 0, y1]) (Le' := []) hC (fun _ => rfl) hI hL hq hg ⟨rfl, rfl, trivial⟩ rfl rfl hlt rfl (by simp) (fun k hk => by cases hk)⟩
    | _ => cases hk
  aft := fun W x y s S q af v es Le Li hok hk hv hn' hB hin hty he hxe hxi hdl hR hxR => by
    have hlt := hB.lt
    have hni : ∀ k ∈ Li, k ∉ [x] := fun k hk hm => by simp at hm; exact hxi (hm ▸ hk)
    cases s with
    | lk l =>
      cases hk
      obtain rfl : Le = [] := he
      obtain rfl : es.getD 0 0 = y := hty
      have hin' : (loFl who p cl).I (loPM P p) W (es.getD 0 0) ((loPM P p).nx l v) Li := hin
      have hE := lo_tells hin'
      by_cases h0 : ((loPM P p).nx l v).e = true
      · have e : (hvPM P T who p).nx (.lk l) v = .gs := (nx_off hn').trans (if_pos h0)
        rw [h0] at hE
        rw [e]
        refine (hv_judge_yes W x cl who p (some ⟨es.getD 0 0, 0, none⟩) none none none false hB _ rfl hE).mono ?_
        rintro e w' ⟨hu, hC⟩
        exact ⟨hu, Cp.lnd_acc (C := (hvCp who P T G p cl)) (s := .gs) (es := es) (Le' := []) hC (fun _ => rfl) trivial rfl hlt rfl (by simp) (fun k hk => by cases hk)⟩
      · have e : (hvPM P T who p).nx (.lk l) v = .acqP .fresh := (nx_off hn').trans (if_neg h0)
        rw [Bool.not_eq_true _ |>.mp h0] at hE
        rw [e]
        refine (hv_judge_no W x cl who p (some ⟨es.getD 0 0, 0, none⟩) none none none false hB hw _ rfl hE).mono ?_
        rintro e w' ⟨hu, hC⟩
        exact ⟨hu, Cp.lnd_run (C := (hvCp who P T G p cl)) (S := (acqSub (wd 0 2 3 0 0) (wd 0 2 3 0 1) (wd 0 2 3 0 2) who)) (af := .fn 156) (pt := AcqT.fresh) (s := .acqP .fresh) (es := es) (Le' := []) hC (fun _ => rfl) rfl rfl (fun _ => trivial) hlt rfl (by simp) (fun k hk => by cases hk)⟩
    | acqP a =>
      cases hk
      obtain rfl : Le = [] := he
      have e : (hvPM P T who p).nx (.acqP a) v = .runP (.get .ld) := nx_off hn'
      rw [e]
      refine (hv_startPlain W x cl who p (some ⟨es.getD 0 0, 0, none⟩) none none none false hB P T G hw hp hT).mono ?_
      rintro e w' ⟨hu, y1, q1, b, L, hC, hI, hL, hq, hg⟩
      exact ⟨hu, Cp.lnd_run0 (C := (hvCp who P T G p cl)) (S := (hvSt who P T G p false cl)) (af := .nil) (pt := WsT.get .ld) (s := .runP (.get .ld)) (es := [es.getD 0 0, y1]) (Le' := []) hC (fun _ => rfl) hI hL hq hg ⟨rfl, rfl, trivial⟩ rfl rfl hlt rfl (by simp) (fun k hk => by cases hk)⟩
    | acqS a =>
      cases hk
      obtain rfl : Le = [] := he
      have e : (hvPM P T who p).nx (.acqS a) v = .runS (.get .ld) := nx_off hn'
      rw [e]
      refine (hv_startSpinning W x cl who p (some ⟨es.getD 0 0, 0, none⟩) none none none true hB P T G hw hp hT).mono ?_
      rintro e w' ⟨hu, y1, q1, b, L, hC, hI, hL, hq, hg⟩
      exact ⟨hu, Cp.lnd_run0 (C := (hvCp who P T G p cl)) (S := (hvSt who P T G p true cl)) (af := .nil) (pt := WsT.get .ld) (s := .runS (.get .ld)) (es := [es.getD 0 0, y1]) (Le' := []) hC (fun _ => rfl) hI hL hq hg ⟨rfl, rfl, trivial⟩ rfl rfl hlt rfl (by simp) (fun k hk => by cases hk)⟩
    | acqL a =>
      cases hk
      obtain rfl : Le = [] := he
      have e : (hvPM P T who p).nx (.acqL a) v = .gs2 := nx_off hn'
      rw [e]
      refine (hv_loadAgain W x cl who p (some ⟨es.getD 0 0, 0, none⟩) none none none false hB ).mono ?_
      rintro e w' ⟨hu, hC⟩
      exact ⟨hu, Cp.lnd_acc (C := (hvCp who P T G p cl)) (s := .gs2) (es := es) (Le' := []) hC (fun _ => rfl) trivial rfl hlt rfl (by simp) (fun k hk => by cases hk)⟩
    | runP s =>
      cases hk
      obtain rfl : Le = [] := he
      obtain rfl : es.getD 1 0 = y := hty
      have hin' : (wsCp who P T G p false true cl).I W (es.getD 1 0) ((wsPM P T p false true).nx s v) Li := hin
      have e : (hvPM P T who p).nx (.runP s) v = .ovP ((wsPM P T p false true).nx s v) := nx_off hn'
      rw [e]
      exact Cp.lnd_over (C := (hvCp who P T G p cl)) (s := .ovP ((wsPM P T p false true).nx s v)) (es := es) (Le' := Li) hB (But.refl _ _) trivial rfl hin' hxi (fun k hk => List.mem_append_left _ hk)
    | runS s =>
      cases hk
      obtain rfl : Le = [] := he
      obtain rfl : es.getD 1 0 = y := hty
      have hin' : (wsCp who P T G p true true cl).I W (es.getD 1 0) ((wsPM P T p true true).nx s v) Li := hin
      have e : (hvPM P T who p).nx (.runS s) v = .ovS ((wsPM P T p true true).nx s v) := nx_off hn'
      rw [e]
      exact Cp.lnd_over (C := (hvCp who P T G p cl)) (s := .ovS ((wsPM P T p true true).nx s v)) (es := es) (Le' := Li) hB (But.refl _ _) trivial rfl hin' hxi (fun k hk => List.mem_append_left _ hk)
    | put q =>
      cases hk
      obtain rfl : Le = [] := he
      obtain rfl : es.getD 1 0 = y := hty
      have hin' : (ipFl who p cl).I (ipPM P p) W (es.getD 1 0) ((ipPM P p).nx q v) Li := hin
      have e : (hvPM P T who p).nx (.put q) v = .rel ((ipPM P p).nx q v) .fresh := nx_off hn'
      rw [e]
      refine (hv_release W x cl who p (some ⟨es.getD 0 0, 0, none⟩) none (some ⟨es.getD 1 0, 0, none⟩) none false hB).mono ?_
      rintro e w' ⟨hu, hC⟩
      exact ⟨hu, Cp.lnd_run (C := (hvCp who P T G p cl)) (S := (relSub (wd 0 2 3 0 1) (wd 0 2 3 0 2) who)) (af := .nil) (pt := RelT.fresh) (s := .rel ((ipPM P p).nx q v) .fresh) (es := es) (Le' := Li) hC (fun _ => rfl) rfl rfl (fun _ => trivial) hlt ((Fl.good (ip_laws who P T G p cl hp hT)).keep hin' hC.but hni) hxi (fun k hk => ⟨List.mem_append_left _ hk, (Fl.good (ip_laws who P T G p cl hp hT)).lt hin' k hk⟩)⟩
    | rel q r =>
      cases hk
      have e : (hvPM P T who p).nx (.rel q r) v = .ovR q := nx_off hn'
      rw [e]
      exact Cp.lnd_over (C := (hvCp who P T G p cl)) (s := .ovR q) (es := es) (Le' := Le) hB (But.refl _ _) trivial rfl he hxe (fun k hk => List.mem_append_right _ hk)
    | _ => cases hk
variable {w : World} {x : Nat} {s : HvT} {L : List Nat}
theorem hv_tells_P (h : (hvCp who P T G p cl).I w x s L) : Calls Tryz.prog 49 #[.pointer (some ⟨x, 0, none⟩)] w fun e w' => e = .returned (.int .i64 (s.holds p)) ∧ w = w' := by
  obtain ⟨-, es, Le, he, hxe, hH⟩ := h
  obtain ⟨nx, hB⟩ := Cp.blk' hH
  have hB' : Blk w x (hvAt who p cl s es nx) 143 := hB
  cases s with
  | runP s =>
    obtain ⟨q1, y, g1, Li, h1, h2, h3, -⟩ := hH
    obtain rfl : es.getD 1 0 = y := h3
    exact hv_holds_st w x cl who p _ _ _ nx _ hB' _ _ _ rfl rfl (ws_tells_P h2)
  | runS s =>
    obtain ⟨q1, y, g1, Li, h1, h2, h3, -⟩ := hH
    obtain rfl : es.getD 1 0 = y := h3
    exact hv_holds_st w x cl who p _ _ _ nx _ hB' _ _ _ rfl rfl (ws_tells_P h2)
  | ovP s => exact hv_holds_st w x cl who p _ _ _ nx _ hB' _ _ _ rfl rfl (ws_tells_P he)
  | ovS s => exact hv_holds_st w x cl who p _ _ _ nx _ hB' _ _ _ rfl rfl (ws_tells_P he)
  | put q =>
    obtain ⟨q1, y, g1, Li, h1, h2, h3, -⟩ := hH
    obtain rfl : es.getD 1 0 = y := h3
    exact hv_holds_id w x cl who p _ _ _ nx _ hB' _ _ _ rfl rfl rfl (ip_holds h2)
  | rel q r => exact hv_holds_id w x cl who p _ _ _ nx _ hB' _ _ _ rfl rfl rfl (ip_holds he)
  | ovR q => exact hv_holds_id w x cl who p _ _ _ nx _ hB' _ _ _ rfl rfl rfl (ip_holds he)
  | _ => exact hv_holds_p w x cl who p _ _ _ nx _ hB' _ rfl rfl rfl
theorem hv_tells_C (h : (hvCp who P T G p cl).I w x s L) : Calls Tryz.prog 50 #[.pointer (some ⟨x, 0, none⟩)] w fun e w' => e = .returned (.bool s.counts) ∧ w = w' := by
  obtain ⟨-, es, Le, he, hxe, hH⟩ := h
  obtain ⟨nx, hB⟩ := Cp.blk' hH
  have hB' : Blk w x (hvAt who p cl s es nx) 143 := hB
  exact hv_counts w x cl who p _ _ _ nx _ hB'
end
set_option maxHeartbeats 4000000 in
theorem hv_new (w : World) (cl : Nat) (who p P T G : Int) (hl : Lay w cl P T G) (hp : 0 ≤ P ∧ P ≤ 64) :
    Calls Tryz.prog 152 #[.pointer (some ⟨cl, 0, none⟩), .int .i64 who, .int .i64 p] w fun e w' => ∃ x L, e = .returned (.pointer (some ⟨x, 0, none⟩)) ∧ (hvCp who P T G p cl).I w' x (.lk .hd) L ∧ Below w.heap.size w w' ∧ (∀ k ∈ L, w.heap.size ≤ k) ∧ w.heap.size ≤ x := by
  have hN := lo_new w cl P T G who p hl hp
  have HG : Hid (((loFl who p cl).I (loPM P p)).Good (loPM P p)) := Fl.good (lo_laws who P T G p cl hp)
  clear hl hp
  go_enter Tryz.func152, Tryz.ntmps152
  go_wp2_with fail
  go_at_call 118; refine hN.mono ?_; rintro e w1 ⟨y, L, rfl, k1, k2, k3, k4⟩
  have hlL := HG.out.lt k1
  have hyL := hlL y (HG.out.mem k1)
  have hB := Blk.new w1 (hvCells 0 none cl p (some ⟨y, 0, none⟩) none none false) 143
  have hO := fof_any _ w1.heap.size _ 143 who hB (by simp [hvCells])
  have HH : Hid (Blk (w1.alloc (.cells (hvCells 0 none cl p (some ⟨y, 0, none⟩) none none false) 143)) w1.heap.size (hvCells 0 none cl p (some ⟨y, 0, none⟩) none none false) 143 ∧ (loFl who p cl).I (loPM P p) w1 y .hd L ∧ (∀ k ∈ L, w.heap.size ≤ k ∧ k < w1.heap.size) ∧ Below w.heap.size w w1 ∧ y < w1.heap.size ∧ w.heap.size ≤ w1.heap.size) := ⟨hB, k1, fun k hk => ⟨k3 k hk, hlL k hk⟩, k2, hyL, k2.size⟩
  clear hN hB k1 k2 k3 k4 hlL hyL
  unfold hvCells at hO
  go_wp2_with fail
  go_at_call 38; refine hO.mono ?_; rintro e w3 ⟨⟨v, rfl⟩, hw3⟩
  have h3 : Blk w3 w1.heap.size (hvCells who none cl p (some ⟨y, 0, none⟩) none none false) 143 := by rw [hw3]; exact HH.out.1.set 0 _
  have hB3 : But [w1.heap.size] w1 w3 := by rw [hw3]; exact ((But.refl _ w1).alloc _).set (g := w1.heap.size) (.inl (by simp)) 0 _
  have hI3 := HG.out.keep HH.out.2.1 hB3 (fun k hk => by have := (HH.out.2.2.1 k hk).2; simp; omega)
  have H3 : Hid (Blk w3 w1.heap.size (hvCells who none cl p (some ⟨y, 0, none⟩) none none false) 143 ∧ (loFl who p cl).I (loPM P p) w3 y .hd L ∧ Below w.heap.size w w3) := ⟨h3, hI3, HH.out.2.2.2.1.trans (hB3.below (by simpa using HH.out.2.2.2.2.2) HH.out.2.2.2.2.2)⟩
  have HK : Hid ((∀ k ∈ L, w.heap.size ≤ k ∧ k < w1.heap.size) ∧ y < w1.heap.size ∧ w.heap.size ≤ w1.heap.size) := ⟨HH.out.2.2.1, HH.out.2.2.2.2.1, HH.out.2.2.2.2.2⟩
  have hyx : y ≠ w1.heap.size := by have := HK.out.2.1; omega
  generalize w1.heap.size = x at *
  clear hO HH hw3 h3 hB3 hI3
  have hlt := H3.out.1.lt
  obtain ⟨a, ha⟩ : ∃ a, w3.cell? ⟨y, 1, none⟩ = some (.pointer (some a)) := by
    obtain ⟨nx, q1, q2⟩ := HG.out.next H3.out.2.1
    cases nx with
    | none => cases q2
    | some a => exact ⟨a, q1⟩
  have c4 := H3.out.1.cell 4 (v := .pointer (some ⟨y, 0, none⟩)) rfl
  have hf := frun_look w3.drew x y _ 143 (.func (.func 154) #[.pointer (some ⟨x, 0, none⟩)] #[]) a H3.out.1.drew (by simp [hvCells]) (.some _ _ _) hyx (by simpa using ha)
  clear ha
  go_wp2_with fail
  go_region_with (first | (go_at_call 120; refine hf.mono ?_; rintro e w5 ⟨⟨v, rfl⟩, q, g, hC⟩))
  all_goals
    have hlL := HG.out.lt H3.out.2.1
    have f1 : w3.heap.size ≤ q := hC.at'.fresh
    have f2 : w3.heap.size ≤ g := hC.fresh
    have hI6 := HG.out.keep H3.out.2.1 (((But.refl [x] w3).drew).trans hC.at'.but) (fun k hk => by have := HK.out.1 k hk; simp; omega)
    have hC6 := hC.before ((But.refl [x] w3).drew)
    have hF : Hid ((hvCp who P T G p cl).I w5 x (.lk .hd) (x :: q :: g :: (L ++ [])) ∧ Below w.heap.size w w5 ∧ ∀ k ∈ x :: q :: g :: (L ++ []), w.heap.size ≤ k) := by
      refine ⟨⟨rfl, [y], [], rfl, by simp, q, y, g, L, RunAt.of hC6 (fun nx => rfl), hI6, rfl, ?_, (fun hm => by have := hlL q hm; omega), (fun hm => by have := hlL g hm; omega), (fun k _ h => by cases h), rfl⟩, H3.out.2.2.trans (hC6.at'.but.below (by simp; exact HK.out.2.2) H3.out.2.2.size), fun k hk => ?_⟩
      · simp only [List.mem_cons, not_or]
        exact ⟨by omega, by omega, fun hm => by have := (HK.out.1 x hm).2; omega⟩
      · have := HK.out.2.2
        have := H3.out.2.2.size
        simp at hk
        rcases hk with rfl | rfl | rfl | hk
        · omega
        · omega
        · omega
        · exact (HK.out.1 k hk).1
    have hxw : Hid (w.heap.size ≤ x) := HK.out.2.2
    clear hf hC hC6 hI6 c4 HG hlL f1 f2 HK H3
    go_wp2_with fail
    go_ret
    exact ⟨x, _, rfl, hF.out.1, hF.out.2.1, hF.out.2.2, hxw.out⟩
end Go.Proofs.YthjfbknmdligeaaGreat

namespace Go.Proofs.YthjfbknmdligeaaGreat
open Go Go.RowKit
set_option linter.unusedVariables false
set_option maxRecDepth 100000
set_option linter.unusedSimpArgs false

theorem stepby_over : StepBy 235 := by
  intro w x mv M h
  go_enter Tryz.func235, Tryz.ntmps235
  go_wp2_with fail
  go_at_call 52; refine h.mono ?_; rintro e w1 ⟨z, rfl, h1⟩
  go_wp2_with fail
  go_ret
  exact ⟨z, rfl, h1⟩
theorem step_nil_over (w : World) (mv : Value) : Calls Tryz.prog 235 #[.pointer none, mv] w fun e w' => e = .returned (.bool true) ∧ w = w' := by
  go_enter Tryz.func235, Tryz.ntmps235
  go_wp2_with fail
  go_ret
  exact ⟨rfl, rfl⟩
theorem done_over (w : World) (x : Nat) (nx : Option Addr) (hc : w.cell? ⟨x, 1, none⟩ = some (.pointer nx)) :
    Calls Tryz.prog 234 #[.pointer (some ⟨x, 0, none⟩)] w fun e w' => e = .returned (.bool nx.isNone) ∧ w = w' := by
  have h := fdone_any w x nx hc
  go_enter Tryz.func234, Tryz.ntmps234
  go_wp2_with fail
  go_at_call 78; refine h.mono ?_; rintro e w1 ⟨rfl, rfl⟩
  go_wp2_with fail
  go_ret
  exact ⟨rfl, rfl⟩
theorem done_nil_over (w : World) : Calls Tryz.prog 234 #[.pointer none] w fun e w' => e = .returned (.bool true) ∧ w = w' := by
  go_enter Tryz.func234, Tryz.ntmps234
  go_wp2_with fail
  go_ret
  exact ⟨rfl, rfl⟩
theorem stepby_mon : StepBy 20 := by
  intro w x mv M h
  go_enter Tryz.func20, Tryz.ntmps20
  go_wp2_with fail
  go_at_call 52; refine h.mono ?_; rintro e w1 ⟨z, rfl, h1⟩
  go_wp2_with fail
  go_ret
  exact ⟨z, rfl, h1⟩
theorem step_nil_mon (w : World) (mv : Value) : Calls Tryz.prog 20 #[.pointer none, mv] w fun e w' => e = .returned (.bool true) ∧ w = w' := by
  go_enter Tryz.func20, Tryz.ntmps20
  go_wp2_with fail
  go_ret
  exact ⟨rfl, rfl⟩
end Go.Proofs.YthjfbknmdligeaaGreat

namespace Go.Proofs.YthjfbknmdligeaaGreat
open Go Go.RowKit
set_option linter.unusedVariables false
set_option maxRecDepth 100000
set_option linter.unusedSimpArgs false

theorem isD_over (v : Value) (xT : TypeId) (w : World) : (Instr.typeAssert (.iface 96 v) xT 183 true).run Tryz.prog w = .ok (.tuple #[.iface 96 v, .bool true]) w := run_typeAssert_hasB Tryz.underlying183 (by kernel_rfl) v xT w
theorem eqIIn_over (w : World) (fuel : Nat) (v : Value) : (Op.equalIn (fuel + 1) 146 (.iface 96 v) .nilIface).run Tryz.prog w = .ok false w := by
  simp only [Op.equalIn, Sem.run_bind, run_underlying Tryz.underlying146, Result.andThen_ok]
  rfl
theorem eqI_over (v : Value) (w : World) : (binOp .eql 146 (.iface 96 v) .nilIface).run Tryz.prog w = .ok (.bool false) w := by
  have h := eqIIn_over w 9999 v
  simp only [binOp]
  simp [Op.equal, Op.maxDepth, h]
theorem neqI_over (v : Value) (w : World) : (binOp .neq 146 (.iface 96 v) .nilIface).run Tryz.prog w = .ok (.bool true) w := by
  have h := eqIIn_over w 9999 v
  simp only [binOp]
  simp [Op.equal, Op.maxDepth, h]
theorem isdone_over (w : World) (x : Nat) (nx : Option Addr) (hc : w.cell? ⟨x, 1, none⟩ = some (.pointer nx)) :
    Calls Tryz.prog 124 #[.iface 96 (.pointer (some ⟨x, 0, none⟩))] w fun e w' => e = .returned (.bool nx.isNone) ∧ w = w' := by
  have h1 := isD_over
  have h2 := eqI_over
  have hD := done_over w x nx hc
  go_enter Tryz.func124, Tryz.ntmps124
  go_wp2_with fail
  go_at_call 234; refine hD.mono ?_; rintro e w1 ⟨rfl, rfl⟩
  go_wp2_with fail
  go_ret
  exact ⟨rfl, rfl⟩

theorem frun0_over (w : World) (c x : Nat) (cs : Array Value) (T : TypeId) (fv : Value) (nx : Addr) (h : Blk w c cs T) (hs : 2 ≤ cs.size) (hf : Fv fv) (hxc : x ≠ c) (hx : w.cell? ⟨x, 1, none⟩ = some (.pointer (some nx))) :
    Calls Tryz.prog 120 #[.pointer (some ⟨c, 0, none⟩), .iface 96 (.pointer (some ⟨x, 0, none⟩)), fv] w fun e w' => (∃ v, e = .returned v) ∧ ∃ q g, CameBox w w' c cs T (fun v => comCells 0 0 0 0 0 false (.iface 96 (.pointer (some ⟨x, 0, none⟩))) v false false) fv q g := by
  have c1 := h.cell 1 (Array.getElem?_eq_getElem (by omega))
  have f1 := h.fro 1
  have hlt := h.lt
  have h1 := h.set 1 (.pointer none)
  have c2 := h1.cell 1 (v := .pointer none) (by rw [Array.getElem?_setIfInBounds, if_pos rfl, if_pos (by omega)])
  have f2 := h1.fro 1
  have hB1 : But [c] w (w.setCell ⟨c, 1, none⟩ (.pointer none)) := (But.refl _ w).set (g := c) (.inl (by simp)) 1 _
  have hsz : (w.setCell ⟨c, 1, none⟩ (.pointer none)).heap.size = w.heap.size := size_set _ _ _
  have hD := isdone_over (w.setCell ⟨c, 1, none⟩ (.pointer none)) x (some nx) (by
    rw [show (w.setCell ⟨c, 1, none⟩ (.pointer none)).cell? ⟨x, 1, none⟩ = w.cell? ⟨x, 1, none⟩ by simp only [World.cell?]; rw [heap_set_ne w hxc 1 _]]
    exact hx)
  have hU := fun w => untold_any w fv hf
  have HH : Hid (Blk (w.setCell ⟨c, 1, none⟩ (.pointer none)) c (cs.setIfInBounds 1 (.pointer none)) T ∧ But [c] w (w.setCell ⟨c, 1, none⟩ (.pointer none))) := ⟨h1, hB1⟩
  clear h h1 hB1 hx
  go_enter Tryz.func120, Tryz.ntmps120
  go_wp2_with fail
  generalize w.setCell ⟨c, 1, none⟩ (.pointer none) = W at *
  go_at_call 124; refine hD.mono ?_; rintro e w1 ⟨rfl, rfl⟩
  go_wp2_with fail
  go_at_call 98; refine (hU _).mono ?_; rintro e w2 ⟨rfl, rfl⟩
  have hg := Blk.new W #[fv] 1
  have hW2 : Blk (W.alloc (.cells #[fv] 1)) c (cs.setIfInBounds 1 (.pointer none)) T := HH.out.1.al _
  have hsz2 : Hid ((W.alloc (.cells #[fv] 1)).heap.size = w.heap.size + 1) := (by rw [World.size_alloc, hsz] : (W.alloc (.cells #[fv] 1)).heap.size = w.heap.size + 1)
  have hB2 : But [c] w (W.alloc (.cells #[fv] 1)) := HH.out.2.alloc _
  rw [hsz] at hg ⊢
  have HG : Hid (Blk (W.alloc (.cells #[fv] 1)) w.heap.size #[fv] 1 ∧ Blk (W.alloc (.cells #[fv] 1)) c (cs.setIfInBounds 1 (.pointer none)) T ∧ But [c] w (W.alloc (.cells #[fv] 1))) := ⟨hg, hW2, hB2⟩
  have c3 := hW2.cell 1 (v := .pointer none) (by rw [Array.getElem?_setIfInBounds, if_pos rfl, if_pos (by omega)])
  have f3 := hW2.fro 1
  clear hD hU c1 f1 c2 f2 hg hW2 hB2
  generalize W.alloc (.cells #[fv] 1) = W2 at *
  have hlt2 : c < W2.heap.size := by have := hsz2.out; omega
  clear hsz HH
  go_wp2_with fail
  go_end0
  obtain ⟨g1, g2, g3⟩ := HG.out
  have hsz2 := hsz2.out
  refine ⟨⟨_, rfl⟩, W2.heap.size, w.heap.size, ⟨⟨by omega, ?_, ?_, ?_⟩, Nat.le_refl _, ?_, by omega⟩⟩
  · have := (g2.set 1 (.pointer (some ⟨W2.heap.size, 0, none⟩))).al (.cells (comCells 0 0 0 0 0 false (.iface 96 (.pointer (some ⟨x, 0, none⟩))) (.func (.func 110) #[] #[.pointer (some ⟨w.heap.size, 0, none⟩)]) false false) 148)
    rw [set_twice] at this
    exact this
  · have := Blk.new (W2.setCell ⟨c, 1, none⟩ (.pointer (some ⟨W2.heap.size, 0, none⟩))) (comCells 0 0 0 0 0 false (.iface 96 (.pointer (some ⟨x, 0, none⟩))) (.func (.func 110) #[] #[.pointer (some ⟨w.heap.size, 0, none⟩)]) false false) 148
    rw [size_set] at this
    exact this
  · exact (g3.set (g := c) (.inl (by simp)) 1 _).alloc _
  · exact (g1.setne (by omega) 1 _).al _

theorem act0_over (w : World) (q cm x : Nat) (who : Int) (thn : Value) (z : Bool) (Mw : World → Prop) (hq : Blk w q (comCells 0 0 0 0 0 false (.iface 96 (.pointer (some ⟨x, 0, none⟩))) thn false false) 148)
    (hS : ∀ W, But [q] w W → Blk W q (comCells 0 0 0 0 0 false (.iface 96 (.pointer (some ⟨x, 0, none⟩))) thn false true) 148 → Calls Tryz.prog 235 #[.pointer (some ⟨x, 0, none⟩), .pointer (some ⟨cm, 0, none⟩)] W fun e w' => e = .returned (.bool z) ∧ Blk w' q (comCells 0 0 0 0 0 false (.iface 96 (.pointer (some ⟨x, 0, none⟩))) thn false true) 148 ∧ Mw w') :
    Calls Tryz.prog 79 #[.pointer (some ⟨q, 0, none⟩), .int .i64 who, .pointer (some ⟨cm, 0, none⟩)] w fun e w' => e = .returned (.tuple #[.int .u64 0, .bool z]) ∧ ∃ w1, Mw w1 ∧ Blk w1 q (comCells 0 0 0 0 0 false (.iface 96 (.pointer (some ⟨x, 0, none⟩))) thn false true) 148 ∧ w' = w1.setCell ⟨q, 9, none⟩ (.bool false) := by
  have hn := neqI_over
  have hbm := Blk.new w #[.pointer (some ⟨cm, 0, none⟩)] 29
  have hq1 := hq.al (.cells #[.pointer (some ⟨cm, 0, none⟩)] 29)
  have hqlt := hq.lt
  have k6 := hq1.cell 6 (v := .iface 96 (.pointer (some ⟨x, 0, none⟩))) rfl
  have hask : Calls Tryz.prog 89 #[.pointer (some ⟨q, 0, none⟩), .func (.func 90) #[] #[.pointer (some ⟨w.heap.size, 0, none⟩)]] (w.alloc (.cells #[.pointer (some ⟨cm, 0, none⟩)] 29)) fun e w' => e = .returned (.bool z) ∧ ∃ w1, Mw w1 ∧ Blk w1 q (comCells 0 0 0 0 0 false (.iface 96 (.pointer (some ⟨x, 0, none⟩))) thn false true) 148 ∧ w' = w1.setCell ⟨q, 9, none⟩ (.bool false) := by
    have hne : w.heap.size ≠ q := by omega
    have k9 := hq1.cell 9 (v := .bool false) rfl
    have f9 := hq1.fro 9
    have hq2 := hq1.set 9 (.bool true)
    have l6 := hq2.cell 6 (v := .iface 96 (.pointer (some ⟨x, 0, none⟩))) rfl
    have hb2 := hbm.setne hne 9 (.bool true)
    have b0 := hb2.cell 0 (v := .pointer (some ⟨cm, 0, none⟩)) rfl
    have hst := hS ((w.alloc (.cells #[.pointer (some ⟨cm, 0, none⟩)] 29)).setCell ⟨q, 9, none⟩ (.bool true)) (((But.refl [q] w).alloc _).set (g := q) (.inl (by simp)) 9 _) hq2
    have hrun : Calls Tryz.prog 90 #[.iface 96 (.pointer (some ⟨x, 0, none⟩)), .pointer (some ⟨w.heap.size, 0, none⟩)] ((w.alloc (.cells #[.pointer (some ⟨cm, 0, none⟩)] 29)).setCell ⟨q, 9, none⟩ (.bool true)) fun e w' => e = .returned (.bool z) ∧ Blk w' q (comCells 0 0 0 0 0 false (.iface 96 (.pointer (some ⟨x, 0, none⟩))) thn false true) 148 ∧ Mw w' := by
      clear hS hq hbm hq1 k6 k9 f9 hq2 l6 hb2 hqlt hne
      generalize (w.alloc (.cells #[.pointer (some ⟨cm, 0, none⟩)] 29)).setCell ⟨q, 9, none⟩ (.bool true) = W at *
      go_enter Tryz.func90, Tryz.ntmps90
      go_wp2_with fail
      go_at_call 235; refine hst.mono ?_; rintro e w1 ⟨rfl, h1, h2⟩
      go_wp2_with fail
      go_ret
      exact ⟨rfl, h1, h2⟩
    clear hS hq hbm hq1 hq2 hb2 hst b0 hqlt
    go_enter Tryz.func89, Tryz.ntmps89
    go_wp2_with fail
    generalize (w.alloc (.cells #[.pointer (some ⟨cm, 0, none⟩)] 29)).setCell ⟨q, 9, none⟩ (.bool true) = W at *
    go_at_call 90; refine hrun.mono ?_; rintro e w1 ⟨rfl, h1, h2⟩
    have m9 := h1.cell 9 (v := .bool true) rfl
    have g9 := h1.fro 9
    clear hrun l6 k9 f9 k6
    go_wp2_with fail
    go_ret
    exact ⟨rfl, w1, h2, h1, rfl⟩
  clear hS hq hq1 hbm
  go_enter Tryz.func79, Tryz.ntmps79
  go_wp2_with fail
  generalize w.alloc (.cells #[.pointer (some ⟨cm, 0, none⟩)] 29) = W at *
  go_at_call 89; refine hask.mono ?_; rintro e w1 ⟨rfl, h1⟩
  clear hask k6
  go_wp2_with fail
  go_returns
  exact ⟨rfl, h1⟩

theorem frun_over : RunCome 96 := fun w c y cs T fv nx h hs hf hyc hx => frun0_over w c y cs T fv nx h hs hf hyc hx
theorem act_over : ActRun 96 235 := fun w q cm y g who z Mw hq hS => act0_over w q cm y who _ z Mw hq hS
end Go.Proofs.YthjfbknmdligeaaGreat

namespace Go.Proofs.YthjfbknmdligeaaGreat
open Go Go.RowKit
set_option linter.unusedVariables false
set_option maxRecDepth 100000
set_option linter.unusedSimpArgs false

/-- A machine in memory that may run others: es are addresses that it holds, ext says of further blocks of its own. -/
structure CpR (σ : Type) where
  T : TypeId
  cells : σ → List Nat → Option Addr → Array Value
  kind : σ → Kind
  ok : σ → Prop
  ext : σ → List Nat → World → List Nat → Prop
  tie : σ → List Nat → Nat → Prop
def CpR.Here {σ : Type} (C : CpR σ) (w : World) (x : Nat) (t : σ) (es Le L : List Nat) : Kind → Prop
  | .over => Blk w x (C.cells t es none) C.T ∧ L = x :: Le
  | .acc a f => ∃ q Lc, Blk w x (C.cells t es (some ⟨q, 0, none⟩)) C.T ∧ Com w x q a f Lc ∧ x ∉ Lc ∧ (∀ k ∈ Lc, k ∉ Le) ∧ L = x :: (Lc ++ Le)
  | .run S p af => ∃ q y g Li, RunAt w x q y g (C.cells t es) C.T S.D (af.fol.box x) ∧ S.I w y p Li ∧ C.tie t es y ∧ x ∉ q :: g :: Li ∧ q ∉ Li ∧ g ∉ Li ∧ (∀ k ∈ q :: g :: Li, k ∉ Le) ∧ L = x :: q :: g :: (Li ++ Le)
def CpR.I {σ : Type} (C : CpR σ) : MI σ := fun w x t L => C.ok t ∧ ∃ es Le, C.ext t es w Le ∧ x ∉ Le ∧ C.Here w x t es Le L (C.kind t)
/-- What follows has made the next thing come. -/
def CpR.Land {σ : Type} (C : CpR σ) (W w' : World) (x : Nat) (t : σ) (Le : List Nat) : Prop := But (x :: Le) W w' ∧ ∃ L', C.I w' x t L' ∧ ∀ k ∈ L', k = x ∨ k ∈ Le ∨ W.heap.size ≤ k

structure CpR.Laws {σ : Type} (C : CpR σ) (M : PM σ) (R : Rd) (who : Int) : Prop where
  c0 : ∀ t es nx, (C.cells t es nx)[0]? = some (.int .i64 who)
  c1 : ∀ t es nx, (C.cells t es nx)[1]? = some (.pointer nx)
  set : ∀ t es nx nx', (C.cells t es nx).setIfInBounds 1 (.pointer nx') = C.cells t es nx'
  k0 : ∀ t, C.ok t → C.kind t = .over → M.ax t = none
  k1 : ∀ t a f, C.ok t → C.kind t = .acc a f → M.ax t = some a ∧ a.Ok ∧ f.Ents
  k2 : ∀ t S p af, C.ok t → C.kind t = .run S p af → M.ax t = S.M.ax p ∧ (S.M.ax p).isSome = true ∧ af.fol.Ents ∧ (∀ a, S.M.ax p = some a → a.Ok)
  sub : ∀ t S p af, C.ok t → C.kind t = .run S p af → Steps S.M S.I S.R S.F who ∧ S.I.Good S.M ∧ ActRun S.D S.F ∧ (∀ w, R.P w → S.R.P w) ∧ (∀ k ∈ S.R.B, k ∈ R.B)
  on : ∀ t S p af v, C.ok t → C.kind t = .run S p af → 0 ≤ v ∧ v ≤ 18446744073709551615 → (S.M.ax (S.M.nx p v)).isSome = true → C.ok (M.nx t v) ∧ C.kind (M.nx t v) = .run S (S.M.nx p v) af ∧ (∀ es, C.cells (M.nx t v) es = C.cells t es) ∧ (∀ es w Le, C.ext t es w Le → C.ext (M.nx t v) es w Le) ∧ (∀ es y, C.tie t es y → C.tie (M.nx t v) es y)
  ekeep : ∀ t es w w' l Le, C.ext t es w Le → But l w w' → (∀ k ∈ Le, k ∉ l) → C.ext t es w' Le
  elt : ∀ t es w Le, C.ext t es w Le → ∀ k ∈ Le, k < w.heap.size
  ns : ∀ t a f, C.kind t = .acc a f → a.sl = false := by intro t a f h; cases t <;> first | (cases h; rfl) | cases h | (rename_i r; cases r <;> first | (cases h; rfl) | cases h)
  fol : ∀ W x t a f v es Le, C.ok t → C.kind t = .acc a f → 0 ≤ v ∧ v ≤ 18446744073709551615 → Blk W x (C.cells t es none) C.T → C.ext t es W Le → x ∉ Le → R.P W → x ∉ R.B → FolC W x f v (fun w' => C.Land W w' x (M.nx t v) Le)
  aft : ∀ W x y t S p af v es Le Li, C.ok t → C.kind t = .run S p af → 0 ≤ v ∧ v ≤ 18446744073709551615 → S.M.ax (S.M.nx p v) = none → Blk W x (C.cells t es none) C.T → S.I W y (S.M.nx p v) Li → C.tie t es y → C.ext t es W Le → x ∉ Le → x ∉ Li → (∀ k ∈ Li, k ∉ Le) → R.P W → x ∉ R.B → FolC W x af.fol 0 (fun w' => C.Land W w' x (M.nx t v) (Li ++ Le))

section
variable {σ : Type} {C : CpR σ} {M : PM σ} {R : Rd} {who : Int}
/-- The machine's own block, whatever comes. -/
theorem CpR.blk {w : World} {x : Nat} {t : σ} {L : List Nat} (hL : C.Laws M R who) (h : C.I w x t L) : ∃ es Le nx, Blk w x (C.cells t es nx) C.T ∧ C.ext t es w Le ∧ (∀ k ∈ Le, k ∈ L) ∧ nx.isNone = (M.ax t).isNone := by
  obtain ⟨hok, es, Le, he, hxe, h⟩ := h
  cases hk : C.kind t with
  | over =>
    rw [hk] at h
    obtain ⟨h1, rfl⟩ := h
    exact ⟨es, Le, none, h1, he, fun k hk => by simp [hk], by rw [hL.k0 t hok hk]; rfl⟩
  | acc a f =>
    rw [hk] at h
    obtain ⟨q, Lc, h1, h2, h3, h4, rfl⟩ := h
    exact ⟨es, Le, _, h1, he, fun k hk => by simp [hk], by rw [(hL.k1 t a f hok hk).1]; rfl⟩
  | run S p af =>
    rw [hk] at h
    obtain ⟨q, y, g, Li, h1, h2, _, h3, h4, h5, h6, rfl⟩ := h
    obtain ⟨k1, k2, _, _⟩ := hL.k2 t S p af hok hk
    refine ⟨es, Le, _, h1.hx, he, fun k hk => by simp [hk], ?_⟩
    rw [k1]
    cases hs : S.M.ax p
    · rw [hs] at k2; cases k2
    · rfl
theorem CpR.mem {w : World} {x : Nat} {t : σ} {L : List Nat} (h : C.I w x t L) : x ∈ L := by
  obtain ⟨hok, es, Le, he, hxe, h⟩ := h
  cases hk : C.kind t with
  | over => rw [hk] at h; obtain ⟨h1, rfl⟩ := h; simp
  | acc a f => rw [hk] at h; obtain ⟨q, Lc, h1, h2, h3, h4, rfl⟩ := h; simp
  | run S p af => rw [hk] at h; obtain ⟨q, y, g, Li, h1, h2, _, h3, h4, h5, h6, rfl⟩ := h; simp
theorem CpR.good (hL : C.Laws M R who) : C.I.Good M := by
  refine ⟨?_, ?_, fun h => CpR.mem h, ?_⟩
  · intro w w' x t L l h hb hk
    obtain ⟨hok, es, Le, he, hxe, h⟩ := h
    refine ⟨hok, es, Le, ?_, hxe, ?_⟩
    · refine hL.ekeep t es w w' l Le he hb (fun k hm => hk k ?_)
      cases hkd : C.kind t with
      | over => rw [hkd] at h; obtain ⟨h1, rfl⟩ := h; simp [hm]
      | acc a f => rw [hkd] at h; obtain ⟨q, Lc, h1, h2, h3, h4, rfl⟩ := h; simp [hm]
      | run S p af => rw [hkd] at h; obtain ⟨q, y, g, Li, h1, h2, _, h3, h4, h5, h6, rfl⟩ := h; simp [hm]
    · cases hkd : C.kind t with
      | over => rw [hkd] at h; obtain ⟨h1, rfl⟩ := h; exact ⟨h1.but hb (hk x (by simp)), rfl⟩
      | acc a f =>
        rw [hkd] at h
        obtain ⟨q, Lc, h1, h2, h3, h4, rfl⟩ := h
        exact ⟨q, Lc, h1.but hb (hk x (by simp)), h2.but hb (fun k hm => hk k (by simp [hm])), h3, h4, rfl⟩
      | run S p af =>
        have hG := (hL.sub t S p af hok hkd).2.1
        rw [hkd] at h
        obtain ⟨q, y, g, Li, h1, h2, h2', h3, h4, h5, h6, rfl⟩ := h
        exact ⟨q, y, g, Li, h1.but hb (hk x (by simp)) (hk q (by simp)) (hk g (by simp)), hG.keep h2 hb (fun k hm => hk k (by simp [hm])), h2', h3, h4, h5, h6, rfl⟩
  · intro w x t L h k hk
    obtain ⟨hok, es, Le, he, hxe, h⟩ := h
    have hle := hL.elt t es w Le he
    cases hkd : C.kind t with
    | over =>
      rw [hkd] at h
      obtain ⟨h1, rfl⟩ := h
      simp at hk
      rcases hk with rfl | hk
      · exact h1.lt
      · exact hle k hk
    | acc a f =>
      rw [hkd] at h
      obtain ⟨q, Lc, h1, h2, h3, h4, rfl⟩ := h
      simp at hk
      rcases hk with rfl | hk | hk
      · exact h1.lt
      · exact h2.lt k hk
      · exact hle k hk
    | run S p af =>
      have hG := (hL.sub t S p af hok hkd).2.1
      rw [hkd] at h
      obtain ⟨q, y, g, Li, h1, h2, _, h3, h4, h5, h6, rfl⟩ := h
      simp at hk
      rcases hk with rfl | rfl | rfl | hk | hk
      · exact h1.hx.lt
      · exact h1.hq.lt
      · exact h1.hg.lt
      · exact hG.lt h2 k hk
      · exact hle k hk
  · intro w x t L h
    obtain ⟨es, Le, nx, h1, _, _, h2⟩ := CpR.blk hL h
    exact ⟨nx, h1.cell 1 (hL.c1 _ _ _), h2⟩
theorem CpR.axok (hL : C.Laws M R who) {w : World} {x : Nat} {t : σ} {L : List Nat} (h : C.I w x t L) : ∀ a, M.ax t = some a → a.Ok := by
  intro a ha
  have hok := h.1
  cases hk : C.kind t with
  | over => rw [hL.k0 t hok hk] at ha; cases ha
  | acc a' f =>
    obtain ⟨h1, h2, _⟩ := hL.k1 t a' f hok hk
    rw [h1] at ha
    cases ha
    exact h2
  | run S p af =>
    obtain ⟨h1, _, _, h4⟩ := hL.k2 t S p af hok hk
    exact h4 a (h1.symm.trans ha)
/-- Ways to land. -/
theorem CpR.land_over {W w' : World} {x : Nat} {t : σ} {es Le Le' : List Nat} (hb : But [x] W w') (hok : C.ok t) (hk : C.kind t = .over) (h : Blk w' x (C.cells t es none) C.T) (he : C.ext t es w' Le) (hxe : x ∉ Le) (hle : ∀ k ∈ Le, k ∈ Le') : C.Land W w' x t Le' :=
  ⟨hb.more (by intro k _ hk; simp at hk ⊢; exact .inl hk), x :: Le, ⟨hok, es, Le, he, hxe, by rw [hk]; exact ⟨h, rfl⟩⟩, fun k hm => by simp at hm; rcases hm with rfl | hm; exact .inl rfl; exact .inr (.inl (hle k hm))⟩
theorem CpR.land_acc (hL : C.Laws M R who) {W w' : World} {x : Nat} {t : σ} {es Le Le' : List Nat} {a : Ax} {f : Fol} (h : Came W w' x (C.cells t es none) C.T a f) (hok : C.ok t) (hk : C.kind t = .acc a f) (he : C.ext t es W Le) (hx : x < W.heap.size) (hxe : x ∉ Le) (hle : ∀ k ∈ Le, k ∈ Le') : C.Land W w' x t Le' := by
  obtain ⟨q, Lc, h1, h2, h3, h4⟩ := h
  rw [hL.set] at h1
  have hlt := hL.elt t es W Le he
  refine ⟨h3.more (by intro k _ hk; simp at hk ⊢; exact .inl hk), x :: (Lc ++ Le), ⟨hok, es, Le, hL.ekeep t es W w' _ Le he h3 (fun k hm => by simp; rintro rfl; exact hxe hm), hxe, ?_⟩, fun k hm => ?_⟩
  · rw [hk]
    exact ⟨q, Lc, h1, h2, fun hm => absurd (h4 x hm) (by omega), fun k hm hm2 => absurd (h4 k hm) (by have := hlt k hm2; omega), rfl⟩
  · simp at hm
    rcases hm with rfl | hm | hm
    · exact .inl rfl
    · exact .inr (.inr (h4 k hm))
    · exact .inr (.inl (hle k hm))
theorem CpR.land_run (hL : C.Laws M R who) {W w' : World} {x : Nat} {t : σ} {es Le Le' Li : List Nat} {S : Sub} {p : S.τ} {af : After} {y q g : Nat} {cs0 : Array Value} (hin : S.I w' y p Li) (hLi : ∀ k ∈ Li, W.heap.size ≤ k) (hqi : q ∉ Li) (hgi : g ∉ Li)
    (h : CameBox W w' x cs0 C.T (fun v => comCells 0 0 0 0 0 false (.iface S.D (.pointer (some ⟨y, 0, none⟩))) v false false) (af.fol.box x) q g) (hcs : ∀ nx, cs0.setIfInBounds 1 (.pointer nx) = C.cells t es nx)
    (hok : C.ok t) (hk : C.kind t = .run S p af) (hty : C.tie t es y) (he : C.ext t es W Le) (hx : x < W.heap.size) (hxe : x ∉ Le) (hle : ∀ k ∈ Le, k ∈ Le') : C.Land W w' x t Le' := by
  have hb := h.at'.but
  have hlt := hL.elt t es W Le he
  have hxi : x ∉ Li := fun hm => absurd (hLi x hm) (by omega)
  have hq : W.heap.size ≤ q := h.at'.fresh
  have hg : W.heap.size ≤ g := h.fresh
  refine ⟨hb.more (by intro k _ hk; simp at hk ⊢; exact .inl hk), x :: q :: g :: (Li ++ Le), ⟨hok, es, Le, hL.ekeep t es W w' _ Le he hb (fun k hm => by simp; rintro rfl; exact hxe hm), hxe, ?_⟩, fun k hm => ?_⟩
  · rw [hk]
    refine ⟨q, y, g, Li, RunAt.of h hcs, hin, hty, ?_, hqi, hgi, ?_, rfl⟩
    · simp only [List.mem_cons, not_or]
      exact ⟨by omega, by omega, hxi⟩
    · intro k hm hm2
      have := hlt k hm2
      simp only [List.mem_cons] at hm
      rcases hm with rfl | rfl | hm
      · omega
      · omega
      · have := hLi k hm; omega
  · simp at hm
    rcases hm with rfl | rfl | rfl | hm | hm
    · exact .inl rfl
    · exact .inr (.inr (by omega))
    · exact .inr (.inr (by omega))
    · exact .inr (.inr (hLi k hm))
    · exact .inr (.inl (hle k hm))

theorem CpR.steps (hL : C.Laws M R who) {K : Nat} (hK : StepBy K) : Steps M C.I R K who := by
  intro w A cp cm b n s x t L h hR hI hn hl hf hcb
  have hI0 := h
  obtain ⟨hok, es, Le, he, hxe, h⟩ := h
  cases hkd : C.kind t with
  | over =>
    have hax := hL.k0 t hok hkd
    have eT : M.goT n t s = t := by unfold PM.goT; rw [hax]
    have eS : M.goS who n t s = s := by unfold PM.goS; rw [hax]
    rw [eT, eS, hax]
    rw [hkd] at h
    obtain ⟨h1, rfl⟩ := h
    refine (hK w x _ (fun z w' => z = true ∧ w = w') ((step_none w x cm (h1.cell 1 (hL.c1 _ _ _))).mono ?_)).mono ?_
    · rintro e w' ⟨rfl, rfl⟩; exact ⟨true, rfl, rfl, rfl⟩
    · rintro e w' ⟨z, rfl, rfl, rfl⟩
      exact ⟨rfl, _, hI0, hI, But.refl _ _, fun k hk => .inl hk⟩
  | acc a f =>
    obtain ⟨hax, haok, hent⟩ := hL.k1 t a f hok hkd
    have eT : M.goT n t s = M.nx t (actA a.k a.i a.old a.new n s) := PM.goT_some hax (PM.asl_no (hL.ns t a f hkd))
    have eS : M.goS who n t s = actS a.k who a.i a.old a.new n s := PM.goS_some hax (PM.asl_no (hL.ns t a f hkd))
    rw [eT, eS]
    have hv := actA_bd hI a.k a.i a.old a.new
    rw [hkd] at h
    obtain ⟨q, Lc, h1, h2, h3, h4, rfl⟩ := h
    have hx := hf x (by simp)
    refine hK.to (R := fun nx w' => nx.isNone = (M.ax (M.nx t (actA a.k a.i a.old a.new n s))).isNone ∧ ∃ L', C.I w' x (M.nx t (actA a.k a.i a.old a.new n s)) L' ∧ Is w' 114 A cp cm b n (actS a.k who a.i a.old a.new n s) ∧ But (cm :: b :: x :: (Lc ++ Le)) w w' ∧ ∀ k ∈ L', k ∈ x :: (Lc ++ Le) ∨ w.heap.size ≤ k) ?_ (fun nx w' h => h)
    refine acc_step w A cp cm b n s hI hn hl x q _ C.T who a f Lc h1 (hL.c0 _ _ _) (hL.c1 _ _ _) h2 haok hent ⟨hx.1, hx.2.1⟩ h3 (fun k hk => ⟨(hf k (by simp [hk])).1, (hf k (by simp [hk])).2.1⟩) _ ?_
    intro W hW hIW hB
    rw [hL.set] at hW
    have hRW : R.P W := R.keep w W _ hR hB (fun k hk => by
      simp only [List.mem_cons, List.not_mem_nil, or_false, not_or]
      exact ⟨fun e => hcb.1 (e ▸ hk), fun e => hcb.2 (e ▸ hk), fun e => hx.2.2 (e ▸ hk)⟩)
    have heW : C.ext t es W Le := hL.ekeep t es w W _ Le he hB (fun k hm => by
      have := hf k (by simp [hm])
      simp only [List.mem_cons, List.not_mem_nil, or_false, not_or]
      exact ⟨this.1, this.2.1, fun e => hxe (e ▸ hm)⟩)
    refine (hL.fol W x t a f _ es Le hok hkd hv hW heW hxe hRW hx.2.2).mono ?_
    rintro w' ⟨g3, L', g1, g2⟩
    obtain ⟨nx, e1, e2⟩ := (CpR.good hL).next g1
    have hcx : cm ∉ x :: Le ∧ b ∉ x :: Le := ⟨fun hm => by
      rcases List.mem_cons.1 hm with h | h
      · exact hx.1 h.symm
      · exact (hf cm (by simp [h])).1 rfl, fun hm => by
      rcases List.mem_cons.1 hm with h | h
      · exact hx.2.1 h.symm
      · exact (hf b (by simp [h])).2.1 rfl⟩
    refine ⟨nx, e1, e2, L', g1, hIW.but g3 hcx.1 hcx.2, ?_, fun k hk => ?_⟩
    · exact (hB.more (by intro k _ hk; simp at hk ⊢; omega)).trans (g3.more (by intro k _ hk; simp at hk ⊢; rcases hk with h | h <;> simp [h]))
    · rcases g2 k hk with rfl | g2 | g2
      · exact .inl (by simp)
      · exact .inl (by simp [g2])
      · exact .inr (Nat.le_trans hB.size g2)
  | run S p af =>
    obtain ⟨hax, hsome, hent, _⟩ := hL.k2 t S p af hok hkd
    obtain ⟨hS, hG, hD, hRS, hRB⟩ := hL.sub t S p af hok hkd
    rw [hkd] at h
    obtain ⟨q, y, g, Li, h1, h2, hty, h3, h4, h5, h6, rfl⟩ := h
    obtain ⟨a, ha⟩ : ∃ a, S.M.ax p = some a := Option.isSome_iff_exists.1 hsome
    have hax' : M.ax t = some a := hax.trans ha
    have hv := actA_bd hI a.k a.i a.old a.new
    have eS : S.M.goS who n p s = M.goS who n t s := by
      by_cases hz : PM.asl n a s = true
      · rw [PM.goS_asl ha hz, PM.goS_asl hax' hz]
      · rw [PM.goS_some ha (by simpa using hz), PM.goS_some hax' (by simpa using hz)]
    have hgo : (S.M.ax (S.M.goT n p s)).isSome = true → C.ok (M.goT n t s) ∧ C.kind (M.goT n t s) = .run S (S.M.goT n p s) af ∧ (∀ es, C.cells (M.goT n t s) es = C.cells t es) ∧ (∀ es w Le, C.ext t es w Le → C.ext (M.goT n t s) es w Le) ∧ (∀ es y, C.tie t es y → C.tie (M.goT n t s) es y) := by
      by_cases hz : PM.asl n a s = true
      · rw [PM.goT_asl ha hz, PM.goT_asl hax' hz]
        exact fun _ => ⟨hok, hkd, fun _ => rfl, fun _ _ _ h => h, fun _ _ h => h⟩
      · rw [PM.goT_some ha (by simpa using hz), PM.goT_some hax' (by simpa using hz)]
        exact fun hs => hL.on t S p af _ hok hkd hv hs
    have hov : S.M.ax (S.M.goT n p s) = none → M.goT n t s = M.nx t (actA a.k a.i a.old a.new n s) ∧ S.M.goT n p s = S.M.nx p (actA a.k a.i a.old a.new n s) := by
      by_cases hz : PM.asl n a s = true
      · rw [PM.goT_asl ha hz, PM.goT_asl hax' hz]
        exact fun h => by rw [ha] at h; cases h
      · rw [PM.goT_some ha (by simpa using hz), PM.goT_some hax' (by simpa using hz)]
        exact fun _ => ⟨rfl, rfl⟩
    have hx := hf x (by simp)
    have hxi : x ∉ Li := fun hm => h3 (by simp [hm])
    refine hK.to (R := fun nx w' => nx.isNone = (M.ax (M.goT n t s)).isNone ∧ ∃ L', C.I w' x (M.goT n t s) L' ∧ Is w' 114 A cp cm b n (M.goS who n t s) ∧ But (cm :: b :: x :: q :: g :: (Li ++ Le)) w w' ∧ ∀ k ∈ L', k ∈ x :: q :: g :: (Li ++ Le) ∨ w.heap.size ≤ k) ?_ (fun nx w' h => h)
    refine run_step hS hG hD w A cm cp b n s hI hn hl x q y g (C.cells t es) C.T af p Li h1 (hL.c0 t es) (hL.c1 t es) (hL.set t es) hent h2 (hRS w hR) h3 h4 h5 (fun k hk => ?_) ⟨fun hm => hcb.1 (hRB _ hm), fun hm => hcb.2 (hRB _ hm)⟩ _ ?_ ?_
    · have hk' : k ∈ x :: q :: g :: (Li ++ Le) := by simp at hk ⊢; rcases hk with h | h | h | h <;> simp [h]
      exact ⟨(hf k hk').1, (hf k hk').2.1, fun hm => (hf k hk').2.2 (hRB _ hm)⟩
    · -- it goes on
      rw [eS]
      intro hs w' Li' hA' hin' hI' hB hLi'
      obtain ⟨o1, o2, o3, o4, o5⟩ := hgo hs
      have hlt := hL.elt t es w Le he
      have hLe : ∀ k ∈ Le, k ∉ cm :: b :: q :: Li := fun k hm => by
        have := hf k (by simp [hm])
        simp only [List.mem_cons, not_or]
        exact ⟨this.1, this.2.1, fun e => h6 q (by simp) (e ▸ hm), fun hi => h6 k (by simp [hi]) hm⟩
      have hin3 : ∀ k, k ∈ Li' → k ∈ Li ∨ w.heap.size ≤ k := hLi'
      have hxlt := h1.hx.lt
      have hqlt := h1.hq.lt
      have hglt := h1.hg.lt
      have hI2 : C.I w' x (M.goT n t s) (x :: q :: g :: (Li' ++ Le)) := by
        refine ⟨o1, es, Le, o4 es w' Le (hL.ekeep t es w w' _ Le he hB hLe), hxe, ?_⟩
        rw [o2]
        refine ⟨q, y, g, Li', by rw [o3]; exact hA', hin', o5 es y hty, ?_, ?_, ?_, ?_, rfl⟩
        · simp only [List.mem_cons, not_or] at h3 ⊢
          exact ⟨h3.1, h3.2.1, fun hm => by rcases hin3 x hm with h | h; exact hxi h; omega⟩
        · intro hm; rcases hin3 q hm with h | h; exact h4 h; omega
        · intro hm; rcases hin3 g hm with h | h; exact h5 h; omega
        · intro k hm hm2
          simp only [List.mem_cons] at hm
          rcases hm with rfl | rfl | hm
          · exact h6 k (by simp) hm2
          · exact h6 k (by simp) hm2
          · rcases hin3 k hm with h | h
            · exact h6 k (by simp [h]) hm2
            · have := hlt k hm2; omega
      obtain ⟨nx, e1, e2⟩ := (CpR.good hL).next hI2
      have e3 : nx = some ⟨q, 0, none⟩ := by
        have := hA'.hx.cell 1 (hL.c1 t es _)
        rw [e1] at this
        simpa using this
      subst e3
      refine ⟨e2, _, hI2, hI', hB.more (by intro k _ hk; simp at hk ⊢; rcases hk with h | h | h | h <;> simp [h]), fun k hk => ?_⟩
      simp at hk ⊢
      rcases hk with h | h | h | h | h
      · simp [h]
      · simp [h]
      · simp [h]
      · rcases hin3 k h with h | h
        · simp [h]
        · exact .inr h
      · simp [h]
    · -- it is over
      rw [eS]
      intro hs W Li' hW hin' hI' hB hLi'
      obtain ⟨e0, e9⟩ := hov hs
      rw [e0]
      rw [e9] at hs hin'
      have hRW : R.P W := R.keep w W _ hR hB (fun k hk => by
        simp only [List.mem_cons, not_or]
        refine ⟨fun e => hcb.1 (e ▸ hk), fun e => hcb.2 (e ▸ hk), fun e => hx.2.2 (e ▸ hk), fun e => (hf q (by simp)).2.2 (e ▸ hk), fun hm => (hf k (by simp [hm])).2.2 hk⟩)
      have hlt := hL.elt t es w Le he
      have hxlt := h1.hx.lt
      have heW : C.ext t es W Le := hL.ekeep t es w W _ Le he hB (fun k hm => by
        have := hf k (by simp [hm])
        simp only [List.mem_cons, not_or]
        exact ⟨this.1, this.2.1, fun e => hxe (e ▸ hm), fun e => h6 q (by simp) (e ▸ hm), fun hi => h6 k (by simp [hi]) hm⟩)
      have hxi' : x ∉ Li' := fun hm => by rcases hLi' x hm with h | h; exact hxi h; omega
      have hdl : ∀ k ∈ Li', k ∉ Le := fun k hm hm2 => by
        rcases hLi' k hm with h | h
        · exact h6 k (by simp [h]) hm2
        · have := hlt k hm2; omega
      refine (hL.aft W x y t S p af _ es Le Li' hok hkd hv hs hW hin' hty heW hxe hxi' hdl hRW hx.2.2).mono ?_
      rintro w' ⟨g3, L', g1, g2⟩
      obtain ⟨nx, e1, e2⟩ := (CpR.good hL).next g1
      have hcx : cm ∉ x :: (Li' ++ Le) ∧ b ∉ x :: (Li' ++ Le) := by
        have hlm := hI.lt
        have hlb := hI.bl
        refine ⟨fun hm => ?_, fun hm => ?_⟩
        · rcases List.mem_cons.1 hm with h | h
          · exact hx.1 h.symm
          · rcases List.mem_append.1 h with h | h
            · rcases hLi' cm h with h | h
              · exact (hf cm (by simp [h])).1 rfl
              · omega
            · exact (hf cm (by simp [h])).1 rfl
        · rcases List.mem_cons.1 hm with h | h
          · exact hx.2.1 h.symm
          · rcases List.mem_append.1 h with h | h
            · rcases hLi' b h with h | h
              · exact (hf b (by simp [h])).2.1 rfl
              · omega
            · exact (hf b (by simp [h])).2.1 rfl
      refine ⟨nx, e1, e2, L', g1, hI'.but g3 hcx.1 hcx.2, ?_, fun k hk => ?_⟩
      · have h3' : But (cm :: b :: x :: q :: g :: (Li ++ Le)) w W := hB.more (by intro k _ hk; simp at hk ⊢; rcases hk with h | h | h | h | h <;> simp [h])
        have hsz := hB.size
        refine ⟨g3.os.trans h3'.os, g3.tape.trans h3'.tape, g3.output.trans h3'.output, Nat.le_trans h3'.size g3.size, fun i hi hc => (g3.block i (Nat.lt_of_lt_of_le hi h3'.size) (fun hm => ?_)).trans (h3'.block i hi hc)⟩
        rcases List.mem_cons.1 hm with h | h
        · exact hc (by simp [h])
        · rcases List.mem_append.1 h with h | h
          · rcases hLi' i h with h | h
            · exact hc (by simp [h])
            · omega
          · exact hc (by simp [h])
      · rcases g2 k hk with rfl | g2 | g2
        · exact .inl (by simp)
        · rcases List.mem_append.1 g2 with g2 | g2
          · rcases hLi' k g2 with h | h
            · exact .inl (by simp [h])
            · exact .inr h
          · exact .inl (by simp [g2])
        · exact .inr (Nat.le_trans hB.size g2)
end
end Go.Proofs.YthjfbknmdligeaaGreat

namespace Go.Proofs.YthjfbknmdligeaaGreat
open Go Go.RowKit
set_option linter.unusedVariables false
set_option maxRecDepth 100000
set_option linter.unusedSimpArgs false

section
variable {σ : Type} {C : CpR σ} {W V w' : World} {x : Nat} {s : σ} {es Le Le' : List Nat}
theorem cpr_but (hV : But (x :: Le) W V) (h : But [x] V w') : But (x :: Le) W w' := hV.trans (h.more (by intro k _ hk; simp at hk ⊢; exact .inl hk))
theorem CpR.lnd_acc {a : Ax} {f : Fol} (hV : But (x :: Le) W V) (h : Came V w' x (C.cells s es none) C.T a f) (hset : ∀ nx, (C.cells s es none).setIfInBounds 1 (.pointer nx) = C.cells s es nx) (hok : C.ok s) (hk : C.kind s = .acc a f) (hx : x < W.heap.size) (he : C.ext s es w' Le') (hxe : x ∉ Le') (hle : ∀ k ∈ Le', k ∈ Le ∧ k < W.heap.size) : C.Land W w' x s Le := by
  obtain ⟨q, Lc, c1, c2, c3, c4⟩ := h
  rw [hset] at c1
  have hsz := hV.size
  have c4' : ∀ k ∈ Lc, W.heap.size ≤ k := fun k hk => Nat.le_trans hsz (c4 k hk)
  refine ⟨cpr_but hV c3, x :: (Lc ++ Le'), ⟨hok, es, Le', he, hxe, ?_⟩, fun k hm => by simp at hm; rcases hm with rfl | hm | hm; exact .inl rfl; exact .inr (.inr (c4' k hm)); exact .inr (.inl (hle k hm).1)⟩
  rw [hk]
  exact ⟨q, Lc, c1, c2, fun hm => absurd (c4' x hm) (by omega), (fun k hm h => by have := c4' k hm; have := (hle k h).2; omega), rfl⟩
theorem CpR.lnd_over (hV : But (x :: Le) W w') (h : Blk w' x (C.cells s es none) C.T) (hok : C.ok s) (hk : C.kind s = .over) (he : C.ext s es w' Le') (hxe : x ∉ Le') (hle : ∀ k ∈ Le', k ∈ Le) : C.Land W w' x s Le := by
  refine ⟨hV, x :: Le', ⟨hok, es, Le', he, hxe, ?_⟩, fun k hm => by simp at hm; rcases hm with rfl | hm; exact .inl rfl; exact .inr (.inl (hle k hm))⟩
  rw [hk]
  exact ⟨h, rfl⟩
theorem CpR.lnd_run0 {S : Sub} {af : After} {pt : S.τ} {y q b : Nat} {L : List Nat} (hV : But (x :: Le) W V) (hC : CameBox V w' x (C.cells s es none) C.T (fun v => comCells 0 0 0 0 0 false (.iface S.D (.pointer (some ⟨y, 0, none⟩))) v false false) (af.fol.box x) q b) (hset : ∀ nx, (C.cells s es none).setIfInBounds 1 (.pointer nx) = C.cells s es nx) (hM : S.I w' y pt L) (hL : ∀ k ∈ L, W.heap.size ≤ k) (hq : q ∉ L) (hg : b ∉ L) (hok : C.ok s) (hk : C.kind s = .run S pt af) (htie : C.tie s es y) (hx : x < W.heap.size) (he : C.ext s es w' Le') (hxe : x ∉ Le') (hle : ∀ k ∈ Le', k ∈ Le ∧ k < W.heap.size) : C.Land W w' x s Le := by
  have hsz := hV.size
  have hfq : W.heap.size ≤ q := Nat.le_trans hsz hC.at'.fresh
  have hfb : W.heap.size ≤ b := Nat.le_trans hsz hC.fresh
  refine ⟨cpr_but hV hC.at'.but, x :: q :: b :: (L ++ Le'), ⟨hok, es, Le', he, hxe, ?_⟩, fun k hm => ?_⟩
  · rw [hk]
    refine ⟨q, y, b, L, RunAt.of hC hset, hM, htie, ?_, hq, hg, fun k hm hk' => ?_, rfl⟩
    · simp only [List.mem_cons, not_or]
      exact ⟨by omega, by omega, fun hm => by have := hL x hm; omega⟩
    · simp only [List.mem_cons] at hm
      have h1 := (hle k hk').2
      rcases hm with rfl | rfl | hm
      · omega
      · omega
      · have := hL k hm; omega
  · simp only [List.mem_cons, List.mem_append] at hm
    rcases hm with rfl | rfl | rfl | hm | hm
    · exact .inl rfl
    · exact .inr (.inr hfq)
    · exact .inr (.inr hfb)
    · exact .inr (.inr (hL k hm))
    · exact .inr (.inl (hle k hm).1)
theorem CpR.lnd_run {S : Sub} {af : After} {pt : S.τ} (hV : But (x :: Le) W V) (hR : RunNew S pt V w' x (C.cells s es none) C.T (af.fol.box x)) (hset : ∀ nx, (C.cells s es none).setIfInBounds 1 (.pointer nx) = C.cells s es nx) (hok : C.ok s) (hk : C.kind s = .run S pt af) (htie : ∀ y, C.tie s es y) (hx : x < W.heap.size) (he : C.ext s es w' Le') (hxe : x ∉ Le') (hle : ∀ k ∈ Le', k ∈ Le ∧ k < W.heap.size) : C.Land W w' x s Le := by
  obtain ⟨y, q, b, L, hC, hM, hL, hq, hg⟩ := hR
  exact CpR.lnd_run0 hV hC hset hM (fun k hk => Nat.le_trans hV.size (hL k hk)) hq hg hok hk (htie y) hx he hxe hle
theorem CpR.blk' {w : World} {L : List Nat} (h : C.Here w x s es Le L (C.kind s)) : ∃ nx, Blk w x (C.cells s es nx) C.T := by
  cases hk : C.kind s with
  | over => rw [hk] at h; exact ⟨none, h.1⟩
  | acc a f => rw [hk] at h; obtain ⟨q, Lc, h1, -⟩ := h; exact ⟨_, h1⟩
  | run S q af => rw [hk] at h; obtain ⟨q1, y, g, Li, h1, -⟩ := h; exact ⟨_, h1.hx⟩
end
end Go.Proofs.YthjfbknmdligeaaGreat

namespace Go.Proofs.YthjfbknmdligeaaGreat
open Go Go.RowKit
set_option linter.unusedVariables false
set_option maxRecDepth 100000
set_option linter.unusedSimpArgs false
set_option linter.unusedSectionVars false

/-- Whether there are more threads to be had than processors that are idle. -/
def moSpares (T im th v : Int) : Bool := if 2147483648 ≤ im ∨ 2147483648 ≤ th ∨ 2147483648 ≤ v then false else decide (v < T + im - th)
section
variable (w : World) (x cl r P : Nat) (T G who : Int) (d : MoD) (h : Blk w x (moCells who none cl r P d) 98)
include h
set_option maxHeartbeats 1000000 in
theorem mo_acquire (hw : 0 ≤ who ∧ who ≤ 1000000) :
    Calls Tryz.prog 126 #[.pointer (some ⟨x, 0, none⟩)] w fun e w' => (∃ v, e = .returned v) ∧ RunNew (acqSub (wd 0 2 3 0 0) (wd 0 2 3 0 1) (wd 0 2 3 0 2) who) AcqT.fresh w w' x (moCells who none cl r P d) 98 (.func (.func 130) #[.pointer (some ⟨x, 0, none⟩)] #[]) := by
  have hlt := h.lt
  have hH : Hid (w.drew.cell? ⟨x, 2, none⟩ = some (.pointer (some ⟨cl, 0, none⟩))) := h.drew.cell 2 (v := .pointer (some ⟨cl, 0, none⟩)) rfl
  have hO := who_any w.drew x who (h.drew.cell 0 rfl)
  have hR := lock_fresh w.drew cl 0 who
  have HH : Hid (Blk w x (moCells who none cl r P d) 98) := h
  have HG : Hid (((acqSub (wd 0 2 3 0 0) (wd 0 2 3 0 1) (wd 0 2 3 0 2) who)).I.Good ((acqSub (wd 0 2 3 0 0) (wd 0 2 3 0 1) (wd 0 2 3 0 2) who)).M) := Fl.good (acq_laws _ _ _ who hw)
  clear h hw
  go_enter Tryz.func126, Tryz.ntmps126
  go_wp2_with fail
  go_region_held3 (fun X => X.cell? ⟨x, 2, none⟩ = some (.pointer (some ⟨cl, 0, none⟩))) (first | exact hH.out | assumption) (first | (go_at_call 119; refine hO.mono ?_; rintro e w3 ⟨rfl, rfl⟩) | (go_at_call 129; refine hR.mono ?_; rintro e w4 ⟨y, L, rfl, k1, k4, k5, k6, a, k7⟩; have q4 : w4.cell? ⟨x, 2, none⟩ = some (.pointer (some ⟨cl, 0, none⟩)) := (HH.out.but (But.of_below (l := []) (show Below w.heap.size w w4 from (Below.refl _ _).drew.trans k4)) (by simp)).cell 2 rfl; have hB4 : But [x] w w4 := ((But.refl [x] w).drew).trans (But.of_below k4); have hf := frun_acq w4 x y _ 98 (.func (.func 130) #[.pointer (some ⟨x, 0, none⟩)] #[]) a (HH.out.but (But.of_below (l := []) (show Below w.heap.size w w4 from (Below.refl _ _).drew.trans k4)) (by simp)) (by simp [moCells]) (.some _ _ _) (by have : w.heap.size ≤ y := k5; omega) k7) | (go_at_call 120; refine hf.mono ?_; rintro e w5 ⟨⟨v, rfl⟩, q, b, hC⟩; have q5 : w5.cell? ⟨x, 2, none⟩ = some (.pointer (some ⟨cl, 0, none⟩)) := hC.at'.own.cell 2 rfl))
  all_goals
    have k6' : ∀ k ∈ L, w.heap.size ≤ k := k6
    have HRN : Hid (RunNew (acqSub (wd 0 2 3 0 0) (wd 0 2 3 0 1) (wd 0 2 3 0 2) who) AcqT.fresh w w5 x (moCells who none cl r P d) 98 _) := RunNew.mk (S := (acqSub (wd 0 2 3 0 0) (wd 0 2 3 0 1) (wd 0 2 3 0 2) who)) (W := w) HG.out k1 k6' hlt hB4 hC
    clear hO hR hH q4 q5 hf k1 k4 k5 k6 k6' k7 hC hB4 HH HG
    go_wp2_with fail
    go_end0
    exact ⟨⟨_, rfl⟩, HRN.out⟩
theorem mo_seeRing_no (hw : 0 ≤ who ∧ who ≤ 1000000) (y : Nat) (hlk : d.lk = some ⟨y, 0, none⟩) (hE : Calls Tryz.prog 125 #[.pointer (some ⟨y, 0, none⟩)] w fun e w' => e = .returned (.bool false) ∧ w = w') :
    Calls Tryz.prog 121 #[.pointer (some ⟨x, 0, none⟩)] w fun e w' => (∃ v, e = .returned v) ∧ RunNew (acqSub (wd 0 2 3 0 0) (wd 0 2 3 0 1) (wd 0 2 3 0 2) who) AcqT.fresh w w' x (moCells who none cl r P d) 98 (.func (.func 130) #[.pointer (some ⟨x, 0, none⟩)] #[]) := by
  have H := mo_acquire w x cl r P who d h hw
  have c10 := h.cell 10 (v := .pointer d.lk) rfl
  rw [hlk] at c10
  clear h hw hlk
  go_enter Tryz.func121, Tryz.ntmps121
  go_wp2_with fail
  go_at_call 125; refine hE.mono ?_; rintro e w1 ⟨rfl, rfl⟩
  clear hE c10
  go_wp2_with fail
  go_at_call 126; refine H.mono ?_; rintro e w1 ⟨⟨u, rfl⟩, hC⟩
  clear H
  go_wp2_with fail
  refine bodyPost_ret (results_none rfl _ _ _) rfl ?_
  exact ⟨⟨_, rfl⟩, hC⟩
theorem mo_seeRing_yes (y : Nat) (hlk : d.lk = some ⟨y, 0, none⟩) (hE : Calls Tryz.prog 125 #[.pointer (some ⟨y, 0, none⟩)] w fun e w' => e = .returned (.bool true) ∧ w = w') :
    Calls Tryz.prog 121 #[.pointer (some ⟨x, 0, none⟩)] w fun e w' => (∃ v, e = .returned v) ∧ Came w w' x (moCells who none cl r P d) 98 (axLd 13) (.told 127) := by
  have H := mo_load w x cl r P who d h 13 (by omega) 127
  have c10 := h.cell 10 (v := .pointer d.lk) rfl
  rw [hlk] at c10
  clear h hlk
  go_enter Tryz.func121, Tryz.ntmps121
  go_wp2_with fail
  go_at_call 125; refine hE.mono ?_; rintro e w1 ⟨rfl, rfl⟩
  clear hE c10
  go_wp2_with fail
  go_at_call 62; refine H.mono ?_; rintro e w1 ⟨⟨u, rfl⟩, hC⟩
  clear H
  go_wp2_with fail
  go_end0
  exact ⟨⟨_, rfl⟩, hC⟩
theorem mo_loadIdleMs :
    Calls Tryz.prog 130 #[.pointer (some ⟨x, 0, none⟩)] w fun e w' => (∃ v, e = .returned v) ∧ Came w w' x (moCells who none cl r P d) 98 (axLd 12) (.told 138) := by
  have H := mo_load w x cl r P who d h 12 (by omega) 138
  clear h
  go_enter Tryz.func130, Tryz.ntmps130
  go_wp2_with fail
  go_at_call 62; refine H.mono ?_; rintro e w1 ⟨⟨u, rfl⟩, hC⟩
  clear H
  go_wp2_with fail
  go_end0
  exact ⟨⟨_, rfl⟩, hC⟩
theorem mo_seeSpinning (v : Int) :
    Calls Tryz.prog 127 #[.pointer (some ⟨x, 0, none⟩), .int .u64 v] w fun e w' => (∃ v, e = .returned v) ∧ ∃ V, But [x] w V ∧ Came V w' x (moCells who none cl r P { d with sp := v }) 98 (axLd 10) (.told 131) := by
  have c11 := h.cell 11 (v := .int .u64 d.sp) rfl
  have f11 := h.fro 11
  obtain ⟨V, hV⟩ : ∃ V, (w.setCell ⟨x, 11, none⟩ (.int .u64 v)) = V := ⟨_, rfl⟩
  have h' : Blk V x (moCells who none cl r P { d with sp := v }) 98 := by rw [← hV]; exact h.set 11 (.int .u64 v)
  have HB : Hid (But [x] w V) := by rw [← hV]; exact (But.refl [x] w).set (g := x) (.inl (by simp)) 11 _
  have H := mo_load V x cl r P who _ h' 10 (by omega) 131
  have HV : Hid _ := hV
  clear h hV h'
  go_enter Tryz.func127, Tryz.ntmps127
  go_wp2_with fail
  rw [HV.out]
  clear HV
  go_at_call 62; refine H.mono ?_; rintro e w1 ⟨⟨u, rfl⟩, hC⟩
  clear H
  go_wp2_with fail
  go_end0
  exact ⟨⟨_, rfl⟩, V, HB.out, hC⟩
theorem mo_seeIdleMs (v : Int) :
    Calls Tryz.prog 138 #[.pointer (some ⟨x, 0, none⟩), .int .u64 v] w fun e w' => (∃ v, e = .returned v) ∧ ∃ V, But [x] w V ∧ Came V w' x (moCells who none cl r P { d with im := v }) 98 (axLd 15) (.told 142) := by
  have c12 := h.cell 12 (v := .int .u64 d.im) rfl
  have f12 := h.fro 12
  obtain ⟨V, hV⟩ : ∃ V, (w.setCell ⟨x, 12, none⟩ (.int .u64 v)) = V := ⟨_, rfl⟩
  have h' : Blk V x (moCells who none cl r P { d with im := v }) 98 := by rw [← hV]; exact h.set 12 (.int .u64 v)
  have HB : Hid (But [x] w V) := by rw [← hV]; exact (But.refl [x] w).set (g := x) (.inl (by simp)) 12 _
  have H := mo_load V x cl r P who _ h' 15 (by omega) 142
  have HV : Hid _ := hV
  clear h hV h'
  go_enter Tryz.func138, Tryz.ntmps138
  go_wp2_with fail
  rw [HV.out]
  clear HV
  go_at_call 62; refine H.mono ?_; rintro e w1 ⟨⟨u, rfl⟩, hC⟩
  clear H
  go_wp2_with fail
  go_end0
  exact ⟨⟨_, rfl⟩, V, HB.out, hC⟩
theorem mo_seeThreads (v : Int) :
    Calls Tryz.prog 142 #[.pointer (some ⟨x, 0, none⟩), .int .u64 v] w fun e w' => (∃ v, e = .returned v) ∧ ∃ V, But [x] w V ∧ Came V w' x (moCells who none cl r P { d with th := v }) 98 (axLd 10) (.told 144) := by
  have c13 := h.cell 13 (v := .int .u64 d.th) rfl
  have f13 := h.fro 13
  obtain ⟨V, hV⟩ : ∃ V, (w.setCell ⟨x, 13, none⟩ (.int .u64 v)) = V := ⟨_, rfl⟩
  have h' : Blk V x (moCells who none cl r P { d with th := v }) 98 := by rw [← hV]; exact h.set 13 (.int .u64 v)
  have HB : Hid (But [x] w V) := by rw [← hV]; exact (But.refl [x] w).set (g := x) (.inl (by simp)) 13 _
  have H := mo_load V x cl r P who _ h' 10 (by omega) 144
  have HV : Hid _ := hV
  clear h hV h'
  go_enter Tryz.func142, Tryz.ntmps142
  go_wp2_with fail
  rw [HV.out]
  clear HV
  go_at_call 62; refine H.mono ?_; rintro e w1 ⟨⟨u, rfl⟩, hC⟩
  clear H
  go_wp2_with fail
  go_end0
  exact ⟨⟨_, rfl⟩, V, HB.out, hC⟩
theorem mo_spares (v : Int) (hl : Lay w cl P T G) (hT : 0 ≤ T ∧ T ≤ 65536) (hi : 0 ≤ d.im ∧ d.im ≤ 18446744073709551615) (ht : 0 ≤ d.th ∧ d.th ≤ 18446744073709551615) (hv : 0 ≤ v ∧ v ≤ 18446744073709551615) :
    Calls Tryz.prog 145 #[.pointer (some ⟨x, 0, none⟩), .int .u64 v] w fun e w' => e = .returned (.bool (moSpares T d.im d.th v)) ∧ Below w.heap.size w w' := by
  have c12 := h.cell 12 (v := .int .u64 d.im) rfl
  have c13 := h.cell 13 (v := .int .u64 d.th) rfl
  by_cases h1 : 2147483648 ≤ d.im
  · have e : moSpares T d.im d.th v = false := if_pos (.inl h1)
    rw [e]
    have d1 : decide (2147483648 ≤ d.im) = true := decide_eq_true h1
    clear h hl hT hi ht hv e h1
    go_enter Tryz.func145, Tryz.ntmps145
    go_wp2_with fail
    go_returns
    exact ⟨rfl, Below.refl _ _⟩
  have d1 : decide (2147483648 ≤ d.im) = false := decide_eq_false h1
  by_cases h2 : 2147483648 ≤ d.th
  · have e : moSpares T d.im d.th v = false := if_pos (.inr (.inl h2))
    rw [e]
    have d2 : decide (2147483648 ≤ d.th) = true := decide_eq_true h2
    clear h hl hT hi ht hv e h1 h2
    go_enter Tryz.func145, Tryz.ntmps145
    go_wp2_with fail
    go_returns
    exact ⟨rfl, Below.refl _ _⟩
  have d2 : decide (2147483648 ≤ d.th) = false := decide_eq_false h2
  by_cases h3 : 2147483648 ≤ v
  · have e : moSpares T d.im d.th v = false := if_pos (.inr (.inr h3))
    rw [e]
    have d3 : decide (2147483648 ≤ v) = true := decide_eq_true h3
    clear h hl hT hi ht hv e h1 h2 h3
    go_enter Tryz.func145, Tryz.ntmps145
    go_wp2_with fail
    go_returns
    exact ⟨rfl, Below.refl _ _⟩
  have d3 : decide (2147483648 ≤ v) = false := decide_eq_false h3
  have e : moSpares T d.im d.th v = decide (v < T + d.im - d.th) := if_neg (fun h => by rcases h with h | h | h; exact h1 h; exact h2 h; exact h3 h)
  rw [e]
  have c2 := h.cell 2 (v := .pointer (some ⟨cl, 0, none⟩)) rfl
  have hC := config_any (some ⟨cl, 0, none⟩) P T G w.drew (.some cl (hl.below ((Below.refl _ _).drew) hl.lt))
  have fc1 := field_c1
  have w1 : IntKind.i64.wrap d.im = d.im := by simp [IntKind.wrap, IntKind.bits, IntKind.signed]; omega
  have w2 : IntKind.i64.wrap d.th = d.th := by simp [IntKind.wrap, IntKind.bits, IntKind.signed]; omega
  have w3 : IntKind.i64.wrap v = v := by simp [IntKind.wrap, IntKind.bits, IntKind.signed]; omega
  have w4 : IntKind.i64.wrap (T + d.im) = T + d.im := by simp [IntKind.wrap, IntKind.bits, IntKind.signed]; omega
  have w5 : IntKind.i64.wrap (T + d.im - d.th) = T + d.im - d.th := by simp [IntKind.wrap, IntKind.bits, IntKind.signed]; omega
  have hH : Hid (w.drew.cell? ⟨x, 2, none⟩ = some (.pointer (some ⟨cl, 0, none⟩)) ∧ w.drew.cell? ⟨x, 12, none⟩ = some (.int .u64 d.im) ∧ w.drew.cell? ⟨x, 13, none⟩ = some (.int .u64 d.th) ∧ Below w.heap.size w w.drew) := ⟨h.drew.cell 2 rfl, h.drew.cell 12 rfl, h.drew.cell 13 rfl, (Below.refl _ _).drew⟩
  have KEEP : Hid (∀ X w' : World, (X.cell? ⟨x, 2, none⟩ = some (.pointer (some ⟨cl, 0, none⟩)) ∧ X.cell? ⟨x, 12, none⟩ = some (.int .u64 d.im) ∧ X.cell? ⟨x, 13, none⟩ = some (.int .u64 d.th) ∧ Below w.heap.size w X) → Below X.heap.size X w' → (w'.cell? ⟨x, 2, none⟩ = some (.pointer (some ⟨cl, 0, none⟩)) ∧ w'.cell? ⟨x, 12, none⟩ = some (.int .u64 d.im) ∧ w'.cell? ⟨x, 13, none⟩ = some (.int .u64 d.th) ∧ Below w.heap.size w w')) := fun X w' hs hb => by
    have hx := cell_lt hs.1
    exact ⟨(hb.cell (p := ⟨x, 2, none⟩) hx).trans hs.1, (hb.cell (p := ⟨x, 12, none⟩) hx).trans hs.2.1, (hb.cell (p := ⟨x, 13, none⟩) hx).trans hs.2.2.1, seq hs.2.2.2 hb⟩
  clear h hl hT hi ht hv e h1 h2 h3
  go_enter Tryz.func145, Tryz.ntmps145
  go_wp2_with fail
  go_region_held3 (fun w' => w'.cell? ⟨x, 2, none⟩ = some (.pointer (some ⟨cl, 0, none⟩)) ∧ w'.cell? ⟨x, 12, none⟩ = some (.int .u64 d.im) ∧ w'.cell? ⟨x, 13, none⟩ = some (.int .u64 d.th) ∧ Below w.heap.size w w') (first | exact hH.out | assumption | exact KEEP.out _ _ ‹_› ‹_›) (first | (go_at_call 37; refine hC.mono ?_; rintro e w3 ⟨rfl, h3⟩))
  all_goals
    rename_i hS
    have hF : Hid _ := hS.2.2.2
    clear hS hH KEEP hC
    go_wp2_with fail
    go_ret
    exact ⟨rfl, hF.out⟩
theorem mo_take (hl : Lay w cl P T G) (hp : (P : Int) ≤ 64) :
    Calls Tryz.prog 146 #[.pointer (some ⟨x, 0, none⟩)] w fun e w' => (∃ v, e = .returned v) ∧ Came w w' x (moCells who none cl r P d) 98 (moAx P d.p .sw) (moFol .sw) := by
  have H := mo_proc w.drew x cl r P T G who d h.drew hl hp 0 (by omega)
  have HH : Hid (Blk w x (moCells who none cl r P d) 98) := h
  clear h hl hp
  show Calls _ _ _ _ fun e w' => (∃ v, e = .returned v) ∧ Came w w' x (moCells who none cl r P d) 98 (axSw (wd 20 P 264 d.p 0) 2 0) (.swap 149)
  generalize wd 20 P 264 d.p 0 = i at *
  go_enter Tryz.func146, Tryz.ntmps146
  go_wp2_with fail
  go_region_with (first | (go_at_call 99; refine H.mono ?_; rintro e w1 ⟨rfl, h1⟩; have H2 := came_swap w1 x _ 98 (HH.out.but (But.of_below (l := []) (show Below w.heap.size w w1 from (Below.refl _ _).drew.trans h1)) (by simp)) (by simp [moCells]) i 2 0 149) | (go_at_call 148; refine H2.mono ?_; rintro e w3 ⟨⟨v, rfl⟩, hC⟩))
  all_goals
    have hB1 : But [x] w w1 := But.of_below ((Below.refl _ _).drew.trans h1)
    have hC2 := hC.before hB1
    clear H H2 hC h1
    go_wp2_with fail
    go_end0
    exact ⟨⟨_, rfl⟩, hC2⟩
theorem mo_handOver (v : Int) (y : Nat) (a : Addr) (ho : d.ov = some ⟨y, 0, none⟩) (hyx : y ≠ x) (hy : w.cell? ⟨y, 1, none⟩ = some (.pointer (some a))) :
    Calls Tryz.prog 153 #[.pointer (some ⟨x, 0, none⟩), .int .u64 v] w fun e w' => (∃ v, e = .returned v) ∧ ∃ q b, CameBox w w' x (moCells who none cl r P d) 98 (fun v => comCells 0 0 0 0 0 false (.iface 96 (.pointer (some ⟨y, 0, none⟩))) v false false) (.func (.func 100) #[.pointer (some ⟨x, 0, none⟩)] #[]) q b := by
  have c14 := h.cell 14 (v := .pointer d.ov) rfl
  rw [ho] at c14
  have hf := frun_over w.drew x y _ 98 (.func (.func 100) #[.pointer (some ⟨x, 0, none⟩)] #[]) a h.drew (by simp [moCells]) (.some _ _ _) hyx (by simpa using hy)
  clear h ho hyx hy
  go_enter Tryz.func153, Tryz.ntmps153
  go_wp2_with fail
  go_region_with (first | (go_at_call 120; refine hf.mono ?_; rintro e w5 ⟨⟨v, rfl⟩, q, b, hC⟩))
  all_goals
    have hC6 := hC.before ((But.refl [x] w).drew)
    clear hf hC c14
    go_wp2_with fail
    go_end0
    exact ⟨⟨_, rfl⟩, q, b, hC6⟩
end
end Go.Proofs.YthjfbknmdligeaaGreat

namespace Go.Proofs.YthjfbknmdligeaaGreat
open Go Go.RowKit
set_option linter.unusedVariables false
set_option maxRecDepth 100000
set_option linter.unusedSimpArgs false
set_option linter.unusedSectionVars false

def moCallsRow (d : MoD) (v : Int) : MoD := { d with f := upd (upd d.f (d.p * 4 + 2) v) (d.p * 4 + 3) d.nw }
section
variable (w : World) (x cl r P : Nat) (T G who : Int) (d : MoD) (h : Blk w x (moCells who none cl r P d) 98) (hr : RwAt w r (4 * P) d.f) (hl : Lay w cl P T G) (hcx : cl ≠ x) (hcr : cl ≠ r) (hxr : x ≠ r) (hp : (P : Int) ≤ 64)
include h hr hl hcx hcr hxr hp
set_option maxHeartbeats 4000000 in
theorem mo_seeCalls_next (v : Int) (hd : d.p < P) (hlt : d.lt = false) (ht : v ≠ d.f (d.p * 4 + 2)) :
    Calls Tryz.prog 117 #[.pointer (some ⟨x, 0, none⟩), .int .u64 v] w fun e w' => (∃ v, e = .returned v) ∧ MoLand who cl r P w w' x (moVisit P (moCallsRow d v) (d.p + 1)) := by
  have c3 := h.cell 3 (v := .slice (some ⟨r, 0, none⟩) P P) rfl
  have c7 := h.cell 7 (v := .int .i64 d.p) rfl
  have hpp : d.p < 64 := by omega
  have i1 : (d.p : Int) < (P : Int) := by omega
  have i0 : (0 : Int) ≤ (d.p : Int) := by omega
  have hne : r ≠ x := fun e => hxr e.symm
  have HH : Hid (Blk w x (moCells who none cl r P d) 98 ∧ RwAt w r (4 * P) d.f ∧ Lay w cl P T G) := ⟨h, hr, hl⟩
  have HK : Hid (cl ≠ x ∧ cl ≠ r ∧ x ≠ r ∧ (P : Int) ≤ 64 ∧ d.p < P ∧ d.p < 64) := ⟨hcx, hcr, hxr, hp, hd, hpp⟩
  have HLT : Hid (d.lt = false) := hlt
  have d1 : (v != d.f (d.p * 4 + 2)) = true := by simpa using ht
  clear h hr hl hcx hcr hxr hp hpp ht hlt
  go_enter Tryz.func117, Tryz.ntmps117
  go_wp2_with fail
  go_quiet (fail)
  have HW : Hid (Blk (w.drewN nq) x (moCells who none cl r P d) 98 ∧ RwAt (w.drewN nq) r (4 * P) d.f ∧ Lay (w.drewN nq) cl P T G ∧ But [x] w (w.drewN nq)) := ⟨HH.out.1.drewN _, HH.out.2.1, HH.out.2.2, (But.refl _ _).drewN _⟩
  clear HH c3 c7
  generalize w.drewN nq = w0 at *
  have c6 := HW.out.1.cell 6 (v := .int .u64 d.nw) rfl
  have c9 := HW.out.1.cell 9 (v := .bool d.lt) rfl
  rw [HLT.out] at c9
  have r0 := HW.out.2.1.cell (i := d.p * 4 + 2) (by omega)
  have r1 := HW.out.2.1.cell (i := d.p * 4 + 3) (by omega)
  have q0 := HW.out.2.1.fro (d.p * 4 + 2)
  have q1 := HW.out.2.1.fro (d.p * 4 + 3)
  obtain ⟨V, hV⟩ : ∃ V, ((w0.setCell ⟨r, d.p * 4 + 2, none⟩ (.int .u64 v)).setCell ⟨r, d.p * 4 + 3, none⟩ (.int .u64 d.nw)) = V := ⟨_, rfl⟩
  have hB1 : But [r] w0 V := by rw [← hV]; exact ((But.refl _ _).set (g := r) (.inl (by simp)) _ _).set (g := r) (.inl (by simp)) _ _
  have h' : Blk V x (moCells who none cl r P (moCallsRow d v)) 98 := by rw [← hV]; exact (HW.out.1.setne hne.symm _ _).setne hne.symm _ _
  have hr' : RwAt V r (4 * P) (moCallsRow d v).f := by rw [← hV]; exact (HW.out.2.1.set (by omega) _).set (by omega) _
  have hl' : Lay V cl P T G := (hB1.block cl HW.out.2.2.1.lt (by simp; exact HK.out.2.1)).trans HW.out.2.2.1
  have H := mo_next V x cl r P T G who _ h' hr' hl' HK.out.1 HK.out.2.1 HK.out.2.2.1 HK.out.2.2.2.1 HK.out.2.2.2.2.2
  have HV : Hid _ := hV
  have HF : Hid (But [x, r] w V) := (HW.out.2.2.2.more (by intro k _ hk; simp at hk ⊢; exact .inl hk)).trans (hB1.more (by intro k _ hk; simp at hk ⊢; exact .inr hk))
  clear hV hB1 h' hr' hl' HW HLT
  go_wp2_with fail
  rw [HV.out]
  clear HV c6 c9 r0 r1 q0 q1
  go_at_call 100; refine H.mono ?_; rintro e w1 ⟨⟨u, rfl⟩, hC⟩
  clear H
  go_wp2_with fail
  refine bodyPost_ret (results_none rfl _ _ _) rfl ?_
  exact ⟨⟨_, rfl⟩, hC.before HF.out⟩
set_option maxHeartbeats 8000000 in
theorem mo_seeCalls_look (v : Int) (hd : d.p < P) (hc : d.lt = true ∨ (d.lt = false ∧ v = d.f (d.p * 4 + 2))) :
    Calls Tryz.prog 117 #[.pointer (some ⟨x, 0, none⟩), .int .u64 v] w fun e w' => (∃ v, e = .returned v) ∧ HvHeld (hvLk who P T G d.p cl) LoT.hd w w' x (fun y => moCells who none cl r P { d with lk := some ⟨y, 0, none⟩ }) 98 (.func (.func 121) #[.pointer (some ⟨x, 0, none⟩)] #[]) := by
  have c3 := h.cell 3 (v := .slice (some ⟨r, 0, none⟩) P P) rfl
  have c7 := h.cell 7 (v := .int .i64 d.p) rfl
  have i1 : (d.p : Int) < (P : Int) := by omega
  have i0 : (0 : Int) ≤ (d.p : Int) := by omega
  have hlt := h.lt
  have HH : Hid (Blk w x (moCells who none cl r P d) 98 ∧ RwAt w r (4 * P) d.f ∧ Lay w cl P T G) := ⟨h, hr, hl⟩
  have HP : Hid ((0 : Int) ≤ (P : Int) ∧ (P : Int) ≤ 64) := ⟨by omega, hp⟩
  clear h hr hl hcx hcr hxr hp
  rcases hc with hz | ⟨hz, hz2⟩
  all_goals
    go_enter Tryz.func117, Tryz.ntmps117
    go_wp2_with fail
    go_quiet (fail)
    have HW : Hid (Blk (w.drewN nq) x (moCells who none cl r P d) 98 ∧ RwAt (w.drewN nq) r (4 * P) d.f ∧ Lay (w.drewN nq) cl P T G ∧ But [x] w (w.drewN nq)) := ⟨HH.out.1.drewN _, HH.out.2.1, HH.out.2.2, (But.refl _ _).drewN _⟩
    clear HH c3 c7
    generalize hw0 : w.drewN nq = w0 at *
    have hlt0 : x < w0.heap.size := by rw [← hw0]; exact hlt
    clear hw0
    have c9 := HW.out.1.cell 9 (v := .bool d.lt) rfl
    rw [hz] at c9
    have r0 := HW.out.2.1.cell (i := d.p * 4 + 2) (by omega)
    have d1 : (d.f (d.p * 4 + 2) != d.f (d.p * 4 + 2)) = false := by simp
    try subst hz2
    clear hz
    have h := HW.out.1
    have hO := who_any w0.drew x who (h.drew.cell 0 rfl)
    have hN := lo_new w0.drew cl P T G who d.p HW.out.2.2.1 HP.out
    have HG : Hid (((loFl who d.p cl).I (loPM P d.p)).Good (loPM P d.p)) := Fl.good (lo_laws who P T G d.p cl HP.out)
    have hH : Hid (w0.drew.cell? ⟨x, 2, none⟩ = some (.pointer (some ⟨cl, 0, none⟩)) ∧ w0.drew.cell? ⟨x, 7, none⟩ = some (.int .i64 d.p)) := ⟨h.drew.cell 2 rfl, h.drew.cell 7 rfl⟩
    have KB : Hid (∀ w4, Below w0.drew.heap.size w0.drew w4 → w4.cell? ⟨x, 2, none⟩ = some (.pointer (some ⟨cl, 0, none⟩)) ∧ w4.cell? ⟨x, 7, none⟩ = some (.int .i64 d.p)) := fun w4 k => ⟨(HW.out.1.drew.but (But.of_below (l := []) k) (by simp)).cell 2 rfl, (HW.out.1.drew.but (But.of_below (l := []) k) (by simp)).cell 7 rfl⟩
    have HST : Hid (∀ (X : World) (u : Value), Blk X x (moCells who none cl r P d) 98 → (X.setCell ⟨x, 10, none⟩ u).cell? ⟨x, 2, none⟩ = some (.pointer (some ⟨cl, 0, none⟩)) ∧ (X.setCell ⟨x, 10, none⟩ u).cell? ⟨x, 7, none⟩ = some (.int .i64 d.p)) := fun X u h => ⟨(h.set 10 u).cell 2 rfl, (h.set 10 u).cell 7 rfl⟩
    clear h
    go_wp2_with fail
    clear c9 r0 d1
    go_region_held3 (fun w' => w'.cell? ⟨x, 2, none⟩ = some (.pointer (some ⟨cl, 0, none⟩)) ∧ w'.cell? ⟨x, 7, none⟩ = some (.int .i64 d.p)) (first | exact hH.out | exact HST.out _ _ ‹_› | exact KB.out _ ‹_›) (first | (go_at_call 119; refine hO.mono ?_; rintro e w3 ⟨rfl, rfl⟩) | (go_at_call 118; refine hN.mono ?_; rintro e w4 ⟨y, L, rfl, k1, k2, k3, k4⟩; have h4 : Blk w4 x (moCells who none cl r P d) 98 := HW.out.1.but (But.of_below (l := []) (show Below w0.heap.size w0 w4 from (Below.refl _ _).drew.trans k2)) (by simp); have c8 := h4.cell 10 (v := .pointer d.lk) rfl; have f8 := h4.fro 10; have l8 := h4.lt))
    all_goals
      have k3' : ∀ k ∈ L, w0.heap.size ≤ k := k3
      have k4' : w0.heap.size ≤ y := k4
      have hB4 : But [x] w0 (w4.setCell ⟨x, 10, none⟩ (.pointer (some ⟨y, 0, none⟩))) := (((But.refl [x] w0).drew).trans (But.of_below k2)).set (g := x) (.inl (by simp)) 10 _
      have h5 : Blk (w4.setCell ⟨x, 10, none⟩ (.pointer (some ⟨y, 0, none⟩))) x (moCells who none cl r P { d with lk := some ⟨y, 0, none⟩ }) 98 := h4.set 10 _
      have hI5 : (loFl who d.p cl).I (loPM P d.p) (w4.setCell ⟨x, 10, none⟩ (.pointer (some ⟨y, 0, none⟩))) y .hd L := HG.out.keep k1 ((But.refl [x] w4).set (g := x) (.inl (by simp)) 10 _) (fun k hk => by have := k3' k hk; simp; omega)
      generalize (w4.setCell ⟨x, 10, none⟩ (.pointer (some ⟨y, 0, none⟩))) = V at *
      obtain ⟨a, ha⟩ : ∃ a, V.cell? ⟨y, 1, none⟩ = some (.pointer (some a)) := by
        obtain ⟨nx, q1, q2⟩ := HG.out.next hI5
        cases nx with
        | none => cases q2
        | some a => exact ⟨a, q1⟩
      have c8' := h5.cell 10 (v := .pointer (some ⟨y, 0, none⟩)) rfl
      have hf := frun_look V.drew x y _ 98 (.func (.func 121) #[.pointer (some ⟨x, 0, none⟩)] #[]) a h5.drew (by simp [moCells]) (.some _ _ _) (by omega) (by simpa using ha)
      clear hO hN k1 k2 k3 k4 h4 c8 f8 l8 hH KB HST
      go_wp2_with fail
      go_region_with (first | (go_at_call 120; refine hf.mono ?_; rintro e w5 ⟨⟨v, rfl⟩, q, b, hC⟩))
      all_goals
        have hlL := HG.out.lt hI5
        have f1 : V.heap.size ≤ q := hC.at'.fresh
        have f2 : V.heap.size ≤ b := hC.fresh
        have hI6 := HG.out.keep hI5 (((But.refl [x] V).drew).trans hC.at'.but) (fun k hk => by have := k3' k hk; simp; omega)
        have hC6 := (hC.before ((But.refl [x] V).drew |> hB4.trans)).before HW.out.2.2.2
        have hq : q ∉ L ∧ b ∉ L := ⟨fun hm => by have := hlL q hm; omega, fun hm => by have := hlL b hm; omega⟩
        have hszB := HW.out.2.2.2.size
        clear hf hC c8' hB4 h5 hI5 HG HW
        go_wp2_with fail
        go_end0
        exact ⟨⟨_, rfl⟩, y, q, b, L, hC6, hI6, (fun k hk => Nat.le_trans hszB (k3' k hk)), hq.1, hq.2⟩
/-- Whether it leaves the call some time, where others could do what comes. -/
def moWaits (d : MoD) (v : Int) : Bool := decide ((d.sp ≠ 0 ∨ v ≠ 0) ∧ (d.nw - d.f (d.p * 4 + 3)) % 4294967296 < 10)
set_option maxHeartbeats 4000000 in
theorem mo_weigh_nextS (v : Int) (hd : d.p < P) (hf : ∀ i, 0 ≤ d.f i ∧ d.f i ≤ 18446744073709551615) (hn : 0 ≤ d.nw ∧ d.nw ≤ 18446744073709551615) (hw : 0 ≤ who ∧ who ≤ 1000000) (hs : d.sp ≠ 0) (hm : (d.nw - d.f (d.p * 4 + 3)) % 4294967296 < 10) :
    Calls Tryz.prog 131 #[.pointer (some ⟨x, 0, none⟩), .int .u64 v] w fun e w' => (∃ v, e = .returned v) ∧ MoLand who cl r P w w' x (moVisit P d (d.p + 1)) := by
  have c3 := h.cell 3 (v := .slice (some ⟨r, 0, none⟩) P P) rfl
  have c6 := h.cell 6 (v := .int .u64 d.nw) rfl
  have c7 := h.cell 7 (v := .int .i64 d.p) rfl
  have c11 := h.cell 11 (v := .int .u64 d.sp) rfl
  have r3 := hr.cell (i := d.p * 4 + 3) (by omega)
  have hpp : d.p < 64 := by omega
  have i1 : (d.p : Int) < (P : Int) := by omega
  have i0 : (0 : Int) ≤ (d.p : Int) := by omega
  have HH : Hid (Blk w x (moCells who none cl r P d) 98 ∧ RwAt w r (4 * P) d.f ∧ Lay w cl P T G) := ⟨h, hr, hl⟩
  have HK : Hid (cl ≠ x ∧ cl ≠ r ∧ x ≠ r ∧ (P : Int) ≤ 64 ∧ d.p < P ∧ d.p < 64) := ⟨hcx, hcr, hxr, hp, hd, hpp⟩
  have HWH : Hid (0 ≤ who ∧ who ≤ 1000000) := hw
  have HM : Hid (∀ W, Calls Tryz.prog 113 #[.int .u64 (d.f (d.p * 4 + 3)), .int .u64 d.nw] W fun e w' => e = .returned (.int .u64 ((d.nw - d.f (d.p * 4 + 3)) % 4294967296)) ∧ w' = W) := fun W => (mny_any (d.f (d.p * 4 + 3)) d.nw W (hf _) hn).mono fun _ _ h => ⟨h.1, h.2.symm⟩
  clear h hr hl hcx hcr hxr hp hf hn hpp hw
  generalize (d.nw - d.f (d.p * 4 + 3)) % 4294967296 = mm at *
  have e1 : (d.sp != 0) = true := by simpa using hs
  have e3 : decide (mm < 10) = true := decide_eq_true hm
  clear hs hm
  go_enter Tryz.func131, Tryz.ntmps131
  go_wp2_with fail
  go_quiet (first | (go_at_call 113; exact Calls.quiet_of_same (HM.out _)))
  have HW : Hid (Blk (w.drewN nq) x (moCells who none cl r P d) 98 ∧ RwAt (w.drewN nq) r (4 * P) d.f ∧ Lay (w.drewN nq) cl P T G ∧ But [x] w (w.drewN nq)) := ⟨HH.out.1.drewN _, HH.out.2.1, HH.out.2.2, (But.refl _ _).drewN _⟩
  clear HH c3 c6 c7 c11 r3 HM
  generalize w.drewN nq = w0 at *
  have H := mo_next w0 x cl r P T G who d HW.out.1 HW.out.2.1 HW.out.2.2.1 HK.out.1 HK.out.2.1 HK.out.2.2.1 HK.out.2.2.2.1 HK.out.2.2.2.2.2
  go_wp2_with fail
  go_at_call 100; refine H.mono ?_; rintro e w1 ⟨⟨u, rfl⟩, hC⟩
  clear H
  go_wp2_with fail
  refine bodyPost_ret (results_none rfl _ _ _) rfl ?_
  exact ⟨⟨_, rfl⟩, hC.before (HW.out.2.2.2.more (by intro k _ hk; simp at hk ⊢; exact .inl hk))⟩
set_option maxHeartbeats 4000000 in
theorem mo_weigh_nextV (v : Int) (hd : d.p < P) (hf : ∀ i, 0 ≤ d.f i ∧ d.f i ≤ 18446744073709551615) (hn : 0 ≤ d.nw ∧ d.nw ≤ 18446744073709551615) (hw : 0 ≤ who ∧ who ≤ 1000000) (hs : d.sp = 0) (hv : v ≠ 0) (hm : (d.nw - d.f (d.p * 4 + 3)) % 4294967296 < 10) :
    Calls Tryz.prog 131 #[.pointer (some ⟨x, 0, none⟩), .int .u64 v] w fun e w' => (∃ v, e = .returned v) ∧ MoLand who cl r P w w' x (moVisit P d (d.p + 1)) := by
  have c3 := h.cell 3 (v := .slice (some ⟨r, 0, none⟩) P P) rfl
  have c6 := h.cell 6 (v := .int .u64 d.nw) rfl
  have c7 := h.cell 7 (v := .int .i64 d.p) rfl
  have c11 := h.cell 11 (v := .int .u64 d.sp) rfl
  have r3 := hr.cell (i := d.p * 4 + 3) (by omega)
  have hpp : d.p < 64 := by omega
  have i1 : (d.p : Int) < (P : Int) := by omega
  have i0 : (0 : Int) ≤ (d.p : Int) := by omega
  have HH : Hid (Blk w x (moCells who none cl r P d) 98 ∧ RwAt w r (4 * P) d.f ∧ Lay w cl P T G) := ⟨h, hr, hl⟩
  have HK : Hid (cl ≠ x ∧ cl ≠ r ∧ x ≠ r ∧ (P : Int) ≤ 64 ∧ d.p < P ∧ d.p < 64) := ⟨hcx, hcr, hxr, hp, hd, hpp⟩
  have HWH : Hid (0 ≤ who ∧ who ≤ 1000000) := hw
  have HM : Hid (∀ W, Calls Tryz.prog 113 #[.int .u64 (d.f (d.p * 4 + 3)), .int .u64 d.nw] W fun e w' => e = .returned (.int .u64 ((d.nw - d.f (d.p * 4 + 3)) % 4294967296)) ∧ w' = W) := fun W => (mny_any (d.f (d.p * 4 + 3)) d.nw W (hf _) hn).mono fun _ _ h => ⟨h.1, h.2.symm⟩
  clear h hr hl hcx hcr hxr hp hf hn hpp hw
  generalize (d.nw - d.f (d.p * 4 + 3)) % 4294967296 = mm at *
  rw [hs] at c11
  have e2 : (v != 0) = true := by simpa using hv
  have e3 : decide (mm < 10) = true := decide_eq_true hm
  clear hs hv hm
  go_enter Tryz.func131, Tryz.ntmps131
  go_wp2_with fail
  go_quiet (first | (go_at_call 113; exact Calls.quiet_of_same (HM.out _)))
  have HW : Hid (Blk (w.drewN nq) x (moCells who none cl r P d) 98 ∧ RwAt (w.drewN nq) r (4 * P) d.f ∧ Lay (w.drewN nq) cl P T G ∧ But [x] w (w.drewN nq)) := ⟨HH.out.1.drewN _, HH.out.2.1, HH.out.2.2, (But.refl _ _).drewN _⟩
  clear HH c3 c6 c7 c11 r3 HM
  generalize w.drewN nq = w0 at *
  have H := mo_next w0 x cl r P T G who d HW.out.1 HW.out.2.1 HW.out.2.2.1 HK.out.1 HK.out.2.1 HK.out.2.2.1 HK.out.2.2.2.1 HK.out.2.2.2.2.2
  go_wp2_with fail
  go_at_call 100; refine H.mono ?_; rintro e w1 ⟨⟨u, rfl⟩, hC⟩
  clear H
  go_wp2_with fail
  refine bodyPost_ret (results_none rfl _ _ _) rfl ?_
  exact ⟨⟨_, rfl⟩, hC.before (HW.out.2.2.2.more (by intro k _ hk; simp at hk ⊢; exact .inl hk))⟩
set_option maxHeartbeats 4000000 in
theorem mo_weigh_acqS (v : Int) (hd : d.p < P) (hf : ∀ i, 0 ≤ d.f i ∧ d.f i ≤ 18446744073709551615) (hn : 0 ≤ d.nw ∧ d.nw ≤ 18446744073709551615) (hw : 0 ≤ who ∧ who ≤ 1000000) (hs : d.sp ≠ 0) (hm : ¬ (d.nw - d.f (d.p * 4 + 3)) % 4294967296 < 10) :
    Calls Tryz.prog 131 #[.pointer (some ⟨x, 0, none⟩), .int .u64 v] w fun e w' => (∃ v, e = .returned v) ∧ RunNew (acqSub (wd 0 2 3 0 0) (wd 0 2 3 0 1) (wd 0 2 3 0 2) who) AcqT.fresh w w' x (moCells who none cl r P d) 98 (.func (.func 130) #[.pointer (some ⟨x, 0, none⟩)] #[]) := by
  have c3 := h.cell 3 (v := .slice (some ⟨r, 0, none⟩) P P) rfl
  have c6 := h.cell 6 (v := .int .u64 d.nw) rfl
  have c7 := h.cell 7 (v := .int .i64 d.p) rfl
  have c11 := h.cell 11 (v := .int .u64 d.sp) rfl
  have r3 := hr.cell (i := d.p * 4 + 3) (by omega)
  have hpp : d.p < 64 := by omega
  have i1 : (d.p : Int) < (P : Int) := by omega
  have i0 : (0 : Int) ≤ (d.p : Int) := by omega
  have HH : Hid (Blk w x (moCells who none cl r P d) 98 ∧ RwAt w r (4 * P) d.f ∧ Lay w cl P T G) := ⟨h, hr, hl⟩
  have HK : Hid (cl ≠ x ∧ cl ≠ r ∧ x ≠ r ∧ (P : Int) ≤ 64 ∧ d.p < P ∧ d.p < 64) := ⟨hcx, hcr, hxr, hp, hd, hpp⟩
  have HWH : Hid (0 ≤ who ∧ who ≤ 1000000) := hw
  have HM : Hid (∀ W, Calls Tryz.prog 113 #[.int .u64 (d.f (d.p * 4 + 3)), .int .u64 d.nw] W fun e w' => e = .returned (.int .u64 ((d.nw - d.f (d.p * 4 + 3)) % 4294967296)) ∧ w' = W) := fun W => (mny_any (d.f (d.p * 4 + 3)) d.nw W (hf _) hn).mono fun _ _ h => ⟨h.1, h.2.symm⟩
  clear h hr hl hcx hcr hxr hp hf hn hpp hw
  generalize (d.nw - d.f (d.p * 4 + 3)) % 4294967296 = mm at *
  have e1 : (d.sp != 0) = true := by simpa using hs
  have e3 : decide (mm < 10) = false := decide_eq_false hm
  clear hs hm
  go_enter Tryz.func131, Tryz.ntmps131
  go_wp2_with fail
  go_quiet (first | (go_at_call 113; exact Calls.quiet_of_same (HM.out _)))
  have HW : Hid (Blk (w.drewN nq) x (moCells who none cl r P d) 98 ∧ RwAt (w.drewN nq) r (4 * P) d.f ∧ Lay (w.drewN nq) cl P T G ∧ But [x] w (w.drewN nq)) := ⟨HH.out.1.drewN _, HH.out.2.1, HH.out.2.2, (But.refl _ _).drewN _⟩
  clear HH c3 c6 c7 c11 r3 HM
  generalize w.drewN nq = w0 at *
  have H := mo_acquire w0 x cl r P who d HW.out.1 HWH.out
  go_wp2_with fail
  go_at_call 126; refine H.mono ?_; rintro e w1 ⟨⟨u, rfl⟩, hC⟩
  clear H
  go_wp2_with fail
  go_end0
  exact ⟨⟨_, rfl⟩, hC.before HW.out.2.2.2⟩
set_option maxHeartbeats 4000000 in
theorem mo_weigh_acqV (v : Int) (hd : d.p < P) (hf : ∀ i, 0 ≤ d.f i ∧ d.f i ≤ 18446744073709551615) (hn : 0 ≤ d.nw ∧ d.nw ≤ 18446744073709551615) (hw : 0 ≤ who ∧ who ≤ 1000000) (hs : d.sp = 0) (hv : v ≠ 0) (hm : ¬ (d.nw - d.f (d.p * 4 + 3)) % 4294967296 < 10) :
    Calls Tryz.prog 131 #[.pointer (some ⟨x, 0, none⟩), .int .u64 v] w fun e w' => (∃ v, e = .returned v) ∧ RunNew (acqSub (wd 0 2 3 0 0) (wd 0 2 3 0 1) (wd 0 2 3 0 2) who) AcqT.fresh w w' x (moCells who none cl r P d) 98 (.func (.func 130) #[.pointer (some ⟨x, 0, none⟩)] #[]) := by
  have c3 := h.cell 3 (v := .slice (some ⟨r, 0, none⟩) P P) rfl
  have c6 := h.cell 6 (v := .int .u64 d.nw) rfl
  have c7 := h.cell 7 (v := .int .i64 d.p) rfl
  have c11 := h.cell 11 (v := .int .u64 d.sp) rfl
  have r3 := hr.cell (i := d.p * 4 + 3) (by omega)
  have hpp : d.p < 64 := by omega
  have i1 : (d.p : Int) < (P : Int) := by omega
  have i0 : (0 : Int) ≤ (d.p : Int) := by omega
  have HH : Hid (Blk w x (moCells who none cl r P d) 98 ∧ RwAt w r (4 * P) d.f ∧ Lay w cl P T G) := ⟨h, hr, hl⟩
  have HK : Hid (cl ≠ x ∧ cl ≠ r ∧ x ≠ r ∧ (P : Int) ≤ 64 ∧ d.p < P ∧ d.p < 64) := ⟨hcx, hcr, hxr, hp, hd, hpp⟩
  have HWH : Hid (0 ≤ who ∧ who ≤ 1000000) := hw
  have HM : Hid (∀ W, Calls Tryz.prog 113 #[.int .u64 (d.f (d.p * 4 + 3)), .int .u64 d.nw] W fun e w' => e = .returned (.int .u64 ((d.nw - d.f (d.p * 4 + 3)) % 4294967296)) ∧ w' = W) := fun W => (mny_any (d.f (d.p * 4 + 3)) d.nw W (hf _) hn).mono fun _ _ h => ⟨h.1, h.2.symm⟩
  clear h hr hl hcx hcr hxr hp hf hn hpp hw
  generalize (d.nw - d.f (d.p * 4 + 3)) % 4294967296 = mm at *
  rw [hs] at c11
  have e2 : (v != 0) = true := by simpa using hv
  have e3 : decide (mm < 10) = false := decide_eq_false hm
  clear hs hv hm
  go_enter Tryz.func131, Tryz.ntmps131
  go_wp2_with fail
  go_quiet (first | (go_at_call 113; exact Calls.quiet_of_same (HM.out _)))
  have HW : Hid (Blk (w.drewN nq) x (moCells who none cl r P d) 98 ∧ RwAt (w.drewN nq) r (4 * P) d.f ∧ Lay (w.drewN nq) cl P T G ∧ But [x] w (w.drewN nq)) := ⟨HH.out.1.drewN _, HH.out.2.1, HH.out.2.2, (But.refl _ _).drewN _⟩
  clear HH c3 c6 c7 c11 r3 HM
  generalize w.drewN nq = w0 at *
  have H := mo_acquire w0 x cl r P who d HW.out.1 HWH.out
  go_wp2_with fail
  go_at_call 126; refine H.mono ?_; rintro e w1 ⟨⟨u, rfl⟩, hC⟩
  clear H
  go_wp2_with fail
  go_end0
  exact ⟨⟨_, rfl⟩, hC.before HW.out.2.2.2⟩
set_option maxHeartbeats 4000000 in
theorem mo_weigh_acqZ (v : Int) (hd : d.p < P) (hf : ∀ i, 0 ≤ d.f i ∧ d.f i ≤ 18446744073709551615) (hn : 0 ≤ d.nw ∧ d.nw ≤ 18446744073709551615) (hw : 0 ≤ who ∧ who ≤ 1000000) (hs : d.sp = 0) (hv : v = 0) :
    Calls Tryz.prog 131 #[.pointer (some ⟨x, 0, none⟩), .int .u64 v] w fun e w' => (∃ v, e = .returned v) ∧ RunNew (acqSub (wd 0 2 3 0 0) (wd 0 2 3 0 1) (wd 0 2 3 0 2) who) AcqT.fresh w w' x (moCells who none cl r P d) 98 (.func (.func 130) #[.pointer (some ⟨x, 0, none⟩)] #[]) := by
  have c3 := h.cell 3 (v := .slice (some ⟨r, 0, none⟩) P P) rfl
  have c6 := h.cell 6 (v := .int .u64 d.nw) rfl
  have c7 := h.cell 7 (v := .int .i64 d.p) rfl
  have c11 := h.cell 11 (v := .int .u64 d.sp) rfl
  have r3 := hr.cell (i := d.p * 4 + 3) (by omega)
  have hpp : d.p < 64 := by omega
  have i1 : (d.p : Int) < (P : Int) := by omega
  have i0 : (0 : Int) ≤ (d.p : Int) := by omega
  have HH : Hid (Blk w x (moCells who none cl r P d) 98 ∧ RwAt w r (4 * P) d.f ∧ Lay w cl P T G) := ⟨h, hr, hl⟩
  have HK : Hid (cl ≠ x ∧ cl ≠ r ∧ x ≠ r ∧ (P : Int) ≤ 64 ∧ d.p < P ∧ d.p < 64) := ⟨hcx, hcr, hxr, hp, hd, hpp⟩
  have HWH : Hid (0 ≤ who ∧ who ≤ 1000000) := hw
  have HM : Hid (∀ W, Calls Tryz.prog 113 #[.int .u64 (d.f (d.p * 4 + 3)), .int .u64 d.nw] W fun e w' => e = .returned (.int .u64 ((d.nw - d.f (d.p * 4 + 3)) % 4294967296)) ∧ w' = W) := fun W => (mny_any (d.f (d.p * 4 + 3)) d.nw W (hf _) hn).mono fun _ _ h => ⟨h.1, h.2.symm⟩
  clear h hr hl hcx hcr hxr hp hf hn hpp hw
  generalize (d.nw - d.f (d.p * 4 + 3)) % 4294967296 = mm at *
  rw [hs] at c11
  subst hv
  clear hs
  go_enter Tryz.func131, Tryz.ntmps131
  go_wp2_with fail
  go_quiet (first | (go_at_call 113; exact Calls.quiet_of_same (HM.out _)))
  have HW : Hid (Blk (w.drewN nq) x (moCells who none cl r P d) 98 ∧ RwAt (w.drewN nq) r (4 * P) d.f ∧ Lay (w.drewN nq) cl P T G ∧ But [x] w (w.drewN nq)) := ⟨HH.out.1.drewN _, HH.out.2.1, HH.out.2.2, (But.refl _ _).drewN _⟩
  clear HH c3 c6 c7 c11 r3 HM
  generalize w.drewN nq = w0 at *
  have H := mo_acquire w0 x cl r P who d HW.out.1 HWH.out
  go_wp2_with fail
  go_at_call 126; refine H.mono ?_; rintro e w1 ⟨⟨u, rfl⟩, hC⟩
  clear H
  go_wp2_with fail
  go_end0
  exact ⟨⟨_, rfl⟩, hC.before HW.out.2.2.2⟩
set_option maxHeartbeats 4000000 in
theorem mo_seeIdlePs_false (v : Int) (hT : 0 ≤ T ∧ T ≤ 65536) (hi : 0 ≤ d.im ∧ d.im ≤ 18446744073709551615) (ht : 0 ≤ d.th ∧ d.th ≤ 18446744073709551615) (hv : 0 ≤ v ∧ v ≤ 18446744073709551615) (hz : moSpares T d.im d.th v = false) :
    Calls Tryz.prog 144 #[.pointer (some ⟨x, 0, none⟩), .int .u64 v] w fun e w' => (∃ v, e = .returned v) ∧ RunNew (relSub (wd 0 2 3 0 1) (wd 0 2 3 0 2) who) RelT.fresh w w' x (moCells who none cl r P d) 98 (.func (.func 100) #[.pointer (some ⟨x, 0, none⟩)] #[]) := by
  have hS := mo_spares w x cl r P T G who d h v hl hT hi ht hv
  rw [hz] at hS
  have hlt := h.lt
  have HH0 : Hid (Blk w x (moCells who none cl r P d) 98) := h
  clear h hr hl hcx hcr hxr hp hT hi ht hv hz
  go_enter Tryz.func144, Tryz.ntmps144
  go_wp2_with fail
  go_at_call 145; refine hS.mono ?_; rintro e w0 ⟨rfl, hb0⟩
  have HB0 : Hid (But [x] w w0) := But.of_below hb0
  have h := HH0.out.but (But.of_below (l := []) hb0) (by simp)
  have hlt0 := h.lt
  have hH : Hid (w0.drew.cell? ⟨x, 2, none⟩ = some (.pointer (some ⟨cl, 0, none⟩))) := h.drew.cell 2 (v := .pointer (some ⟨cl, 0, none⟩)) rfl
  have hO := who_any w0.drew x who (h.drew.cell 0 rfl)
  have hR := rel_fresh w0.drew cl 0 who
  have HH : Hid (Blk w0 x (moCells who none cl r P d) 98) := h
  have HG : Hid (((relSub (wd 0 2 3 0 1) (wd 0 2 3 0 2) who)).I.Good ((relSub (wd 0 2 3 0 1) (wd 0 2 3 0 2) who)).M) := Fl.good (rel_laws _ _ who)
  clear h hS hb0 HH0 hlt
  go_wp2_with fail
  go_region_held3 (fun X => X.cell? ⟨x, 2, none⟩ = some (.pointer (some ⟨cl, 0, none⟩))) (first | exact hH.out | assumption) (first | (go_at_call 119; refine hO.mono ?_; rintro e w3 ⟨rfl, rfl⟩) | (go_at_call 147; refine hR.mono ?_; rintro e w4 ⟨y, L, rfl, k1, k4, k5, k6, a, k7⟩; have q4 : w4.cell? ⟨x, 2, none⟩ = some (.pointer (some ⟨cl, 0, none⟩)) := (HH.out.but (But.of_below (l := []) (show Below w0.heap.size w0 w4 from (Below.refl _ _).drew.trans k4)) (by simp)).cell 2 rfl; have hB4 : But [x] w0 w4 := ((But.refl [x] w0).drew).trans (But.of_below k4); have hf := frun_rel w4 x y _ 98 (.func (.func 100) #[.pointer (some ⟨x, 0, none⟩)] #[]) a (HH.out.but (But.of_below (l := []) (show Below w0.heap.size w0 w4 from (Below.refl _ _).drew.trans k4)) (by simp)) (by simp [moCells]) (.some _ _ _) (by have : w0.heap.size ≤ y := k5; omega) k7) | (go_at_call 120; refine hf.mono ?_; rintro e w5 ⟨⟨v, rfl⟩, q, b, hC⟩; have q5 : w5.cell? ⟨x, 2, none⟩ = some (.pointer (some ⟨cl, 0, none⟩)) := hC.at'.own.cell 2 rfl))
  all_goals
    have k6' : ∀ k ∈ L, w0.heap.size ≤ k := k6
    have HRN : Hid (RunNew (relSub (wd 0 2 3 0 1) (wd 0 2 3 0 2) who) RelT.fresh w w5 x (moCells who none cl r P d) 98 _) := (RunNew.mk (S := (relSub (wd 0 2 3 0 1) (wd 0 2 3 0 2) who)) (W := w0) HG.out k1 k6' hlt0 hB4 hC).before HB0.out
    clear hO hR hH q4 q5 hf k1 k4 k5 k6 k6' k7 hC hB4 HH HG
    go_wp2_with fail
    go_end0
    exact ⟨⟨_, rfl⟩, HRN.out⟩
set_option maxHeartbeats 4000000 in
theorem mo_seeIdlePs_true (v : Int) (hT : 0 ≤ T ∧ T ≤ 65536) (hi : 0 ≤ d.im ∧ d.im ≤ 18446744073709551615) (ht : 0 ≤ d.th ∧ d.th ≤ 18446744073709551615) (hv : 0 ≤ v ∧ v ≤ 18446744073709551615) (hz : moSpares T d.im d.th v = true) :
    Calls Tryz.prog 144 #[.pointer (some ⟨x, 0, none⟩), .int .u64 v] w fun e w' => (∃ v, e = .returned v) ∧ RunNew (relSub (wd 0 2 3 0 1) (wd 0 2 3 0 2) who) RelT.fresh w w' x (moCells who none cl r P d) 98 (.func (.func 146) #[.pointer (some ⟨x, 0, none⟩)] #[]) := by
  have hS := mo_spares w x cl r P T G who d h v hl hT hi ht hv
  rw [hz] at hS
  have hlt := h.lt
  have HH0 : Hid (Blk w x (moCells who none cl r P d) 98) := h
  clear h hr hl hcx hcr hxr hp hT hi ht hv hz
  go_enter Tryz.func144, Tryz.ntmps144
  go_wp2_with fail
  go_at_call 145; refine hS.mono ?_; rintro e w0 ⟨rfl, hb0⟩
  have HB0 : Hid (But [x] w w0) := But.of_below hb0
  have h := HH0.out.but (But.of_below (l := []) hb0) (by simp)
  have hlt0 := h.lt
  have hH : Hid (w0.drew.cell? ⟨x, 2, none⟩ = some (.pointer (some ⟨cl, 0, none⟩))) := h.drew.cell 2 (v := .pointer (some ⟨cl, 0, none⟩)) rfl
  have hO := who_any w0.drew x who (h.drew.cell 0 rfl)
  have hR := rel_fresh w0.drew cl 0 who
  have HH : Hid (Blk w0 x (moCells who none cl r P d) 98) := h
  have HG : Hid (((relSub (wd 0 2 3 0 1) (wd 0 2 3 0 2) who)).I.Good ((relSub (wd 0 2 3 0 1) (wd 0 2 3 0 2) who)).M) := Fl.good (rel_laws _ _ who)
  clear h hS hb0 HH0 hlt
  go_wp2_with fail
  go_region_held3 (fun X => X.cell? ⟨x, 2, none⟩ = some (.pointer (some ⟨cl, 0, none⟩))) (first | exact hH.out | assumption) (first | (go_at_call 119; refine hO.mono ?_; rintro e w3 ⟨rfl, rfl⟩) | (go_at_call 147; refine hR.mono ?_; rintro e w4 ⟨y, L, rfl, k1, k4, k5, k6, a, k7⟩; have q4 : w4.cell? ⟨x, 2, none⟩ = some (.pointer (some ⟨cl, 0, none⟩)) := (HH.out.but (But.of_below (l := []) (show Below w0.heap.size w0 w4 from (Below.refl _ _).drew.trans k4)) (by simp)).cell 2 rfl; have hB4 : But [x] w0 w4 := ((But.refl [x] w0).drew).trans (But.of_below k4); have hf := frun_rel w4 x y _ 98 (.func (.func 146) #[.pointer (some ⟨x, 0, none⟩)] #[]) a (HH.out.but (But.of_below (l := []) (show Below w0.heap.size w0 w4 from (Below.refl _ _).drew.trans k4)) (by simp)) (by simp [moCells]) (.some _ _ _) (by have : w0.heap.size ≤ y := k5; omega) k7) | (go_at_call 120; refine hf.mono ?_; rintro e w5 ⟨⟨v, rfl⟩, q, b, hC⟩; have q5 : w5.cell? ⟨x, 2, none⟩ = some (.pointer (some ⟨cl, 0, none⟩)) := hC.at'.own.cell 2 rfl))
  all_goals
    have k6' : ∀ k ∈ L, w0.heap.size ≤ k := k6
    have HRN : Hid (RunNew (relSub (wd 0 2 3 0 1) (wd 0 2 3 0 2) who) RelT.fresh w w5 x (moCells who none cl r P d) 98 _) := (RunNew.mk (S := (relSub (wd 0 2 3 0 1) (wd 0 2 3 0 2) who)) (W := w0) HG.out k1 k6' hlt0 hB4 hC).before HB0.out
    clear hO hR hH q4 q5 hf k1 k4 k5 k6 k6' k7 hC hB4 HH HG
    go_wp2_with fail
    go_end0
    exact ⟨⟨_, rfl⟩, HRN.out⟩
theorem mo_have_no (hd : d.p < 64) :
    Calls Tryz.prog 149 #[.pointer (some ⟨x, 0, none⟩), .bool false] w fun e w' => (∃ v, e = .returned v) ∧ MoLand who cl r P w w' x (moVisit P d (d.p + 1)) := by
  have H := mo_next w x cl r P T G who d h hr hl hcx hcr hxr hp hd
  clear h hr hl hcx hcr hxr hp hd
  go_enter Tryz.func149, Tryz.ntmps149
  go_wp2_with fail
  go_at_call 100; refine H.mono ?_; rintro e w1 ⟨⟨u, rfl⟩, hC⟩
  clear H
  go_wp2_with fail
  refine bodyPost_ret (results_none rfl _ _ _) rfl ?_
  exact ⟨⟨_, rfl⟩, hC⟩
/-- A machine that hands over was made, is held, and the count of calls comes. -/
def MoHad (who T G : Int) (cl r P : Nat) (d : MoD) (w w' : World) (x : Nat) : Prop := ∃ (y : Nat) (L : List Nat) (V : World), But [x] w V ∧ (hvCp who P T G d.p cl).I V y (.lk .hd) L ∧ (∀ k ∈ L, w.heap.size ≤ k) ∧ Came V w' x (moCells who none cl r P { d with ov := some ⟨y, 0, none⟩ }) 98 (moAx P d.p .ad) (moFol .ad)
set_option maxHeartbeats 8000000 in
theorem mo_have_yes (hw : 0 ≤ who ∧ who ≤ 1000000) (hT : 0 ≤ T ∧ T ≤ 65536) :
    Calls Tryz.prog 149 #[.pointer (some ⟨x, 0, none⟩), .bool true] w fun e w' => (∃ v, e = .returned v) ∧ MoHad who T G cl r P d w w' x := by
  have hlt := h.lt
  have HP : Hid ((0 : Int) ≤ (P : Int) ∧ (P : Int) ≤ 64) := ⟨by omega, hp⟩
  have hO := who_any w.drew x who (h.drew.cell 0 rfl)
  have hN := hv_new w.drew cl who d.p P T G hl HP.out
  have HG : Hid ((hvCp who P T G d.p cl).I.Good (hvPM P T who d.p)) := Cp.good (hv_laws hw HP.out hT)
  have HH : Hid (Blk w x (moCells who none cl r P d) 98 ∧ Lay w cl P T G ∧ cl ≠ x) := ⟨h, hl, hcx⟩
  have hH : Hid (w.drew.cell? ⟨x, 2, none⟩ = some (.pointer (some ⟨cl, 0, none⟩)) ∧ w.drew.cell? ⟨x, 7, none⟩ = some (.int .i64 d.p)) := ⟨h.drew.cell 2 rfl, h.drew.cell 7 rfl⟩
  have KB : Hid (∀ w4, Below w.drew.heap.size w.drew w4 → w4.cell? ⟨x, 2, none⟩ = some (.pointer (some ⟨cl, 0, none⟩)) ∧ w4.cell? ⟨x, 7, none⟩ = some (.int .i64 d.p)) := fun w4 k => ⟨(HH.out.1.drew.but (But.of_below (l := []) k) (by simp)).cell 2 rfl, (HH.out.1.drew.but (But.of_below (l := []) k) (by simp)).cell 7 rfl⟩
  have HST : Hid (∀ (X : World) (u : Value), Blk X x (moCells who none cl r P d) 98 → (X.setCell ⟨x, 14, none⟩ u).cell? ⟨x, 2, none⟩ = some (.pointer (some ⟨cl, 0, none⟩)) ∧ (X.setCell ⟨x, 14, none⟩ u).cell? ⟨x, 7, none⟩ = some (.int .i64 d.p)) := fun X u h => ⟨(h.set 14 u).cell 2 rfl, (h.set 14 u).cell 7 rfl⟩
  clear h hr hl hcx hcr hxr hp hw hT
  go_enter Tryz.func149, Tryz.ntmps149
  go_wp2_with fail
  go_region_held3 (fun w' => w'.cell? ⟨x, 2, none⟩ = some (.pointer (some ⟨cl, 0, none⟩)) ∧ w'.cell? ⟨x, 7, none⟩ = some (.int .i64 d.p)) (first | exact hH.out | exact HST.out _ _ ‹_› | exact KB.out _ ‹_›) (first | (go_at_call 119; refine hO.mono ?_; rintro e w3 ⟨rfl, rfl⟩) | (go_at_call 152; refine hN.mono ?_; rintro e w4 ⟨y, L, rfl, k1, k2, k3, k4⟩; have h4 : Blk w4 x (moCells who none cl r P d) 98 := HH.out.1.but (But.of_below (l := []) (show Below w.heap.size w w4 from (Below.refl _ _).drew.trans k2)) (by simp); have c8 := h4.cell 14 (v := .pointer d.ov) rfl; have f8 := h4.fro 14; have l8 := h4.lt))
  all_goals
    have k3' : ∀ k ∈ L, w.heap.size ≤ k := k3
    have k4' : w.heap.size ≤ y := k4
    have hB4 : But [x] w (w4.setCell ⟨x, 14, none⟩ (.pointer (some ⟨y, 0, none⟩))) := (((But.refl [x] w).drew).trans (But.of_below k2)).set (g := x) (.inl (by simp)) 14 _
    have h5 : Blk (w4.setCell ⟨x, 14, none⟩ (.pointer (some ⟨y, 0, none⟩))) x (moCells who none cl r P { d with ov := some ⟨y, 0, none⟩ }) 98 := h4.set 14 _
    have hI5 : (hvCp who P T G d.p cl).I (w4.setCell ⟨x, 14, none⟩ (.pointer (some ⟨y, 0, none⟩))) y (.lk .hd) L := HG.out.keep k1 ((But.refl [x] w4).set (g := x) (.inl (by simp)) 14 _) (fun k hk => by have := k3' k hk; simp; omega)
    generalize (w4.setCell ⟨x, 14, none⟩ (.pointer (some ⟨y, 0, none⟩))) = V at *
    have hl5 : Lay V cl P T G := (hB4.block cl HH.out.2.1.lt (by simpa using HH.out.2.2)).trans HH.out.2.1
    have H := mo_proc V.drew x cl r P T G who _ h5.drew hl5 HP.out.2 5 (by omega)
    have H5 : Hid (Blk V x (moCells who none cl r P { d with ov := some ⟨y, 0, none⟩ }) 98 ∧ But [x] w V ∧ (hvCp who P T G d.p cl).I V y (.lk .hd) L) := ⟨h5, hB4, hI5⟩
    clear hO hN k1 k2 k3 k4 h4 c8 f8 l8 hH KB HST h5 hB4 hI5 hl5
    go_wp2_with fail
    go_region_with (first | (go_at_call 99; refine H.mono ?_; rintro e w6 ⟨rfl, h6⟩; have H2 := came_add w6 x _ 98 (H5.out.1.but (But.of_below (l := []) (show Below V.heap.size V w6 from (Below.refl _ _).drew.trans h6)) (by simp)) (by simp [moCells]) (wd 20 P 264 d.p 5) 1 153) | (go_at_call 135; refine H2.mono ?_; rintro e w7 ⟨⟨v, rfl⟩, hC⟩))
    all_goals
      have hB6 : But [x] V w6 := But.of_below ((Below.refl _ _).drew.trans h6)
      have hC2 := hC.before hB6
      clear H H2 hC h6
      go_wp2_with fail
      go_end0
      exact ⟨⟨_, rfl⟩, y, L, V, H5.out.2.1, H5.out.2.2, k3', hC2⟩
end
end Go.Proofs.YthjfbknmdligeaaGreat

namespace Go.Proofs.YthjfbknmdligeaaGreat
open Go Go.RowKit
set_option linter.unusedVariables false
set_option maxRecDepth 100000
set_option linter.unusedSimpArgs false

/-- What it holds, whether it looked at a ring, and the machine that handed over last, by its processor. -/
structure MoE where
  D : MoD
  hl : Bool
  hv : Option (Int × HvT)
inductive MoT where
  | own (ph : MoP) (e : MoE)
  | lk (l : LoT) (e : MoE)
  | acq (a : AcqT) (e : MoE)
  | relN (r : RelT) (e : MoE)
  | relT (r : RelT) (e : MoE)
  | ov (h : HvT) (e : MoE)
  | en (e : MoE)
def MoT.e : MoT → MoE
  | .own _ e => e
  | .lk _ e => e
  | .acq _ e => e
  | .relN _ e => e
  | .relT _ e => e
  | .ov _ e => e
  | .en e => e
def MoT.hasO : MoT → Bool
  | .ov _ _ => true
  | t => t.e.hv.isSome
/-- Where it goes on; at its end a pass begins anew, or is over. -/
def moFold (b : Bool) (s : MoP × MoD) (e : MoE) : MoT := match b, s.1 with
  | false, .nw => .en { e with D := s.2 }
  | _, ph => .own ph { e with D := s.2 }
def moPM (b : Bool) (P : Nat) (T : Int) : PM MoT where
  ax := fun
    | .own ph e => some (moAx P e.D.p ph)
    | .lk l e => (loPM P e.D.p).ax l
    | .acq a _ => (acqPM (wd 0 2 3 0 0) (wd 0 2 3 0 1) (wd 0 2 3 0 2) T).ax a
    | .relN r _ => (relPM (wd 0 2 3 0 1) (wd 0 2 3 0 2)).ax r
    | .relT r _ => (relPM (wd 0 2 3 0 1) (wd 0 2 3 0 2)).ax r
    | .ov h e => (hvPM P T T e.D.p).ax h
    | .en _ => none
  nx := fun
    | .own .nw e, v => moFold b (moFirst P e.D v) e
    | .own .st e, v => moFold b (moJudge P e.D v) e
    | .own .tu e, v => moFold b (moTurns P e.D v) e
    | .own .pr e, _ => moFold b (moLate P e.D) e
    | .own .ca e, v => if e.D.lt = false ∧ v ≠ e.D.f (e.D.p * 4 + 2) then moFold b (moVisit P (moCallsRow e.D v) (e.D.p + 1)) e else .lk .hd { e with hl := true }
    | .own .sp e, v => .own .ip { e with D := { e.D with sp := v } }
    | .own .ip e, v => if moWaits e.D v = true then moFold b (moVisit P e.D (e.D.p + 1)) e else .acq .fresh e
    | .own .im e, v => .own .th { e with D := { e.D with im := v } }
    | .own .th e, v => .own .ip2 { e with D := { e.D with th := v } }
    | .own .ip2 e, v => if moSpares T e.D.im e.D.th v = true then .relT .fresh e else .relN .fresh e
    | .own .sw e, v => if v = 0 then moFold b (moVisit P e.D (e.D.p + 1)) e else .own .ad { e with hv := some ((e.D.p : Int), .lk .hd) }
    | .own .ad e, _ => .ov (.lk .hd) { e with hv := none }
    | .lk l e, v => if ((loPM P e.D.p).ax ((loPM P e.D.p).nx l v)).isSome = true then .lk ((loPM P e.D.p).nx l v) e else if ((loPM P e.D.p).nx l v).e = true then .own .sp e else .acq .fresh e
    | .acq a e, v => if ((acqPM (wd 0 2 3 0 0) (wd 0 2 3 0 1) (wd 0 2 3 0 2) T).ax ((acqPM (wd 0 2 3 0 0) (wd 0 2 3 0 1) (wd 0 2 3 0 2) T).nx a v)).isSome = true then .acq ((acqPM (wd 0 2 3 0 0) (wd 0 2 3 0 1) (wd 0 2 3 0 2) T).nx a v) e else .own .im e
    | .relN r e, v => if ((relPM (wd 0 2 3 0 1) (wd 0 2 3 0 2)).ax ((relPM (wd 0 2 3 0 1) (wd 0 2 3 0 2)).nx r v)).isSome = true then .relN ((relPM (wd 0 2 3 0 1) (wd 0 2 3 0 2)).nx r v) e else moFold b (moVisit P e.D (e.D.p + 1)) e
    | .relT r e, v => if ((relPM (wd 0 2 3 0 1) (wd 0 2 3 0 2)).ax ((relPM (wd 0 2 3 0 1) (wd 0 2 3 0 2)).nx r v)).isSome = true then .relT ((relPM (wd 0 2 3 0 1) (wd 0 2 3 0 2)).nx r v) e else .own .sw e
    | .ov h e, v => if ((hvPM P T T e.D.p).ax ((hvPM P T T e.D.p).nx h v)).isSome = true then .ov ((hvPM P T T e.D.p).nx h v) e else moFold b (moVisit P e.D (e.D.p + 1)) { e with hv := some ((e.D.p : Int), (hvPM P T T e.D.p).nx h v) }
    | .en e, _ => .en e
/-- With the addresses that it holds. -/
def setLO (d : MoD) (lk ov : Option Addr) : MoD := { d with lk := lk, ov := ov }
def moLK (e : MoE) (es : List Nat) : Option Addr := if e.hl = true then some ⟨es.getD 1 0, 0, none⟩ else none
def moOV (b : Bool) (es : List Nat) : Option Addr := if b = true then some ⟨es.getD 2 0, 0, none⟩ else none
def MoT.d (t : MoT) (es : List Nat) : MoD := setLO t.e.D (moLK t.e es) (moOV t.hasO es)
def moKept (T : Int) (G : Int) (P : Nat) (cl : Nat) (e : MoE) (es : List Nat) (w : World) (Lh : List Nat) : Prop := match e.hv with
  | none => Lh = []
  | some (p, h) => (hvCp T P T G p cl).I w (es.getD 2 0) h Lh
/-- The rows, and the machine that handed over last. -/
structure MoExt (T G : Int) (P cl : Nat) (e : MoE) (es : List Nat) (w : World) (Le : List Nat) : Prop where
  ex : ∃ Lh, Le = es.getD 0 0 :: Lh ∧ es.getD 0 0 ∉ Lh ∧ moKept T G P cl e es w Lh
  row : RwAt w (es.getD 0 0) (4 * P) e.D.f
  ne : cl ≠ es.getD 0 0
structure MoOkE (P : Nat) (e : MoE) : Prop where
  f : ∀ i, 0 ≤ e.D.f i ∧ e.D.f i ≤ 18446744073709551615
  nw : 0 ≤ e.D.nw ∧ e.D.nw ≤ 18446744073709551615
  im : 0 ≤ e.D.im ∧ e.D.im ≤ 18446744073709551615
  th : 0 ≤ e.D.th ∧ e.D.th ≤ 18446744073709551615
def moOk (T G : Int) (P cl : Nat) : MoT → Prop
  | .own ph e => MoOkE P e ∧ (ph = .nw ∨ e.D.p < P) ∧ (ph = .ad → e.hv = some ((e.D.p : Int), .lk .hd))
  | .lk l e => MoOkE P e ∧ e.D.p < P ∧ ((loPM P e.D.p).ax l).isSome = true ∧ e.hl = true
  | .acq a e => MoOkE P e ∧ e.D.p < P ∧ ((acqPM (wd 0 2 3 0 0) (wd 0 2 3 0 1) (wd 0 2 3 0 2) T).ax a).isSome = true
  | .relN r e => MoOkE P e ∧ e.D.p < P ∧ ((relPM (wd 0 2 3 0 1) (wd 0 2 3 0 2)).ax r).isSome = true
  | .relT r e => MoOkE P e ∧ e.D.p < P ∧ ((relPM (wd 0 2 3 0 1) (wd 0 2 3 0 2)).ax r).isSome = true
  | .ov h e => MoOkE P e ∧ e.D.p < P ∧ e.hv = none ∧ ((hvPM P T T e.D.p).ax h).isSome = true ∧ (hvCp T P T G e.D.p cl).ok h
  | .en _ => False
def moSub (T G : Int) (P cl p : Nat) : Sub := ⟨HvT, hvPM P T T p, (hvCp T P T G p cl).I, Rd.lay cl P T G, 96, 235⟩
def moCp (T G : Int) (P cl : Nat) : CpR MoT where
  T := 98
  cells := fun t es nx => moCells T nx cl (es.getD 0 0) P (t.d es)
  kind := fun
    | .own ph e => .acc (moAx P e.D.p ph) (moFol ph)
    | .lk l e => .run (hvLk T P T G e.D.p cl) l (.fn 121)
    | .acq a _ => .run (acqSub (wd 0 2 3 0 0) (wd 0 2 3 0 1) (wd 0 2 3 0 2) T) a (.fn 130)
    | .relN r _ => .run (relSub (wd 0 2 3 0 1) (wd 0 2 3 0 2) T) r (.fn 100)
    | .relT r _ => .run (relSub (wd 0 2 3 0 1) (wd 0 2 3 0 2) T) r (.fn 146)
    | .ov h e => .run (moSub T G P cl e.D.p) h (.fn 100)
    | .en _ => .over
  ok := moOk T G P cl
  ext := fun t => MoExt T G P cl t.e
  tie := fun t es y => match t with
    | .lk _ _ => es.getD 1 0 = y
    | .ov _ _ => es.getD 2 0 = y
    | _ => True
theorem hv_ok_next {who P T G p : Int} {cl : Nat} {s : HvT} {v : Int} {a : Ax} (hp : 0 ≤ P ∧ P ≤ 64) (hT : 0 ≤ T ∧ T ≤ 65536) (hv : 0 ≤ v ∧ v ≤ 18446744073709551615) (hok : (hvCp who P T G p cl).ok s) (ha : (hvPM P T who p).ax s = some a) : (hvCp who P T G p cl).ok ((hvPM P T who p).nx s v) := by
  cases s with
  | gs => show (hvCp who P T G p cl).ok (if v = 0 then .sp else .acqP .fresh); split; exact trivial; exact rfl
  | sp => show (hvCp who P T G p cl).ok (if v = 0 then .ip else .acqL .fresh); split; exact trivial; exact rfl
  | ip => show (hvCp who P T G p cl).ok (if v = 0 then .sw else .acqL .fresh); split; exact trivial; exact rfl
  | sw => show (hvCp who P T G p cl).ok (if v = 0 then .acqL .fresh else .nd); split; exact rfl; exact trivial
  | nd => exact rfl
  | gs2 => show (hvCp who P T G p cl).ok (if v = 0 then .ne else .runP (.get .ld)); split; exact trivial; exact ⟨rfl, rfl, trivial⟩
  | ne => show (hvCp who P T G p cl).ok (if v = 0 then .put .m0 else .ad); split; exact ⟨rfl, trivial⟩; exact trivial
  | ad => exact trivial
  | nd2 => exact ⟨rfl, rfl, trivial⟩
  | ovP s => cases ha
  | ovS s => cases ha
  | ovR q => cases ha
  | lk l =>
    by_cases hs : ((loPM P p).ax ((loPM P p).nx l v)).isSome = true
    · exact (hv_on hp hT hv hok rfl hs).1
    · rw [show (hvPM P T who p).nx (.lk l) v = _ from if_neg hs]
      split
      · exact trivial
      · exact rfl
  | acqP a =>
    by_cases hs : ((acqPM (wd 0 2 3 0 0) (wd 0 2 3 0 1) (wd 0 2 3 0 2) who).ax ((acqPM (wd 0 2 3 0 0) (wd 0 2 3 0 1) (wd 0 2 3 0 2) who).nx a v)).isSome = true
    · exact (hv_on hp hT hv hok rfl hs).1
    · rw [show (hvPM P T who p).nx (.acqP a) v = _ from if_neg hs]; exact ⟨rfl, rfl, trivial⟩
  | acqS a =>
    by_cases hs : ((acqPM (wd 0 2 3 0 0) (wd 0 2 3 0 1) (wd 0 2 3 0 2) who).ax ((acqPM (wd 0 2 3 0 0) (wd 0 2 3 0 1) (wd 0 2 3 0 2) who).nx a v)).isSome = true
    · exact (hv_on hp hT hv hok rfl hs).1
    · rw [show (hvPM P T who p).nx (.acqS a) v = _ from if_neg hs]; exact ⟨rfl, rfl, trivial⟩
  | acqL a =>
    by_cases hs : ((acqPM (wd 0 2 3 0 0) (wd 0 2 3 0 1) (wd 0 2 3 0 2) who).ax ((acqPM (wd 0 2 3 0 0) (wd 0 2 3 0 1) (wd 0 2 3 0 2) who).nx a v)).isSome = true
    · exact (hv_on hp hT hv hok rfl hs).1
    · rw [show (hvPM P T who p).nx (.acqL a) v = _ from if_neg hs]; exact trivial
  | runP s =>
    by_cases hs : ((wsPM P T p false true).ax ((wsPM P T p false true).nx s v)).isSome = true
    · exact (hv_on hp hT hv hok rfl hs).1
    · rw [show (hvPM P T who p).nx (.runP s) v = _ from if_neg hs]; exact trivial
  | runS s =>
    by_cases hs : ((wsPM P T p true true).ax ((wsPM P T p true true).nx s v)).isSome = true
    · exact (hv_on hp hT hv hok rfl hs).1
    · rw [show (hvPM P T who p).nx (.runS s) v = _ from if_neg hs]; exact trivial
  | put q =>
    by_cases hs : ((ipPM P p).ax ((ipPM P p).nx q v)).isSome = true
    · exact (hv_on hp hT hv hok rfl hs).1
    · rw [show (hvPM P T who p).nx (.put q) v = _ from if_neg hs]; exact rfl
  | rel q r =>
    by_cases hs : ((relPM (wd 0 2 3 0 1) (wd 0 2 3 0 2)).ax ((relPM (wd 0 2 3 0 1) (wd 0 2 3 0 2)).nx r v)).isSome = true
    · exact (hv_on hp hT hv hok rfl hs).1
    · rw [show (hvPM P T who p).nx (.rel q r) v = _ from if_neg hs]; exact trivial
/-- The addresses stand aside. -/
def setS (s : MoP × MoD) (lk ov : Option Addr) : MoP × MoD := (s.1, setLO s.2 lk ov)
theorem lo_visit (P : Nat) (d : MoD) (q : Nat) (lk ov : Option Addr) : moVisit P (setLO d lk ov) q = setS (moVisit P d q) lk ov := by
  unfold moVisit; split <;> rfl
theorem lo_seeStatus (P : Nat) (d : MoD) (lk ov : Option Addr) : moSeeStatus P (setLO d lk ov) = setS (moSeeStatus P d) lk ov := by
  unfold moSeeStatus
  rw [show (setLO d lk ov).st = d.st from rfl, show (setLO d lk ov).p = d.p from rfl, lo_visit]
  split <;> rfl
theorem lo_first (P : Nat) (d : MoD) (v : Int) (lk ov : Option Addr) : moFirst P (setLO d lk ov) v = setS (moFirst P d v) lk ov := lo_visit P { d with nw := v, un := true } 0 lk ov
theorem lo_judge (P : Nat) (d : MoD) (v : Int) (lk ov : Option Addr) : moJudge P (setLO d lk ov) v = setS (moJudge P d v) lk ov := by
  unfold moJudge
  rw [show (setLO d lk ov).p = d.p from rfl, lo_visit]
  split <;> rfl
theorem lo_late (P : Nat) (d : MoD) (lk ov : Option Addr) : moLate P (setLO d lk ov) = setS (moLate P d) lk ov := lo_seeStatus P { d with lt := true } lk ov
theorem lo_turns (P : Nat) (d : MoD) (v : Int) (lk ov : Option Addr) : moTurns P (setLO d lk ov) v = setS (moTurns P d v) lk ov := by
  have e1 := lo_seeStatus P { d with lt := false, f := upd (upd d.f (d.p * 4) v) (d.p * 4 + 1) d.nw } lk ov
  have e2 := lo_seeStatus P { d with lt := false } lk ov
  unfold moTurns
  rw [show (setLO d lk ov).f = d.f from rfl, show (setLO d lk ov).nw = d.nw from rfl, show (setLO d lk ov).p = d.p from rfl]
  split
  · exact e1
  · split
    · rfl
    · exact e2
/-- What stays so, wherever it goes on. -/
theorem ph_visit (P : Nat) (d : MoD) (q : Nat) : (moVisit P d q).1 = .nw ∨ ((moVisit P d q).1 = .st ∧ (moVisit P d q).2.p < P) := by
  unfold moVisit; split
  · exact .inl rfl
  · exact .inr ⟨rfl, by show q < P; omega⟩
theorem kp_visit (P : Nat) (d : MoD) (q : Nat) : (moVisit P d q).2.f = d.f ∧ (moVisit P d q).2.nw = d.nw ∧ (moVisit P d q).2.im = d.im ∧ (moVisit P d q).2.th = d.th := by
  unfold moVisit; split <;> exact ⟨rfl, rfl, rfl, rfl⟩
/-- It is fine in whatever phase it goes on. -/
structure MoFine (P : Nat) (s : MoP × MoD) : Prop where
  ph : s.1 = .nw ∨ s.2.p < P
  nad : s.1 ≠ .ad
  f : ∀ i, 0 ≤ s.2.f i ∧ s.2.f i ≤ 18446744073709551615
  nw : 0 ≤ s.2.nw ∧ s.2.nw ≤ 18446744073709551615
  im : 0 ≤ s.2.im ∧ s.2.im ≤ 18446744073709551615
  th : 0 ≤ s.2.th ∧ s.2.th ≤ 18446744073709551615
structure MoFineD (d : MoD) : Prop where
  f : ∀ i, 0 ≤ d.f i ∧ d.f i ≤ 18446744073709551615
  nw : 0 ≤ d.nw ∧ d.nw ≤ 18446744073709551615
  im : 0 ≤ d.im ∧ d.im ≤ 18446744073709551615
  th : 0 ≤ d.th ∧ d.th ≤ 18446744073709551615
theorem MoOkE.d {P : Nat} {e : MoE} (h : MoOkE P e) : MoFineD e.D := ⟨h.f, h.nw, h.im, h.th⟩
theorem fine_visit {P : Nat} {d : MoD} (h : MoFineD d) (q : Nat) : MoFine P (moVisit P d q) := by
  obtain ⟨e1, e2, e3, e4⟩ := kp_visit P d q
  refine ⟨?_, ?_, by rw [e1]; exact h.f, by rw [e2]; exact h.nw, by rw [e3]; exact h.im, by rw [e4]; exact h.th⟩
  · rcases ph_visit P d q with h | h
    · exact .inl h
    · exact .inr h.2
  · rcases ph_visit P d q with h | h
    · rw [h]; intro h; cases h
    · rw [h.1]; intro h; cases h
theorem fine_seeStatus {P : Nat} {d : MoD} (h : MoFineD d) (hp : d.p < P) : MoFine P (moSeeStatus P d) := by
  unfold moSeeStatus; split
  · exact ⟨.inr hp, (by intro h; cases h), h.f, h.nw, h.im, h.th⟩
  · exact fine_visit h _
theorem upd_bd {f : Nat → Int} {i : Nat} {v : Int} (hf : ∀ i, 0 ≤ f i ∧ f i ≤ 18446744073709551615) (hv : 0 ≤ v ∧ v ≤ 18446744073709551615) : ∀ j, 0 ≤ upd f i v j ∧ upd f i v j ≤ 18446744073709551615 := fun j => by
  unfold upd; split
  · exact hv
  · exact hf j
theorem fine_turns {P : Nat} {d : MoD} {v : Int} (h : MoFineD d) (hp : d.p < P) (hv : 0 ≤ v ∧ v ≤ 18446744073709551615) : MoFine P (moTurns P d v) := by
  unfold moTurns; split
  · exact fine_seeStatus (d := { d with lt := false, f := upd (upd d.f (d.p * 4) v) (d.p * 4 + 1) d.nw }) ⟨upd_bd (upd_bd h.f hv) h.nw, h.nw, h.im, h.th⟩ hp
  · split
    · exact ⟨.inr hp, (by intro h; cases h), h.f, h.nw, h.im, h.th⟩
    · exact fine_seeStatus (d := { d with lt := false }) ⟨h.f, h.nw, h.im, h.th⟩ hp
theorem fine_judge {P : Nat} {d : MoD} {v : Int} (h : MoFineD d) (hp : d.p < P) : MoFine P (moJudge P d v) := by
  unfold moJudge; split
  · exact ⟨.inr hp, (by intro h; cases h), h.f, h.nw, h.im, h.th⟩
  · exact fine_visit h _
theorem fine_row {d : MoD} {v : Int} (h : MoFineD d) (hv : 0 ≤ v ∧ v ≤ 18446744073709551615) : MoFineD (moCallsRow d v) := ⟨upd_bd (upd_bd h.f hv) h.nw, h.nw, h.im, h.th⟩
theorem moFold_true (s : MoP × MoD) (e : MoE) : moFold true s e = .own s.1 { e with D := s.2 } := rfl
theorem MoFine.ok {T G : Int} {P cl : Nat} {s : MoP × MoD} (h : MoFine P s) (e : MoE) : moOk T G P cl (.own s.1 { e with D := s.2 }) := ⟨⟨h.f, h.nw, h.im, h.th⟩, h.ph, fun h' => absurd h' h.nad⟩
end Go.Proofs.YthjfbknmdligeaaGreat

namespace Go.Proofs.YthjfbknmdligeaaGreat
open Go Go.RowKit
set_option linter.unusedVariables false
set_option maxRecDepth 100000
set_option linter.unusedSimpArgs false

/-- So many steps of a machine. -/
def PM.steps {σ : Type} (M : PM σ) (who : Int) (n : Nat) : Nat → σ × St → σ × St
  | 0, p => p
  | k + 1, p => PM.steps M who n k (M.goT n p.1 p.2, M.goS who n p.1 p.2)
theorem PM.steps_succ {σ : Type} (M : PM σ) (who : Int) (n : Nat) : ∀ (k : Nat) (p : σ × St), M.steps who n (k + 1) p = (M.goT n (M.steps who n k p).1 (M.steps who n k p).2, M.goS who n (M.steps who n k p).1 (M.steps who n k p).2)
  | 0, p => rfl
  | k + 1, p => PM.steps_succ M who n k (M.goT n p.1 p.2, M.goS who n p.1 p.2)
theorem PM.steps_low {σ : Type} (M : PM σ) (who : Int) (n : Nat) {m : Int} : ∀ (k : Nat) (p : σ × St), Low p.2 m → Low (M.steps who n k p).2 (m + k)
  | 0, p, h => h.more (by omega)
  | k + 1, p, h => (PM.steps_low M who n k (M.goT n p.1 p.2, M.goS who n p.1 p.2) (PM.goS_low h)).more (by omega)

/-- A machine over a memory, apart, with what is only read. -/
structure Solo {σ : Type} (I : MI σ) (R : Rd) (W0 w : World) (A : Option Addr) (cap c b n : Nat) (s : St) (x : Nat) (t : σ) (L : List Nat) : Prop where
  mem : Is w 114 A cap c b n s
  mach : I w x t L
  rd : R.P w
  far : ∀ k ∈ L, k ≠ c ∧ k ≠ b ∧ k ∉ R.B
  rfar : c ∉ R.B ∧ b ∉ R.B
  up : W0.heap.size ≤ c ∧ W0.heap.size ≤ b ∧ ∀ k ∈ L, W0.heap.size ≤ k
  rlt : ∀ k ∈ R.B, k < w.heap.size
  below : Below W0.heap.size W0 w
section
variable {σ : Type} {I : MI σ} {M : PM σ} {R Rm : Rd} {W0 w w' : World} {A : Option Addr} {cap c b n : Nat} {s : St} {x : Nat} {t : σ} {L : List Nat}
theorem Solo.still (hG : I.Good M) (h : Solo I R W0 w A cap c b n s x t L) (hb : Below w.heap.size w w') : Solo I R W0 w' A cap c b n s x t L :=
  ⟨h.mem.below hb, hG.below h.mach hb, R.below h.rd hb, h.far, h.rfar, h.up, fun k hk => Nat.lt_of_lt_of_le (h.rlt k hk) hb.size, h.below.trans (hb.mono h.below.size)⟩
theorem Solo.step (hG : I.Good M) {F : Nat} {who : Int} (hS : Steps M I Rm F who) (hRm : ∀ w, R.P w → Rm.P w) (hRb : ∀ k ∈ Rm.B, k ∈ R.B) (h : Solo I R W0 w A cap c b n s x t L) (hn : n ≤ 1000000) (hl : Low s 1000000) :
    Calls Tryz.prog F #[.pointer (some ⟨x, 0, none⟩), .pointer (some ⟨c, 0, none⟩)] w fun e w' => (e = .returned (.bool (M.ax (M.goT n t s)).isNone)) ∧ ∃ L', Solo I R W0 w' A cap c b n (M.goS who n t s) x (M.goT n t s) L' := by
  refine (hS w A cap c b n s x t L h.mach (hRm w h.rd) h.mem hn hl (fun k hk => ⟨(h.far k hk).1, (h.far k hk).2.1, fun hr => (h.far k hk).2.2 (hRb k hr)⟩) ⟨fun hr => h.rfar.1 (hRb c hr), fun hr => h.rfar.2 (hRb b hr)⟩).mono ?_
  rintro e w' ⟨rfl, L', a1, a2, a3, a4⟩
  have hsz := h.below.size
  have k1 := h.mem.lt
  have k2 := h.mem.bl
  refine ⟨rfl, L', a2, a1, R.keep _ _ _ h.rd a3 (fun k hk => ?_), fun k hk => ?_, h.rfar, ⟨h.up.1, h.up.2.1, fun k hk => ?_⟩, fun k hk => Nat.lt_of_lt_of_le (h.rlt k hk) a3.size, h.below.trans (a3.below ?_ hsz)⟩
  · simp only [List.mem_cons, not_or]
    exact ⟨fun e => h.rfar.1 (e ▸ hk), fun e => h.rfar.2 (e ▸ hk), fun hm => (h.far k hm).2.2 hk⟩
  · rcases a4 k hk with h1 | h1
    · exact h.far k h1
    · exact ⟨by omega, by omega, fun hr => by have := h.rlt k hr; omega⟩
  · rcases a4 k hk with h1 | h1
    · exact h.up.2.2 k h1
    · omega
  · intro k hk
    simp only [List.mem_cons] at hk
    rcases hk with rfl | rfl | hk
    · exact h.up.1
    · exact h.up.2.1
    · exact h.up.2.2 k hk
/-- How it begins. -/
theorem Solo.begin {w2 w3 : World} (hm : Is w2 114 A cap c b n s) (hb : Below w2.heap.size w2 w3) (hB2 : Below W0.heap.size W0 w2) (hup : W0.heap.size ≤ c ∧ W0.heap.size ≤ b) (hi : I w3 x t L) (hL : ∀ k ∈ L, w2.heap.size ≤ k) (hr : R.P w2) (hrl : ∀ k ∈ R.B, k < w2.heap.size) (hrf : c ∉ R.B ∧ b ∉ R.B) : Solo I R W0 w3 A cap c b n s x t L := by
  have k1 := hm.lt
  have k2 := hm.bl
  have hsz := hB2.size
  refine ⟨hm.below hb, hi, R.below hr hb, fun k hk => ?_, hrf, ⟨hup.1, hup.2, fun k hk => Nat.le_trans hsz (hL k hk)⟩, fun k hk => Nat.lt_of_lt_of_le (hrl k hk) hb.size, hB2.trans (hb.mono hsz)⟩
  have h1 := hL k hk
  exact ⟨by omega, by omega, fun hr => by have := hrl k hr; omega⟩
end
end Go.Proofs.YthjfbknmdligeaaGreat
