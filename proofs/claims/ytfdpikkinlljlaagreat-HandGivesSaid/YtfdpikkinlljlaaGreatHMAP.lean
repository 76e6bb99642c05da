/- Handing a processor over: what its functions do. -/
import Derived.Test.YtfdpikkinlljlaaGreatHMAA
import Derived.Test.YtfdpikkinlljlaaGreatHMAN
import Derived.Test.YtfdpikkinlljlaaGreatHMAB
import Derived.Test.YtfdpikkinlljlaaGreatHMAJ
namespace Go.Proofs.YtfdpikkinlljlaaGreat
open Go Go.RowKit
set_option linter.unusedVariables false
set_option maxRecDepth 100000
set_option linter.unusedSimpArgs false

def hvCells (who : Int) (nx : Option Addr) (cl : Nat) (p : Int) (lk st id : Option Addr) (ct : Bool) : Array Value := #[.int .i64 who, .pointer nx, .pointer (some ⟨cl, 0, none⟩), .int .i64 p, .pointer lk, .pointer st, .pointer id, .bool ct]
def hvLk (who P T G p : Int) (cl : Nat) : Sub := ⟨LoT, loPM P p, (loFl who p cl).I (loPM P p), Rd.lay cl P T G, 151, 337⟩
def hvSt (who P T G p : Int) (sp : Bool) (cl : Nat) : Sub := ⟨WsT, wsPM P T p sp true, (wsCp who P T G p sp true cl).I, Rd.lay cl P T G, 153, 339⟩
def hvIp (who P T G p : Int) (cl : Nat) : Sub := ⟨IpT, ipPM P p, (ipFl who p cl).I (ipPM P p), Rd.lay cl P T G, 154, 341⟩
/-- A machine was made, is held, and runs. -/
def HvHeld (S : Sub) (pt : S.τ) (W w' : World) (x : Nat) (cs : Nat → Array Value) (T : TypeId) (fv : Value) : Prop := ∃ y q b L, CameBox W w' x (cs y) T (fun v => comCells 0 0 0 0 0 false (.iface S.D (.pointer (some ⟨y, 0, none⟩))) v false false) fv q b ∧ S.I w' y pt L ∧ (∀ k ∈ L, W.heap.size ≤ k) ∧ q ∉ L ∧ b ∉ L
theorem HvHeld.before {S : Sub} {pt : S.τ} {W W0 w' : World} {x : Nat} {cs : Nat → Array Value} {T : TypeId} {fv : Value} (h : HvHeld S pt W w' x cs T fv) (hB : But [x] W0 W) : HvHeld S pt W0 w' x cs T fv := by
  obtain ⟨y, q, b, L, h1, h2, h3, h4⟩ := h
  exact ⟨y, q, b, L, h1.before hB, h2, fun k hk => Nat.le_trans hB.size (h3 k hk), h4⟩
section
variable (w : World) (x cl : Nat) (who p : Int) (lk st id nx : Option Addr) (ct : Bool) (h : Blk w x (hvCells who nx cl p lk st id ct) 156)
include h
theorem hv_load (i : Int) (hi : 6 ≤ i ∧ i ≤ 19) (K : Nat) :
    Calls Tryz.prog 154 #[.pointer (some ⟨x, 0, none⟩), .int .i64 i, .func (.func K) #[.pointer (some ⟨x, 0, none⟩)] #[]] w fun e w' => (∃ v, e = .returned v) ∧ Came w w' x (hvCells who nx cl p lk st id ct) 156 (axLd i) (.told K) := by
  have H := came_load w.drew x _ 156 h.drew (by simp [hvCells]) i K
  have c2 := h.cell 2 (v := .pointer (some ⟨cl, 0, none⟩)) rfl
  have hW := il_word w.drew cl i hi
  clear h hi
  go_enter Tryz.func154, Tryz.ntmps154
  go_wp2_with fail
  go_region_with (first | (go_at_call 68; refine hW.mono ?_; rintro e w3 ⟨rfl, rfl⟩) | (go_at_call 67; refine H.mono ?_; rintro e w1 ⟨⟨v, rfl⟩, hC⟩))
  all_goals
    have hC2 := hC.undrew
    clear hW H c2 hC
    go_wp2_with fail
    go_end0
    exact ⟨⟨_, rfl⟩, hC2⟩
theorem hv_store (i : Int) (hi : 6 ≤ i ∧ i ≤ 19) (u : Int) (K : Nat) :
    Calls Tryz.prog 245 #[.pointer (some ⟨x, 0, none⟩), .int .i64 i, .int .u64 u, .func (.func K) #[.pointer (some ⟨x, 0, none⟩)] #[]] w fun e w' => (∃ v, e = .returned v) ∧ Came w w' x (hvCells who nx cl p lk st id ct) 156 (axSt i u) (.untold K) := by
  have H := came_store w.drew x _ 156 h.drew (by simp [hvCells]) i u K
  have c2 := h.cell 2 (v := .pointer (some ⟨cl, 0, none⟩)) rfl
  have hW := il_word w.drew cl i hi
  clear h hi
  go_enter Tryz.func245, Tryz.ntmps245
  go_wp2_with fail
  go_region_with (first | (go_at_call 68; refine hW.mono ?_; rintro e w3 ⟨rfl, rfl⟩) | (go_at_call 88; refine H.mono ?_; rintro e w1 ⟨⟨v, rfl⟩, hC⟩))
  all_goals
    have hC2 := hC.undrew
    clear hW H c2 hC
    go_wp2_with fail
    go_end0
    exact ⟨⟨_, rfl⟩, hC2⟩
set_option maxHeartbeats 1000000 in
theorem hv_acquire (hw : 0 ≤ who ∧ who ≤ 1000000) (fv : Value) (hf : Fv fv) :
    Calls Tryz.prog 152 #[.pointer (some ⟨x, 0, none⟩), fv] w fun e w' => (∃ v, e = .returned v) ∧ RunNew (acqSub (wd 0 2 3 0 0) (wd 0 2 3 0 1) (wd 0 2 3 0 2) who) AcqT.fresh w w' x (hvCells who nx cl p lk st id ct) 156 fv := by
  have hlt := h.lt
  have hH : Hid (w.drew.cell? ⟨x, 2, none⟩ = some (.pointer (some ⟨cl, 0, none⟩))) := h.drew.cell 2 (v := .pointer (some ⟨cl, 0, none⟩)) rfl
  have hO := who_any w.drew x who (h.drew.cell 0 rfl)
  have hR := lock_fresh w.drew cl 0 who
  have HH : Hid (Blk w x (hvCells who nx cl p lk st id ct) 156 ∧ Fv fv) := ⟨h, hf⟩
  have HG : Hid (((acqSub (wd 0 2 3 0 0) (wd 0 2 3 0 1) (wd 0 2 3 0 2) who)).I.Good ((acqSub (wd 0 2 3 0 0) (wd 0 2 3 0 1) (wd 0 2 3 0 2) who)).M) := Fl.good (acq_laws _ _ _ who hw)
  clear h hw
  cases hf
  all_goals
    go_enter Tryz.func152, Tryz.ntmps152
    go_wp2_with fail
    go_region_held3 (fun X => X.cell? ⟨x, 2, none⟩ = some (.pointer (some ⟨cl, 0, none⟩))) (first | exact hH.out | assumption) (first | (go_at_call 144; refine hO.mono ?_; rintro e w3 ⟨rfl, rfl⟩) | (go_at_call 146; refine hR.mono ?_; rintro e w4 ⟨y, L, rfl, k1, k4, k5, k6, a, k7⟩; have q4 : w4.cell? ⟨x, 2, none⟩ = some (.pointer (some ⟨cl, 0, none⟩)) := (HH.out.1.but (But.of_below (l := []) (show Below w.heap.size w w4 from (Below.refl _ _).drew.trans k4)) (by simp)).cell 2 rfl; have hB4 : But [x] w w4 := ((But.refl [x] w).drew).trans (But.of_below k4); have hf := frun_acq w4 x y _ 156 _ a (HH.out.1.but (But.of_below (l := []) (show Below w.heap.size w w4 from (Below.refl _ _).drew.trans k4)) (by simp)) (by simp [hvCells]) HH.out.2 (by have : w.heap.size ≤ y := k5; omega) k7) | (go_at_call 98; refine hf.mono ?_; rintro e w5 ⟨⟨v, rfl⟩, q, b, hC⟩; have q5 : w5.cell? ⟨x, 2, none⟩ = some (.pointer (some ⟨cl, 0, none⟩)) := hC.at'.own.cell 2 rfl))
    all_goals
      have k6' : ∀ k ∈ L, w.heap.size ≤ k := k6
      have HRN : Hid (RunNew (acqSub (wd 0 2 3 0 0) (wd 0 2 3 0 1) (wd 0 2 3 0 2) who) AcqT.fresh w w5 x (hvCells who nx cl p lk st id ct) 156 _) := RunNew.mk (S := (acqSub (wd 0 2 3 0 0) (wd 0 2 3 0 1) (wd 0 2 3 0 2) who)) (W := w) HG.out k1 k6' hlt hB4 hC
      clear hO hR hH q4 q5 hf k1 k4 k5 k6 k6' k7 hC hB4 HH HG
      go_wp2_with fail
      go_end0
      exact ⟨⟨_, rfl⟩, HRN.out⟩
set_option maxHeartbeats 1000000 in
theorem hv_release  :
    Calls Tryz.prog 289 #[.pointer (some ⟨x, 0, none⟩)] w fun e w' => (∃ v, e = .returned v) ∧ RunNew (relSub (wd 0 2 3 0 1) (wd 0 2 3 0 2) who) RelT.fresh w w' x (hvCells who nx cl p lk st id ct) 156 .nilFunc := by
  have hlt := h.lt
  have hH : Hid (w.drew.cell? ⟨x, 2, none⟩ = some (.pointer (some ⟨cl, 0, none⟩))) := h.drew.cell 2 (v := .pointer (some ⟨cl, 0, none⟩)) rfl
  have hO := who_any w.drew x who (h.drew.cell 0 rfl)
  have hR := rel_fresh w.drew cl 0 who
  have HH : Hid (Blk w x (hvCells who nx cl p lk st id ct) 156) := h
  have HG : Hid (((relSub (wd 0 2 3 0 1) (wd 0 2 3 0 2) who)).I.Good ((relSub (wd 0 2 3 0 1) (wd 0 2 3 0 2) who)).M) := Fl.good (rel_laws _ _ who)
  clear h
  go_enter Tryz.func289, Tryz.ntmps289
  go_wp2_with fail
  go_region_held3 (fun X => X.cell? ⟨x, 2, none⟩ = some (.pointer (some ⟨cl, 0, none⟩))) (first | exact hH.out | assumption) (first | (go_at_call 144; refine hO.mono ?_; rintro e w3 ⟨rfl, rfl⟩) | (go_at_call 205; refine hR.mono ?_; rintro e w4 ⟨y, L, rfl, k1, k4, k5, k6, a, k7⟩; have q4 : w4.cell? ⟨x, 2, none⟩ = some (.pointer (some ⟨cl, 0, none⟩)) := (HH.out.but (But.of_below (l := []) (show Below w.heap.size w w4 from (Below.refl _ _).drew.trans k4)) (by simp)).cell 2 rfl; have hB4 : But [x] w w4 := ((But.refl [x] w).drew).trans (But.of_below k4); have hf := frun_rel w4 x y _ 156 _ a (HH.out.but (But.of_below (l := []) (show Below w.heap.size w w4 from (Below.refl _ _).drew.trans k4)) (by simp)) (by simp [hvCells]) .none (by have : w.heap.size ≤ y := k5; omega) k7) | (go_at_call 98; refine hf.mono ?_; rintro e w5 ⟨⟨v, rfl⟩, q, b, hC⟩; have q5 : w5.cell? ⟨x, 2, none⟩ = some (.pointer (some ⟨cl, 0, none⟩)) := hC.at'.own.cell 2 rfl))
  all_goals
    have k6' : ∀ k ∈ L, w.heap.size ≤ k := k6
    have HRN : Hid (RunNew (relSub (wd 0 2 3 0 1) (wd 0 2 3 0 2) who) RelT.fresh w w5 x (hvCells who nx cl p lk st id ct) 156 _) := RunNew.mk (S := (relSub (wd 0 2 3 0 1) (wd 0 2 3 0 2) who)) (W := w) HG.out k1 k6' hlt hB4 hC
    clear hO hR hH q4 q5 hf k1 k4 k5 k6 k6' k7 hC hB4 HH HG
    go_wp2_with fail
    go_end0
    exact ⟨⟨_, rfl⟩, HRN.out⟩
theorem hv_judge_no (hw : 0 ≤ who ∧ who ≤ 1000000) (y : Nat) (hlk : lk = some ⟨y, 0, none⟩) (hE : Calls Tryz.prog 151 #[.pointer (some ⟨y, 0, none⟩)] w fun e w' => e = .returned (.bool false) ∧ w = w') :
    Calls Tryz.prog 99 #[.pointer (some ⟨x, 0, none⟩)] w fun e w' => (∃ v, e = .returned v) ∧ RunNew (acqSub (wd 0 2 3 0 0) (wd 0 2 3 0 1) (wd 0 2 3 0 2) who) AcqT.fresh w w' x (hvCells who nx cl p lk st id ct) 156 (.func (.func 153) #[.pointer (some ⟨x, 0, none⟩)] #[]) := by
  subst hlk
  have H := hv_acquire w x cl who p (some ⟨y, 0, none⟩) st id nx ct h hw (.func (.func 153) #[.pointer (some ⟨x, 0, none⟩)] #[]) (.some _ _ _)
  have c4 := h.cell 4 (v := .pointer (some ⟨y, 0, none⟩)) rfl
  clear h hw
  go_enter Tryz.func99, Tryz.ntmps99
  go_wp2_with fail
  go_at_call 151; refine hE.mono ?_; rintro e w1 ⟨rfl, rfl⟩
  clear hE c4
  go_wp2_with fail
  go_at_call 152; refine H.mono ?_; rintro e w1 ⟨⟨u, rfl⟩, hC⟩
  clear H
  go_wp2_with fail
  refine bodyPost_ret (results_none rfl _ _ _) rfl ?_
  exact ⟨⟨_, rfl⟩, hC⟩
theorem hv_judge_yes (y : Nat) (hlk : lk = some ⟨y, 0, none⟩) (hE : Calls Tryz.prog 151 #[.pointer (some ⟨y, 0, none⟩)] w fun e w' => e = .returned (.bool true) ∧ w = w') :
    Calls Tryz.prog 99 #[.pointer (some ⟨x, 0, none⟩)] w fun e w' => (∃ v, e = .returned v) ∧ Came w w' x (hvCells who nx cl p lk st id ct) 156 (axLd 8) (.told 155) := by
  subst hlk
  have H := hv_load w x cl who p (some ⟨y, 0, none⟩) st id nx ct h 8 (by omega) 155
  have c4 := h.cell 4 (v := .pointer (some ⟨y, 0, none⟩)) rfl
  clear h
  go_enter Tryz.func99, Tryz.ntmps99
  go_wp2_with fail
  go_at_call 151; refine hE.mono ?_; rintro e w1 ⟨rfl, rfl⟩
  clear hE c4
  go_wp2_with fail
  go_at_call 154; refine H.mono ?_; rintro e w1 ⟨⟨u, rfl⟩, hC⟩
  clear H
  go_wp2_with fail
  go_end0
  exact ⟨⟨_, rfl⟩, hC⟩
theorem hv_seek_yes (v : Int) (hv : v ≠ 0) (hw : 0 ≤ who ∧ who ≤ 1000000) :
    Calls Tryz.prog 155 #[.pointer (some ⟨x, 0, none⟩), .int .u64 v] w fun e w' => (∃ v, e = .returned v) ∧ RunNew (acqSub (wd 0 2 3 0 0) (wd 0 2 3 0 1) (wd 0 2 3 0 2) who) AcqT.fresh w w' x (hvCells who nx cl p lk st id ct) 156 (.func (.func 153) #[.pointer (some ⟨x, 0, none⟩)] #[]) := by
  have hd : (v != 0) = true := by simpa using hv
  have hd0 : (v == 0) = false := by simpa using hv
  have H := hv_acquire w x cl who p lk st id nx ct h hw (.func (.func 153) #[.pointer (some ⟨x, 0, none⟩)] #[]) (.some _ _ _)
  clear h hv hw
  go_enter Tryz.func155, Tryz.ntmps155
  go_wp2_with fail
  go_at_call 152; refine H.mono ?_; rintro e w1 ⟨⟨u, rfl⟩, hC⟩
  clear H
  go_wp2_with fail
  refine bodyPost_ret (results_none rfl _ _ _) rfl ?_
  exact ⟨⟨_, rfl⟩, hC⟩
theorem hv_seek_no :
    Calls Tryz.prog 155 #[.pointer (some ⟨x, 0, none⟩), .int .u64 0] w fun e w' => (∃ v, e = .returned v) ∧ Came w w' x (hvCells who nx cl p lk st id ct) 156 (axLd 13) (.told 191) := by
  have H := hv_load w x cl who p lk st id nx ct h 13 (by omega) 191
  clear h
  go_enter Tryz.func155, Tryz.ntmps155
  go_wp2_with fail
  go_at_call 154; refine H.mono ?_; rintro e w1 ⟨⟨u, rfl⟩, hC⟩
  clear H
  go_wp2_with fail
  go_end0
  exact ⟨⟨_, rfl⟩, hC⟩
theorem hv_lookAgain (hw : 0 ≤ who ∧ who ≤ 1000000) :
    Calls Tryz.prog 208 #[.pointer (some ⟨x, 0, none⟩)] w fun e w' => (∃ v, e = .returned v) ∧ RunNew (acqSub (wd 0 2 3 0 0) (wd 0 2 3 0 1) (wd 0 2 3 0 2) who) AcqT.fresh w w' x (hvCells who nx cl p lk st id ct) 156 (.func (.func 225) #[.pointer (some ⟨x, 0, none⟩)] #[]) := by
  have H := hv_acquire w x cl who p lk st id nx ct h hw (.func (.func 225) #[.pointer (some ⟨x, 0, none⟩)] #[]) (.some _ _ _)
  clear h hw
  go_enter Tryz.func208, Tryz.ntmps208
  go_wp2_with fail
  go_at_call 152; refine H.mono ?_; rintro e w1 ⟨⟨u, rfl⟩, hC⟩
  clear H
  go_wp2_with fail
  go_end0
  exact ⟨⟨_, rfl⟩, hC⟩
theorem hv_consider_yes (v : Int) (hv : v ≠ 0) (hw : 0 ≤ who ∧ who ≤ 1000000) :
    Calls Tryz.prog 191 #[.pointer (some ⟨x, 0, none⟩), .int .u64 v] w fun e w' => (∃ v, e = .returned v) ∧ RunNew (acqSub (wd 0 2 3 0 0) (wd 0 2 3 0 1) (wd 0 2 3 0 2) who) AcqT.fresh w w' x (hvCells who nx cl p lk st id ct) 156 (.func (.func 225) #[.pointer (some ⟨x, 0, none⟩)] #[]) := by
  have hd : (v != 0) = true := by simpa using hv
  have hd0 : (v == 0) = false := by simpa using hv
  have H := hv_lookAgain w x cl who p lk st id nx ct h hw
  clear h hv hw
  go_enter Tryz.func191, Tryz.ntmps191
  go_wp2_with fail
  go_at_call 208; refine H.mono ?_; rintro e w1 ⟨⟨u, rfl⟩, hC⟩
  clear H
  go_wp2_with fail
  refine bodyPost_ret (results_none rfl _ _ _) rfl ?_
  exact ⟨⟨_, rfl⟩, hC⟩
theorem hv_consider_no :
    Calls Tryz.prog 191 #[.pointer (some ⟨x, 0, none⟩), .int .u64 0] w fun e w' => (∃ v, e = .returned v) ∧ Came w w' x (hvCells who nx cl p lk st id ct) 156 (axLd 10) (.told 209) := by
  have H := hv_load w x cl who p lk st id nx ct h 10 (by omega) 209
  clear h
  go_enter Tryz.func191, Tryz.ntmps191
  go_wp2_with fail
  go_at_call 154; refine H.mono ?_; rintro e w1 ⟨⟨u, rfl⟩, hC⟩
  clear H
  go_wp2_with fail
  go_end0
  exact ⟨⟨_, rfl⟩, hC⟩
theorem hv_count_yes (v : Int) (hv : v ≠ 0) (hw : 0 ≤ who ∧ who ≤ 1000000) :
    Calls Tryz.prog 209 #[.pointer (some ⟨x, 0, none⟩), .int .u64 v] w fun e w' => (∃ v, e = .returned v) ∧ RunNew (acqSub (wd 0 2 3 0 0) (wd 0 2 3 0 1) (wd 0 2 3 0 2) who) AcqT.fresh w w' x (hvCells who nx cl p lk st id ct) 156 (.func (.func 225) #[.pointer (some ⟨x, 0, none⟩)] #[]) := by
  have hd : (v != 0) = true := by simpa using hv
  have hd0 : (v == 0) = false := by simpa using hv
  have H := hv_lookAgain w x cl who p lk st id nx ct h hw
  clear h hv hw
  go_enter Tryz.func209, Tryz.ntmps209
  go_wp2_with fail
  go_at_call 208; refine H.mono ?_; rintro e w1 ⟨⟨u, rfl⟩, hC⟩
  clear H
  go_wp2_with fail
  refine bodyPost_ret (results_none rfl _ _ _) rfl ?_
  exact ⟨⟨_, rfl⟩, hC⟩
theorem hv_count_no :
    Calls Tryz.prog 209 #[.pointer (some ⟨x, 0, none⟩), .int .u64 0] w fun e w' => (∃ v, e = .returned v) ∧ Came w w' x (hvCells who nx cl p lk st id ct) 156 (axSw 13 0 1) (.swap 226) := by
  have H := came_swap w.drew x _ 156 h.drew (by simp [hvCells]) 13 0 1 226
  have c2 := h.cell 2 (v := .pointer (some ⟨cl, 0, none⟩)) rfl
  have hW := il_word w.drew cl 13 (by omega)
  clear h
  go_enter Tryz.func209, Tryz.ntmps209
  go_wp2_with fail
  go_region_with (first | (go_at_call 68; refine hW.mono ?_; rintro e w3 ⟨rfl, rfl⟩) | (go_at_call 164; refine H.mono ?_; rintro e w1 ⟨⟨v, rfl⟩, hC⟩))
  all_goals
    have hC2 := hC.undrew
    clear hW H c2 hC
    go_wp2_with fail
    go_end0
    exact ⟨⟨_, rfl⟩, hC2⟩
theorem hv_counted_no (hw : 0 ≤ who ∧ who ≤ 1000000) :
    Calls Tryz.prog 226 #[.pointer (some ⟨x, 0, none⟩), .bool false] w fun e w' => (∃ v, e = .returned v) ∧ RunNew (acqSub (wd 0 2 3 0 0) (wd 0 2 3 0 1) (wd 0 2 3 0 2) who) AcqT.fresh w w' x (hvCells who nx cl p lk st id ct) 156 (.func (.func 225) #[.pointer (some ⟨x, 0, none⟩)] #[]) := by
  have H := hv_lookAgain w x cl who p lk st id nx ct h hw
  clear h hw
  go_enter Tryz.func226, Tryz.ntmps226
  go_wp2_with fail
  go_at_call 208; refine H.mono ?_; rintro e w1 ⟨⟨u, rfl⟩, hC⟩
  clear H
  go_wp2_with fail
  refine bodyPost_ret (results_none rfl _ _ _) rfl ?_
  exact ⟨⟨_, rfl⟩, hC⟩
theorem hv_counted_yes :
    Calls Tryz.prog 226 #[.pointer (some ⟨x, 0, none⟩), .bool true] w fun e w' => (∃ v, e = .returned v) ∧ Came w w' x (hvCells who nx cl p lk st id true) 156 (axSt 14 0) (.untold 246) := by
  have c7 := h.cell 7 (v := .bool ct) rfl
  have f7 := h.fro 7
  obtain ⟨V, hV⟩ : ∃ V, (w.setCell ⟨x, 7, none⟩ (.bool true)) = V := ⟨_, rfl⟩
  have h' : Blk V x (hvCells who nx cl p lk st id true) 156 := by rw [← hV]; exact h.set 7 (.bool true)
  have hB : But [x] w V := by rw [← hV]; exact (But.refl _ w).set (g := x) (.inl (by simp)) 7 _
  have H := hv_store V x cl who p lk st id nx true h' 14 (by omega) 0 246
  clear h h'
  go_enter Tryz.func226, Tryz.ntmps226
  go_wp2_with fail
  try rw [hV]
  clear hV c7 f7
  go_at_call 245; refine H.mono ?_; rintro e w1 ⟨⟨u, rfl⟩, hC⟩
  have hC2 := hC.before hB
  clear H hC hB
  go_wp2_with fail
  go_end0
  exact ⟨⟨_, rfl⟩, hC2⟩
theorem hv_acquireForSpinning (hw : 0 ≤ who ∧ who ≤ 1000000) :
    Calls Tryz.prog 246 #[.pointer (some ⟨x, 0, none⟩)] w fun e w' => (∃ v, e = .returned v) ∧ RunNew (acqSub (wd 0 2 3 0 0) (wd 0 2 3 0 1) (wd 0 2 3 0 2) who) AcqT.fresh w w' x (hvCells who nx cl p lk st id ct) 156 (.func (.func 263) #[.pointer (some ⟨x, 0, none⟩)] #[]) := by
  have H := hv_acquire w x cl who p lk st id nx ct h hw (.func (.func 263) #[.pointer (some ⟨x, 0, none⟩)] #[]) (.some _ _ _)
  clear h hw
  go_enter Tryz.func246, Tryz.ntmps246
  go_wp2_with fail
  go_at_call 152; refine H.mono ?_; rintro e w1 ⟨⟨u, rfl⟩, hC⟩
  clear H
  go_wp2_with fail
  go_end0
  exact ⟨⟨_, rfl⟩, hC⟩
theorem hv_loadAgain :
    Calls Tryz.prog 225 #[.pointer (some ⟨x, 0, none⟩)] w fun e w' => (∃ v, e = .returned v) ∧ Came w w' x (hvCells who nx cl p lk st id ct) 156 (axLd 8) (.told 244) := by
  have H := hv_load w x cl who p lk st id nx ct h 8 (by omega) 244
  clear h
  go_enter Tryz.func225, Tryz.ntmps225
  go_wp2_with fail
  go_at_call 154; refine H.mono ?_; rintro e w1 ⟨⟨u, rfl⟩, hC⟩
  clear H
  go_wp2_with fail
  go_end0
  exact ⟨⟨_, rfl⟩, hC⟩
theorem hv_judgeAgain_no :
    Calls Tryz.prog 244 #[.pointer (some ⟨x, 0, none⟩), .int .u64 0] w fun e w' => (∃ v, e = .returned v) ∧ Came w w' x (hvCells who nx cl p lk st id ct) 156 (axLd 14) (.told 262) := by
  have H := hv_load w x cl who p lk st id nx ct h 14 (by omega) 262
  clear h
  go_enter Tryz.func244, Tryz.ntmps244
  go_wp2_with fail
  go_at_call 154; refine H.mono ?_; rintro e w1 ⟨⟨u, rfl⟩, hC⟩
  clear H
  go_wp2_with fail
  go_end0
  exact ⟨⟨_, rfl⟩, hC⟩
theorem hv_serve_yes (v : Int) (hv : v ≠ 0) :
    Calls Tryz.prog 262 #[.pointer (some ⟨x, 0, none⟩), .int .u64 v] w fun e w' => (∃ v, e = .returned v) ∧ Came w w' x (hvCells who nx cl p lk st id ct) 156 (axAd 13 1) (.told 278) := by
  have hd : (v != 0) = true := by simpa using hv
  have hd0 : (v == 0) = false := by simpa using hv
  have H := came_add w.drew x _ 156 h.drew (by simp [hvCells]) 13 1 278
  have c2 := h.cell 2 (v := .pointer (some ⟨cl, 0, none⟩)) rfl
  have hW := il_word w.drew cl 13 (by omega)
  clear h hv
  go_enter Tryz.func262, Tryz.ntmps262
  go_wp2_with fail
  go_region_with (first | (go_at_call 68; refine hW.mono ?_; rintro e w3 ⟨rfl, rfl⟩) | (go_at_call 185; refine H.mono ?_; rintro e w1 ⟨⟨v, rfl⟩, hC⟩))
  all_goals
    have hC2 := hC.undrew
    clear hW H c2 hC
    go_wp2_with fail
    go_end0
    exact ⟨⟨_, rfl⟩, hC2⟩
theorem hv_served (u : Int) :
    Calls Tryz.prog 278 #[.pointer (some ⟨x, 0, none⟩), .int .u64 u] w fun e w' => (∃ v, e = .returned v) ∧ Came w w' x (hvCells who nx cl p lk st id true) 156 (axSt 14 0) (.untold 263) := by
  have c7 := h.cell 7 (v := .bool ct) rfl
  have f7 := h.fro 7
  obtain ⟨V, hV⟩ : ∃ V, (w.setCell ⟨x, 7, none⟩ (.bool true)) = V := ⟨_, rfl⟩
  have h' : Blk V x (hvCells who nx cl p lk st id true) 156 := by rw [← hV]; exact h.set 7 (.bool true)
  have hB : But [x] w V := by rw [← hV]; exact (But.refl _ w).set (g := x) (.inl (by simp)) 7 _
  have H := hv_store V x cl who p lk st id nx true h' 14 (by omega) 0 263
  clear h h'
  go_enter Tryz.func278, Tryz.ntmps278
  go_wp2_with fail
  try rw [hV]
  clear hV c7 f7
  go_at_call 245; refine H.mono ?_; rintro e w1 ⟨⟨u2, rfl⟩, hC⟩
  have hC2 := hC.before hB
  clear H hC hB
  go_wp2_with fail
  go_end0
  exact ⟨⟨_, rfl⟩, hC2⟩
set_option maxHeartbeats 4000000 in
theorem hv_begin (sp : Bool) (P T G : Int) (hw : 0 ≤ who ∧ who ≤ 1000000) (hp : 0 ≤ P ∧ P ≤ 64) (hT : 0 ≤ T ∧ T ≤ 65536) :
    Calls Tryz.prog 190 #[.pointer (some ⟨x, 0, none⟩), .bool sp] w fun e w' => (∃ v, e = .returned v) ∧ HvHeld (hvSt who P T G p sp cl) (WsT.get .ld) w w' x (fun y => hvCells who nx cl p lk (some ⟨y, 0, none⟩) id false) 156 .nilFunc := by
  have c7 := h.cell 7 (v := .bool ct) rfl
  have f7 := h.fro 7
  obtain ⟨V0, hV⟩ : ∃ V, (w.setCell ⟨x, 7, none⟩ (.bool false)) = V := ⟨_, rfl⟩
  have h' : Blk V0 x (hvCells who nx cl p lk st id false) 156 := by rw [← hV]; exact h.set 7 (.bool false)
  have hB : But [x] w V0 := by rw [← hV]; exact (But.refl _ w).set (g := x) (.inl (by simp)) 7 _
  have hlt := h'.lt
  have hO := who_any V0.drew x who (h'.drew.cell 0 rfl)
  have hN := ws_new_at V0.drew cl who p P T G sp true hp hT
  have HG : Hid ((wsCp who P T G p sp true cl).I.Good (wsPM P T p sp true)) := Cp.good (ws_laws hw hp hT)
  have HH : Hid (Blk V0 x (hvCells who nx cl p lk st id false) 156) := h'
  have hH : Hid (V0.drew.cell? ⟨x, 2, none⟩ = some (.pointer (some ⟨cl, 0, none⟩)) ∧ V0.drew.cell? ⟨x, 3, none⟩ = some (.int .i64 p)) := ⟨h'.drew.cell 2 rfl, h'.drew.cell 3 rfl⟩
  have KB : Hid (∀ w4, Below V0.drew.heap.size V0.drew w4 → w4.cell? ⟨x, 2, none⟩ = some (.pointer (some ⟨cl, 0, none⟩)) ∧ w4.cell? ⟨x, 3, none⟩ = some (.int .i64 p)) := fun w4 k => ⟨(h'.drew.but (But.of_below (l := []) k) (by simp)).cell 2 rfl, (h'.drew.but (But.of_below (l := []) k) (by simp)).cell 3 rfl⟩
  have HST : Hid (∀ (X : World) (u : Value), Blk X x (hvCells who nx cl p lk st id false) 156 → (X.setCell ⟨x, 5, none⟩ u).cell? ⟨x, 2, none⟩ = some (.pointer (some ⟨cl, 0, none⟩)) ∧ (X.setCell ⟨x, 5, none⟩ u).cell? ⟨x, 3, none⟩ = some (.int .i64 p)) := fun X u h => ⟨(h.set 5 u).cell 2 rfl, (h.set 5 u).cell 3 rfl⟩
  clear h h' hw hp hT
  go_enter Tryz.func190, Tryz.ntmps190
  go_wp2_with fail
  try rw [hV]
  clear hV c7 f7
  go_region_held3 (fun w' => w'.cell? ⟨x, 2, none⟩ = some (.pointer (some ⟨cl, 0, none⟩)) ∧ w'.cell? ⟨x, 3, none⟩ = some (.int .i64 p)) (first | exact hH.out | exact HST.out _ _ ‹_› | exact KB.out _ ‹_›) (first | (go_at_call 144; refine hO.mono ?_; rintro e w3 ⟨rfl, rfl⟩) | (go_at_call 207; refine hN.mono ?_; rintro e w4 ⟨y, L, rfl, k1, k2, k3, k4⟩; have h4 : Blk w4 x (hvCells who nx cl p lk st id false) 156 := HH.out.but (But.of_below (l := []) (show Below V0.heap.size V0 w4 from (Below.refl _ _).drew.trans k2)) (by simp); have c8 := h4.cell 5 (v := .pointer st) rfl; have f8 := h4.fro 5; have l8 := h4.lt))
  all_goals
    have k3' : ∀ k ∈ L, V0.heap.size ≤ k := k3
    have k4' : V0.heap.size ≤ y := k4
    have hB4 : But [x] V0 (w4.setCell ⟨x, 5, none⟩ (.pointer (some ⟨y, 0, none⟩))) := (((But.refl [x] V0).drew).trans (But.of_below k2)).set (g := x) (.inl (by simp)) 5 _
    have h5 : Blk (w4.setCell ⟨x, 5, none⟩ (.pointer (some ⟨y, 0, none⟩))) x (hvCells who nx cl p lk (some ⟨y, 0, none⟩) id false) 156 := h4.set 5 _
    have hI5 : (wsCp who P T G p sp true cl).I (w4.setCell ⟨x, 5, none⟩ (.pointer (some ⟨y, 0, none⟩))) y (.get .ld) L := HG.out.keep k1 ((But.refl [x] w4).set (g := x) (.inl (by simp)) 5 _) (fun k hk => by have := k3' k hk; simp; omega)
    generalize (w4.setCell ⟨x, 5, none⟩ (.pointer (some ⟨y, 0, none⟩))) = V at *
    obtain ⟨a, ha⟩ : ∃ a, V.cell? ⟨y, 1, none⟩ = some (.pointer (some a)) := by
      obtain ⟨nx, q1, q2⟩ := HG.out.next hI5
      cases nx with
      | none => cases q2
      | some a => exact ⟨a, q1⟩
    have c8' := h5.cell 5 (v := .pointer (some ⟨y, 0, none⟩)) rfl
    have hf := frun_wst V.drew x y _ 156 .nilFunc a h5.drew (by simp [hvCells]) .none (by omega) (by simpa using ha)
    clear hO hN k1 k2 k3 k4 h4 c8 f8 l8 HH hH KB HST
    go_wp2_with fail
    go_region_with (first | (go_at_call 98; refine hf.mono ?_; rintro e w5 ⟨⟨v, rfl⟩, q, b, hC⟩))
    all_goals
      have hlL := HG.out.lt hI5
      have f1 : V.heap.size ≤ q := hC.at'.fresh
      have f2 : V.heap.size ≤ b := hC.fresh
      have hI6 := HG.out.keep hI5 (((But.refl [x] V).drew).trans hC.at'.but) (fun k hk => by have := k3' k hk; simp; omega)
      have hC6 := (hC.before ((But.refl [x] V).drew |> hB4.trans)).before hB
      have hq : q ∉ L ∧ b ∉ L := ⟨fun hm => by have := hlL q hm; omega, fun hm => by have := hlL b hm; omega⟩
      have hszB := hB.size
      clear hf hC c8' hB4 h5 hI5 HG hB
      go_wp2_with fail
      go_end0
      exact ⟨⟨_, rfl⟩, y, q, b, L, hC6, hI6, (fun k hk => Nat.le_trans hszB (k3' k hk)), hq.1, hq.2⟩
theorem hv_startPlain (P T G : Int) (hw : 0 ≤ who ∧ who ≤ 1000000) (hp : 0 ≤ P ∧ P ≤ 64) (hT : 0 ≤ T ∧ T ≤ 65536) :
    Calls Tryz.prog 153 #[.pointer (some ⟨x, 0, none⟩)] w fun e w' => (∃ v, e = .returned v) ∧ HvHeld (hvSt who P T G p false cl) (WsT.get .ld) w w' x (fun y => hvCells who nx cl p lk (some ⟨y, 0, none⟩) id false) 156 .nilFunc := by
  have H := hv_begin w x cl who p lk st id nx ct h false P T G hw hp hT
  clear h hw hp hT
  go_enter Tryz.func153, Tryz.ntmps153
  go_wp2_with fail
  go_at_call 190; refine H.mono ?_; rintro e w1 ⟨⟨u, rfl⟩, hC⟩
  clear H
  go_wp2_with fail
  go_end0
  exact ⟨⟨_, rfl⟩, hC⟩
theorem hv_startSpinning (P T G : Int) (hw : 0 ≤ who ∧ who ≤ 1000000) (hp : 0 ≤ P ∧ P ≤ 64) (hT : 0 ≤ T ∧ T ≤ 65536) :
    Calls Tryz.prog 263 #[.pointer (some ⟨x, 0, none⟩)] w fun e w' => (∃ v, e = .returned v) ∧ HvHeld (hvSt who P T G p true cl) (WsT.get .ld) w w' x (fun y => hvCells who nx cl p lk (some ⟨y, 0, none⟩) id false) 156 .nilFunc := by
  have H := hv_begin w x cl who p lk st id nx ct h true P T G hw hp hT
  clear h hw hp hT
  go_enter Tryz.func263, Tryz.ntmps263
  go_wp2_with fail
  go_at_call 190; refine H.mono ?_; rintro e w1 ⟨⟨u, rfl⟩, hC⟩
  clear H
  go_wp2_with fail
  go_end0
  exact ⟨⟨_, rfl⟩, hC⟩
theorem hv_judgeAgain_yes (v : Int) (hv : v ≠ 0) (P T G : Int) (hw : 0 ≤ who ∧ who ≤ 1000000) (hp : 0 ≤ P ∧ P ≤ 64) (hT : 0 ≤ T ∧ T ≤ 65536) :
    Calls Tryz.prog 244 #[.pointer (some ⟨x, 0, none⟩), .int .u64 v] w fun e w' => (∃ v, e = .returned v) ∧ HvHeld (hvSt who P T G p false cl) (WsT.get .ld) w w' x (fun y => hvCells who nx cl p lk (some ⟨y, 0, none⟩) id false) 156 .nilFunc := by
  have hd : (v != 0) = true := by simpa using hv
  have hd0 : (v == 0) = false := by simpa using hv
  have H := hv_startPlain w x cl who p lk st id nx ct h P T G hw hp hT
  clear h hv hw hp hT
  go_enter Tryz.func244, Tryz.ntmps244
  go_wp2_with fail
  go_at_call 153; refine H.mono ?_; rintro e w1 ⟨⟨u, rfl⟩, hC⟩
  clear H
  go_wp2_with fail
  refine bodyPost_ret (results_none rfl _ _ _) rfl ?_
  exact ⟨⟨_, rfl⟩, hC⟩
set_option maxHeartbeats 4000000 in
theorem hv_putIdle (P T G : Int) (hp : 0 ≤ P ∧ P ≤ 64) (hT : 0 ≤ T ∧ T ≤ 65536) :
    Calls Tryz.prog 277 #[.pointer (some ⟨x, 0, none⟩)] w fun e w' => (∃ v, e = .returned v) ∧ HvHeld (hvIp who P T G p cl) IpT.m0 w w' x (fun y => hvCells who nx cl p lk st (some ⟨y, 0, none⟩) ct) 156 (.func (.func 289) #[.pointer (some ⟨x, 0, none⟩)] #[]) := by
  have hlt := h.lt
  have hO := who_any w.drew x who (h.drew.cell 0 rfl)
  have hN := ip_new w.drew cl who p P
  have HG : Hid (((ipFl who p cl).I (ipPM P p)).Good (ipPM P p)) := Fl.good (ip_laws who P T G p cl hp hT)
  have HH : Hid (Blk w x (hvCells who nx cl p lk st id ct) 156) := h
  have hH : Hid (w.drew.cell? ⟨x, 2, none⟩ = some (.pointer (some ⟨cl, 0, none⟩)) ∧ w.drew.cell? ⟨x, 3, none⟩ = some (.int .i64 p)) := ⟨h.drew.cell 2 rfl, h.drew.cell 3 rfl⟩
  have KB : Hid (∀ w4, Below w.drew.heap.size w.drew w4 → w4.cell? ⟨x, 2, none⟩ = some (.pointer (some ⟨cl, 0, none⟩)) ∧ w4.cell? ⟨x, 3, none⟩ = some (.int .i64 p)) := fun w4 k => ⟨(h.drew.but (But.of_below (l := []) k) (by simp)).cell 2 rfl, (h.drew.but (But.of_below (l := []) k) (by simp)).cell 3 rfl⟩
  have HST : Hid (∀ (X : World) (u : Value), Blk X x (hvCells who nx cl p lk st id ct) 156 → (X.setCell ⟨x, 6, none⟩ u).cell? ⟨x, 2, none⟩ = some (.pointer (some ⟨cl, 0, none⟩)) ∧ (X.setCell ⟨x, 6, none⟩ u).cell? ⟨x, 3, none⟩ = some (.int .i64 p)) := fun X u h => ⟨(h.set 6 u).cell 2 rfl, (h.set 6 u).cell 3 rfl⟩
  clear h hp hT
  go_enter Tryz.func277, Tryz.ntmps277
  go_wp2_with fail
  go_region_held3 (fun w' => w'.cell? ⟨x, 2, none⟩ = some (.pointer (some ⟨cl, 0, none⟩)) ∧ w'.cell? ⟨x, 3, none⟩ = some (.int .i64 p)) (first | exact hH.out | exact HST.out _ _ ‹_› | exact KB.out _ ‹_›) (first | (go_at_call 144; refine hO.mono ?_; rintro e w3 ⟨rfl, rfl⟩) | (go_at_call 274; refine hN.mono ?_; rintro e w4 ⟨y, L, rfl, k1, k2, k3, k4⟩; have h4 : Blk w4 x (hvCells who nx cl p lk st id ct) 156 := HH.out.but (But.of_below (l := []) (show Below w.heap.size w w4 from (Below.refl _ _).drew.trans k2)) (by simp); have c8 := h4.cell 6 (v := .pointer id) rfl; have f8 := h4.fro 6; have l8 := h4.lt))
  all_goals
    have k3' : ∀ k ∈ L, w.heap.size ≤ k := k3
    have k4' : w.heap.size ≤ y := k4
    have hB4 : But [x] w (w4.setCell ⟨x, 6, none⟩ (.pointer (some ⟨y, 0, none⟩))) := (((But.refl [x] w).drew).trans (But.of_below k2)).set (g := x) (.inl (by simp)) 6 _
    have h5 : Blk (w4.setCell ⟨x, 6, none⟩ (.pointer (some ⟨y, 0, none⟩))) x (hvCells who nx cl p lk st (some ⟨y, 0, none⟩) ct) 156 := h4.set 6 _
    have hI5 : (ipFl who p cl).I (ipPM P p) (w4.setCell ⟨x, 6, none⟩ (.pointer (some ⟨y, 0, none⟩))) y .m0 L := HG.out.keep k1 ((But.refl [x] w4).set (g := x) (.inl (by simp)) 6 _) (fun k hk => by have := k3' k hk; simp; omega)
    generalize (w4.setCell ⟨x, 6, none⟩ (.pointer (some ⟨y, 0, none⟩))) = V at *
    obtain ⟨a, ha⟩ : ∃ a, V.cell? ⟨y, 1, none⟩ = some (.pointer (some a)) := by
      obtain ⟨nx, q1, q2⟩ := HG.out.next hI5
      cases nx with
      | none => cases q2
      | some a => exact ⟨a, q1⟩
    have c8' := h5.cell 6 (v := .pointer (some ⟨y, 0, none⟩)) rfl
    have hf := frun_ipp V.drew x y _ 156 (.func (.func 289) #[.pointer (some ⟨x, 0, none⟩)] #[]) a h5.drew (by simp [hvCells]) (.some _ _ _) (by omega) (by simpa using ha)
    clear hO hN k1 k2 k3 k4 h4 c8 f8 l8 HH hH KB HST
    go_wp2_with fail
    go_region_with (first | (go_at_call 98; refine hf.mono ?_; rintro e w5 ⟨⟨v, rfl⟩, q, b, hC⟩))
    all_goals
      have hlL := HG.out.lt hI5
      have f1 : V.heap.size ≤ q := hC.at'.fresh
      have f2 : V.heap.size ≤ b := hC.fresh
      have hI6 := HG.out.keep hI5 (((But.refl [x] V).drew).trans hC.at'.but) (fun k hk => by have := k3' k hk; simp; omega)
      have hC6 := hC.before ((But.refl [x] V).drew |> hB4.trans)
      have hq : q ∉ L ∧ b ∉ L := ⟨fun hm => by have := hlL q hm; omega, fun hm => by have := hlL b hm; omega⟩
      clear hf hC c8' hB4 h5 hI5 HG
      go_wp2_with fail
      go_end0
      exact ⟨⟨_, rfl⟩, y, q, b, L, hC6, hI6, k3', hq.1, hq.2⟩
theorem hv_serve_no (P T G : Int) (hp : 0 ≤ P ∧ P ≤ 64) (hT : 0 ≤ T ∧ T ≤ 65536) :
    Calls Tryz.prog 262 #[.pointer (some ⟨x, 0, none⟩), .int .u64 0] w fun e w' => (∃ v, e = .returned v) ∧ HvHeld (hvIp who P T G p cl) IpT.m0 w w' x (fun y => hvCells who nx cl p lk st (some ⟨y, 0, none⟩) ct) 156 (.func (.func 289) #[.pointer (some ⟨x, 0, none⟩)] #[]) := by
  have H := hv_putIdle w x cl who p lk st id nx ct h P T G hp hT
  clear h hp hT
  go_enter Tryz.func262, Tryz.ntmps262
  go_wp2_with fail
  go_at_call 277; refine H.mono ?_; rintro e w1 ⟨⟨u, rfl⟩, hC⟩
  clear H
  go_wp2_with fail
  refine bodyPost_ret (results_none rfl _ _ _) rfl ?_
  exact ⟨⟨_, rfl⟩, hC⟩
theorem hv_holds_p (y : Nat) (hlk : lk = some ⟨y, 0, none⟩) (hst : st = none) (hid : id = none) : Calls Tryz.prog 37 #[.pointer (some ⟨x, 0, none⟩)] w fun e w' => e = .returned (.int .i64 p) ∧ w = w' := by
  subst hlk hst hid
  have c3 := h.cell 3 (v := .int .i64 p) rfl
  have c4 := h.cell 4 (v := .pointer (some ⟨y, 0, none⟩)) rfl
  have c5 := h.cell 5 (v := .pointer none) rfl
  have c6 := h.cell 6 (v := .pointer none) rfl
  clear h
  go_enter Tryz.func37, Tryz.ntmps37
  go_wp2_with fail
  go_ret
  exact ⟨rfl, rfl⟩
theorem hv_holds_st (y z : Nat) (v : Int) (hlk : lk = some ⟨y, 0, none⟩) (hst : st = some ⟨z, 0, none⟩) (hP : Calls Tryz.prog 103 #[.pointer (some ⟨z, 0, none⟩)] w fun e w' => e = .returned (.int .i64 v) ∧ w = w') : Calls Tryz.prog 37 #[.pointer (some ⟨x, 0, none⟩)] w fun e w' => e = .returned (.int .i64 v) ∧ w = w' := by
  subst hlk hst
  have c4 := h.cell 4 (v := .pointer (some ⟨y, 0, none⟩)) rfl
  have c5 := h.cell 5 (v := .pointer (some ⟨z, 0, none⟩)) rfl
  clear h
  go_enter Tryz.func37, Tryz.ntmps37
  go_wp2_with fail
  go_at_call 103; refine hP.mono ?_; rintro e w1 ⟨rfl, rfl⟩
  clear hP
  go_wp2_with fail
  go_ret
  exact ⟨rfl, rfl⟩
theorem hv_holds_id (y z : Nat) (v : Int) (hlk : lk = some ⟨y, 0, none⟩) (hst : st = none) (hid : id = some ⟨z, 0, none⟩) (hP : Calls Tryz.prog 104 #[.pointer (some ⟨z, 0, none⟩)] w fun e w' => e = .returned (.int .i64 v) ∧ w = w') : Calls Tryz.prog 37 #[.pointer (some ⟨x, 0, none⟩)] w fun e w' => e = .returned (.int .i64 v) ∧ w = w' := by
  subst hlk hst hid
  have c4 := h.cell 4 (v := .pointer (some ⟨y, 0, none⟩)) rfl
  have c5 := h.cell 5 (v := .pointer none) rfl
  have c6 := h.cell 6 (v := .pointer (some ⟨z, 0, none⟩)) rfl
  clear h
  go_enter Tryz.func37, Tryz.ntmps37
  go_wp2_with fail
  go_at_call 104; refine hP.mono ?_; rintro e w1 ⟨rfl, rfl⟩
  clear hP
  go_wp2_with fail
  go_ret
  exact ⟨rfl, rfl⟩
theorem hv_counts : Calls Tryz.prog 38 #[.pointer (some ⟨x, 0, none⟩)] w fun e w' => e = .returned (.bool ct) ∧ w = w' := by
  have c7 := h.cell 7 (v := .bool ct) rfl
  clear h
  go_enter Tryz.func38, Tryz.ntmps38
  go_wp2_with fail
  go_ret
  exact ⟨rfl, rfl⟩
end
theorem hv_Holds_nil (w : World) : Calls Tryz.prog 37 #[.pointer none] w fun e w' => e = .returned (.int .i64 (-1)) ∧ w = w' := by
  go_enter Tryz.func37, Tryz.ntmps37
  go_wp2_with fail
  go_ret
  exact ⟨rfl, rfl⟩
theorem hv_Counts_nil (w : World) : Calls Tryz.prog 38 #[.pointer none] w fun e w' => e = .returned (.bool false) ∧ w = w' := by
  go_enter Tryz.func38, Tryz.ntmps38
  go_wp2_with fail
  go_ret
  exact ⟨rfl, rfl⟩
end Go.Proofs.YtfdpikkinlljlaaGreat
