/- Landing at a machine that runs others, in general. -/
import Derived.Test.YtcjidigpdecdlaaGreatSIF
import Derived.Test.YtcjidigpdecdlaaGreatSIB
namespace Go.Proofs.YtcjidigpdecdlaaGreat
open Go Go.RowKit
set_option linter.unusedVariables false
set_option maxRecDepth 100000
set_option linter.unusedSimpArgs false

def soCells (who : Int) (nx : Option Addr) (cl : Nat) (p g : Int) (kp : Bool) (ot : Option Addr) (cm rs : Bool) (qu : Option Addr) : Array Value := #[.int .i64 who, .pointer nx, .pointer (some ⟨cl, 0, none⟩), .int .i64 p, .int .i64 g, .bool kp, .pointer ot, .bool cm, .bool rs, .pointer qu]
def soIg (who P T G : Int) (cl : Nat) : Sub := ⟨IgT, igPM P, (igFl who cl).I (igPM P), Rd.lay cl P T G, 203, 370⟩
def soQp (who : Int) (gl : Int → Int) (cl : Nat) (P T G : Int) (l : List Int) : Sub := ⟨QpT, qpPM gl l, qpI who cl gl l, Rd.lay cl P T G, 189, 368⟩
/-- A machine was made, is held, and runs. -/
def SoHeld (S : Sub) (pt : S.τ) (W w' : World) (x : Nat) (cs : Nat → Array Value) (T : TypeId) (fv : Value) : Prop := ∃ y q b L, CameBox W w' x (cs y) T (fun v => comCells 0 0 0 0 0 false (.iface S.D (.pointer (some ⟨y, 0, none⟩))) v false false) fv q b ∧ S.I w' y pt L ∧ (∀ k ∈ L, W.heap.size ≤ k) ∧ q ∉ L ∧ b ∉ L
section
variable (w : World) (x cl : Nat) (who p g : Int) (kp cm rs : Bool) (ot qu nx : Option Addr) (h : Blk w x (soCells who nx cl p g kp ot cm rs qu) 205)
include h
set_option maxHeartbeats 1000000 in
theorem so_acquire (hw : 0 ≤ who ∧ who ≤ 1000000) (fv : Value) (hf : Fv fv) :
    Calls Tryz.prog 225 #[.pointer (some ⟨x, 0, none⟩), fv] w fun e w' => (∃ v, e = .returned v) ∧ RunNew (acqSub (wd 0 2 3 0 0) (wd 0 2 3 0 1) (wd 0 2 3 0 2) who) AcqT.fresh w w' x (soCells who nx cl p g kp ot cm rs qu) 205 fv := by
  have hlt := h.lt
  have hH : Hid (w.drew.cell? ⟨x, 2, none⟩ = some (.pointer (some ⟨cl, 0, none⟩))) := h.drew.cell 2 (v := .pointer (some ⟨cl, 0, none⟩)) rfl
  have hO := who_any w.drew x who (h.drew.cell 0 rfl)
  have hR := lock_fresh w.drew cl 0 who
  have HH : Hid (Blk w x (soCells who nx cl p g kp ot cm rs qu) 205 ∧ Fv fv) := ⟨h, hf⟩
  have HG : Hid (((acqSub (wd 0 2 3 0 0) (wd 0 2 3 0 1) (wd 0 2 3 0 2) who)).I.Good ((acqSub (wd 0 2 3 0 0) (wd 0 2 3 0 1) (wd 0 2 3 0 2) who)).M) := Fl.good (acq_laws _ _ _ who hw)
  clear h hw
  cases hf
  all_goals
    go_enter Tryz.func225, Tryz.ntmps225
    go_wp2_with fail
    go_region_held3 (fun X => X.cell? ⟨x, 2, none⟩ = some (.pointer (some ⟨cl, 0, none⟩))) (first | exact hH.out | assumption) (first | (go_at_call 172; refine hO.mono ?_; rintro e w3 ⟨rfl, rfl⟩) | (go_at_call 182; refine hR.mono ?_; rintro e w4 ⟨y, L, rfl, k1, k4, k5, k6, a, k7⟩; have q4 : w4.cell? ⟨x, 2, none⟩ = some (.pointer (some ⟨cl, 0, none⟩)) := (HH.out.1.but (But.of_below (l := []) (show Below w.heap.size w w4 from (Below.refl _ _).drew.trans k4)) (by simp)).cell 2 rfl; have hB4 : But [x] w w4 := ((But.refl [x] w).drew).trans (But.of_below k4); have hf := frun_acq w4 x y _ 205 _ a (HH.out.1.but (But.of_below (l := []) (show Below w.heap.size w w4 from (Below.refl _ _).drew.trans k4)) (by simp)) (by simp [soCells]) HH.out.2 (by have : w.heap.size ≤ y := k5; omega) k7) | (go_at_call 88; refine hf.mono ?_; rintro e w5 ⟨⟨v, rfl⟩, q, b, hC⟩; have q5 : w5.cell? ⟨x, 2, none⟩ = some (.pointer (some ⟨cl, 0, none⟩)) := hC.at'.own.cell 2 rfl))
    all_goals
      have k6' : ∀ k ∈ L, w.heap.size ≤ k := k6
      have HRN : Hid (RunNew (acqSub (wd 0 2 3 0 0) (wd 0 2 3 0 1) (wd 0 2 3 0 2) who) AcqT.fresh w w5 x (soCells who nx cl p g kp ot cm rs qu) 205 _) := RunNew.mk (S := (acqSub (wd 0 2 3 0 0) (wd 0 2 3 0 1) (wd 0 2 3 0 2) who)) (W := w)  HG.out k1 k6' hlt hB4 hC
      clear hO hR hH q4 q5 hf k1 k4 k5 k6 k6' k7 hC hB4 HH HG
      go_wp2_with fail
      go_end0
      exact ⟨⟨_, rfl⟩, HRN.out⟩
set_option maxHeartbeats 1000000 in
theorem so_release (fv : Value) (hf : Fv fv) :
    Calls Tryz.prog 265 #[.pointer (some ⟨x, 0, none⟩), fv] w fun e w' => (∃ v, e = .returned v) ∧ RunNew (relSub (wd 0 2 3 0 1) (wd 0 2 3 0 2) who) RelT.fresh w w' x (soCells who nx cl p g kp ot cm rs qu) 205 fv := by
  have hlt := h.lt
  have hH : Hid (w.drew.cell? ⟨x, 2, none⟩ = some (.pointer (some ⟨cl, 0, none⟩))) := h.drew.cell 2 (v := .pointer (some ⟨cl, 0, none⟩)) rfl
  have hO := who_any w.drew x who (h.drew.cell 0 rfl)
  have hR := rel_fresh w.drew cl 0 who
  have HH : Hid (Blk w x (soCells who nx cl p g kp ot cm rs qu) 205 ∧ Fv fv) := ⟨h, hf⟩
  have HG : Hid (((relSub (wd 0 2 3 0 1) (wd 0 2 3 0 2) who)).I.Good ((relSub (wd 0 2 3 0 1) (wd 0 2 3 0 2) who)).M) := Fl.good (rel_laws _ _ who)
  clear h
  cases hf
  all_goals
    go_enter Tryz.func265, Tryz.ntmps265
    go_wp2_with fail
    go_region_held3 (fun X => X.cell? ⟨x, 2, none⟩ = some (.pointer (some ⟨cl, 0, none⟩))) (first | exact hH.out | assumption) (first | (go_at_call 172; refine hO.mono ?_; rintro e w3 ⟨rfl, rfl⟩) | (go_at_call 244; refine hR.mono ?_; rintro e w4 ⟨y, L, rfl, k1, k4, k5, k6, a, k7⟩; have q4 : w4.cell? ⟨x, 2, none⟩ = some (.pointer (some ⟨cl, 0, none⟩)) := (HH.out.1.but (But.of_below (l := []) (show Below w.heap.size w w4 from (Below.refl _ _).drew.trans k4)) (by simp)).cell 2 rfl; have hB4 : But [x] w w4 := ((But.refl [x] w).drew).trans (But.of_below k4); have hf := frun_rel w4 x y _ 205 _ a (HH.out.1.but (But.of_below (l := []) (show Below w.heap.size w w4 from (Below.refl _ _).drew.trans k4)) (by simp)) (by simp [soCells]) HH.out.2 (by have : w.heap.size ≤ y := k5; omega) k7) | (go_at_call 88; refine hf.mono ?_; rintro e w5 ⟨⟨v, rfl⟩, q, b, hC⟩; have q5 : w5.cell? ⟨x, 2, none⟩ = some (.pointer (some ⟨cl, 0, none⟩)) := hC.at'.own.cell 2 rfl))
    all_goals
      have k6' : ∀ k ∈ L, w.heap.size ≤ k := k6
      have HRN : Hid (RunNew (relSub (wd 0 2 3 0 1) (wd 0 2 3 0 2) who) RelT.fresh w w5 x (soCells who nx cl p g kp ot cm rs qu) 205 _) := RunNew.mk (S := (relSub (wd 0 2 3 0 1) (wd 0 2 3 0 2) who)) (W := w)  HG.out k1 k6' hlt hB4 hC
      clear hO hR hH q4 q5 hf k1 k4 k5 k6 k6' k7 hC hB4 HH HG
      go_wp2_with fail
      go_end0
      exact ⟨⟨_, rfl⟩, HRN.out⟩
set_option maxHeartbeats 2000000 in
theorem so_get (P T G : Int) (hp : 0 ≤ P ∧ P ≤ 64) (hTT : 0 ≤ T ∧ T ≤ 65536) (K : Nat) :
    Calls Tryz.prog 246 #[.pointer (some ⟨x, 0, none⟩), .func (.func K) #[.pointer (some ⟨x, 0, none⟩)] #[]] w fun e w' => (∃ v, e = .returned v) ∧ SoHeld (soIg who P T G cl) IgT.ld w w' x (fun y => soCells who nx cl p g kp (some ⟨y, 0, none⟩) cm rs qu) 205 (.func (.func K) #[.pointer (some ⟨x, 0, none⟩)] #[]) := by
  have c2 := h.cell 2 (v := .pointer (some ⟨cl, 0, none⟩)) rfl
  have hlt := h.lt
  have hO := who_any w.drew x who (h.drew.cell 0 rfl)
  have hN := ig_new w.drew cl who P
  have HG : Hid (((igFl who cl).I (igPM P)).Good (igPM P)) := Fl.good (ig_laws who P T G cl hp hTT)
  have HH : Hid (Blk w x (soCells who nx cl p g kp ot cm rs qu) 205) := h
  clear h hp hTT
  go_enter Tryz.func246, Tryz.ntmps246
  go_wp2_with fail
  go_region_with (first | (go_at_call 172; refine hO.mono ?_; rintro e w3 ⟨rfl, rfl⟩) | (go_at_call 264; refine hN.mono ?_; rintro e w4 ⟨y, L, rfl, k1, k2, k3, k4⟩; have h4 : Blk w4 x (soCells who nx cl p g kp ot cm rs qu) 205 := HH.out.but (But.of_below (l := []) (show Below w.heap.size w w4 from (Below.refl _ _).drew.trans k2)) (by simp); have c8 := h4.cell 6 (v := .pointer ot) rfl; have f8 := h4.fro 6))
  all_goals
    have k3' : ∀ k ∈ L, w.heap.size ≤ k := k3
    have k4' : w.heap.size ≤ y := k4
    have hB4 : But [x] w (w4.setCell ⟨x, 6, none⟩ (.pointer (some ⟨y, 0, none⟩))) := (((But.refl [x] w).drew).trans (But.of_below k2)).set (g := x) (.inl (by simp)) 6 _
    have h5 : Blk (w4.setCell ⟨x, 6, none⟩ (.pointer (some ⟨y, 0, none⟩))) x (soCells who nx cl p g kp (some ⟨y, 0, none⟩) cm rs qu) 205 := h4.set 6 _
    have hI5 : (igFl who cl).I (igPM P) (w4.setCell ⟨x, 6, none⟩ (.pointer (some ⟨y, 0, none⟩))) y .ld L := HG.out.keep k1 ((But.refl [x] w4).set (g := x) (.inl (by simp)) 6 _) (fun k hk => by have := k3' k hk; simp; omega)
    generalize (w4.setCell ⟨x, 6, none⟩ (.pointer (some ⟨y, 0, none⟩))) = V at *
    obtain ⟨a, ha⟩ : ∃ a, V.cell? ⟨y, 1, none⟩ = some (.pointer (some a)) := by
      obtain ⟨nx, q1, q2⟩ := HG.out.next hI5
      cases nx with
      | none => cases q2
      | some a => exact ⟨a, q1⟩
    have c8' := h5.cell 6 (v := .pointer (some ⟨y, 0, none⟩)) rfl
    have hf := frun_ipg V.drew x y _ 205 (.func (.func K) #[.pointer (some ⟨x, 0, none⟩)] #[]) a h5.drew (by simp [soCells]) (.some _ _ _) (by omega) (by simpa using ha)
    clear hO hN c2 k1 k2 k3 k4 h4 c8 f8 HH
    go_wp2_with fail
    go_region_with (first | (go_at_call 88; refine hf.mono ?_; rintro e w5 ⟨⟨v, rfl⟩, q, g, hC⟩))
    all_goals
      have hlL := HG.out.lt hI5
      have f1 : V.heap.size ≤ q := hC.at'.fresh
      have f2 : V.heap.size ≤ g := hC.fresh
      have hI6 := HG.out.keep hI5 (((But.refl [x] V).drew).trans hC.at'.but) (fun k hk => by have := k3' k hk; simp; omega)
      have hC6 := hC.before ((But.refl [x] V).drew |> hB4.trans)
      have hq : q ∉ L ∧ g ∉ L := ⟨fun hm => by have := hlL q hm; omega, fun hm => by have := hlL g hm; omega⟩
      clear hf hC c8' hB4 h5 hI5 HG
      go_wp2_with fail
      go_end0
      exact ⟨⟨_, rfl⟩, y, q, g, L, hC6, hI6, k3', hq.1, hq.2⟩
theorem so_run (P T G : Int) (hl : Lay w cl P T G) (hp : 0 ≤ P ∧ P ≤ 64) (hT : 0 ≤ T ∧ T ≤ 65536) (hG : G ≤ 65536) :
    Calls Tryz.prog 227 #[.pointer (some ⟨x, 0, none⟩)] w fun e w' => (∃ v, e = .returned v) ∧ Came w w' x (soCells who nx cl p g kp ot cm rs qu) 205 (axSt (wd (20 + P * 264 + T * 3) G 2 g 0) 2) (.untold 248) := by
  have H := sc_tell w x cl g _ 205 h (by simp [soCells]) rfl rfl 2 248 P T G hl hp hT hG
  clear h hl hp hT hG
  go_enter Tryz.func227, Tryz.ntmps227
  go_wp2_with fail
  go_at_call 133; refine H.mono ?_; rintro e w1 ⟨⟨u, rfl⟩, hC⟩
  clear H
  go_wp2_with fail
  go_end0
  exact ⟨⟨_, rfl⟩, hC⟩
theorem so_wait (P T G : Int) (hl : Lay w cl P T G) (hp : 0 ≤ P ∧ P ≤ 64) (hT : 0 ≤ T ∧ T ≤ 65536) (hG : G ≤ 65536) :
    Calls Tryz.prog 224 #[.pointer (some ⟨x, 0, none⟩)] w fun e w' => (∃ v, e = .returned v) ∧ Came w w' x (soCells who nx cl p g kp ot cm rs qu) 205 (axSt (wd (20 + P * 264 + T * 3) G 2 g 0) 1) (.untold 245) := by
  have H := sc_tell w x cl g _ 205 h (by simp [soCells]) rfl rfl 1 245 P T G hl hp hT hG
  clear h hl hp hT hG
  go_enter Tryz.func224, Tryz.ntmps224
  go_wp2_with fail
  go_at_call 133; refine H.mono ?_; rintro e w1 ⟨⟨u, rfl⟩, hC⟩
  clear H
  go_wp2_with fail
  go_end0
  exact ⟨⟨_, rfl⟩, hC⟩
theorem so_counted (u : Int) (P T G : Int) (hl : Lay w cl P T G) (hp : 0 ≤ P ∧ P ≤ 64) (hT : 0 ≤ T ∧ T ≤ 65536) (hG : G ≤ 65536) :
    Calls Tryz.prog 189 #[.pointer (some ⟨x, 0, none⟩), .int .u64 u] w fun e w' => (∃ v, e = .returned v) ∧ Came w w' x (soCells who nx cl p g kp ot cm rs qu) 205 (axSt (wd (20 + P * 264 + T * 3) G 2 g 0) 2) (.untold 248) := by
  have H := so_run w x cl who p g kp cm rs ot qu nx h P T G hl hp hT hG
  clear h hl hp hT hG
  go_enter Tryz.func189, Tryz.ntmps189
  go_wp2_with fail
  go_at_call 227; refine H.mono ?_; rintro e w1 ⟨⟨v, rfl⟩, hC⟩
  clear H
  go_wp2_with fail
  go_end0
  exact ⟨⟨_, rfl⟩, hC⟩
theorem so_keep_yes (hxc : cl ≠ x) (P T G : Int) (hl : Lay w cl P T G) (hp : 0 ≤ P ∧ P ≤ 64) (hT : 0 ≤ T ∧ T ≤ 65536) (hG : G ≤ 65536) :
    Calls Tryz.prog 141 #[.pointer (some ⟨x, 0, none⟩), .bool true] w fun e w' => (∃ v, e = .returned v) ∧ Came w w' x (soCells who nx cl p g true ot cm rs qu) 205 (axAd (wd 20 P 264 p 5) 1) (.told 189) := by
  have c5 := h.cell 5 (v := .bool kp) rfl
  have f5 := h.fro 5
  obtain ⟨V, hV⟩ : ∃ V, (w.setCell ⟨x, 5, none⟩ (.bool true)) = V := ⟨_, rfl⟩
  have h' : Blk V x (soCells who nx cl p g true ot cm rs qu) 205 := by rw [← hV]; exact (h).set 5 (.bool true)
  have hB : But [x] w V := by rw [← hV]; exact (But.refl _ w).set (g := x) (.inl (by simp)) 5 _
  have hl' : Lay V cl P T G := (hB.block cl hl.lt (by simpa using hxc)).trans hl
  have H := sc_count V x cl p _ 205 h' (by simp [soCells]) rfl rfl 189 P T G hl' hp
  clear h h' hl hl' hp hT hG hxc
  go_enter Tryz.func141, Tryz.ntmps141
  go_wp2_with fail
  try rw [hV]
  clear hV c5 f5
  go_at_call 184; refine H.mono ?_; rintro e w1 ⟨⟨u, rfl⟩, hC⟩
  have hC2 := hC.before hB
  clear H hC hB
  go_wp2_with fail
  go_end0
  exact ⟨⟨_, rfl⟩, hC2⟩
theorem so_keep_no :
    Calls Tryz.prog 141 #[.pointer (some ⟨x, 0, none⟩), .bool false] w fun e w' => (∃ v, e = .returned v) ∧ Came w w' x (soCells who nx cl p g kp ot cm rs qu) 205 (axLd 9) (.told 188) := by
  have H := came_load w.drew x _ 205 h.drew (by simp [soCells]) 9 188
  have c2 := h.cell 2 (v := .pointer (some ⟨cl, 0, none⟩)) rfl
  have hW := il_word w.drew cl 9 (by omega)
  clear h
  go_enter Tryz.func141, Tryz.ntmps141
  go_wp2_with fail
  go_region_with (first | (go_at_call 120; refine hW.mono ?_; rintro e w3 ⟨rfl, rfl⟩) | (go_at_call 119; refine H.mono ?_; rintro e w1 ⟨⟨v, rfl⟩, hC⟩))
  all_goals
    have hC2 := hC.undrew
    clear hW H c2 hC
    go_wp2_with fail
    refine bodyPost_ret (results_none rfl _ _ _) rfl ?_
    exact ⟨⟨_, rfl⟩, hC2⟩
theorem so_ran :
    Calls Tryz.prog 248 #[.pointer (some ⟨x, 0, none⟩)] w fun e w' => (∃ v, e = .returned v) ∧ Blk w' x (soCells who nx cl p g kp ot true true qu) 205 ∧ But [x] w w' := by
  have c7 := h.cell 7 (v := .bool cm) rfl
  have f7 := h.fro 7
  have c8 := h.cell 8 (v := .bool rs) rfl
  have f8 := h.fro 8
  obtain ⟨V, hV⟩ : ∃ V, (w.setCell ⟨x, 7, none⟩ (.bool true)).setCell ⟨x, 8, none⟩ (.bool true) = V := ⟨_, rfl⟩
  have HF : Hid (Blk V x (soCells who nx cl p g kp ot true true qu) 205 ∧ But [x] w V) := by rw [← hV]; exact ⟨(h.set 7 (.bool true)).set 8 (.bool true), ((But.refl _ w).set (g := x) (.inl (by simp)) 7 _).set (g := x) (.inl (by simp)) 8 _⟩
  clear h
  go_enter Tryz.func248, Tryz.ntmps248
  go_wp2_with fail
  try rw [hV]
  go_end0
  exact ⟨⟨_, rfl⟩, HF.out⟩
theorem so_look_no (P T G : Int) (hl : Lay w cl P T G) (hp : 0 ≤ P ∧ P ≤ 64) (hT : 0 ≤ T ∧ T ≤ 65536) (hG : G ≤ 65536) :
    Calls Tryz.prog 188 #[.pointer (some ⟨x, 0, none⟩), .int .u64 0] w fun e w' => (∃ v, e = .returned v) ∧ Came w w' x (soCells who nx cl p g kp ot cm rs qu) 205 (axSt (wd (20 + P * 264 + T * 3) G 2 g 0) 1) (.untold 245) := by
  have H := so_wait w x cl who p g kp cm rs ot qu nx h P T G hl hp hT hG
  clear h hl hp hT hG
  go_enter Tryz.func188, Tryz.ntmps188
  go_wp2_with fail
  go_at_call 224; refine H.mono ?_; rintro e w1 ⟨⟨u, rfl⟩, hC⟩
  clear H
  go_wp2_with fail
  refine bodyPost_ret (results_none rfl _ _ _) rfl ?_
  exact ⟨⟨_, rfl⟩, hC⟩
theorem so_look_yes (v : Int) (hv : v ≠ 0) (hw : 0 ≤ who ∧ who ≤ 1000000) :
    Calls Tryz.prog 188 #[.pointer (some ⟨x, 0, none⟩), .int .u64 v] w fun e w' => (∃ v, e = .returned v) ∧ RunNew (acqSub (wd 0 2 3 0 0) (wd 0 2 3 0 1) (wd 0 2 3 0 2) who) AcqT.fresh w w' x (soCells who nx cl p g kp ot cm rs qu) 205 (.func (.func 226) #[.pointer (some ⟨x, 0, none⟩)] #[]) := by
  have hd : (v == 0) = false := by simpa using hv
  have H := so_acquire w x cl who p g kp cm rs ot qu nx h hw (.func (.func 226) #[.pointer (some ⟨x, 0, none⟩)] #[]) (.some _ _ _)
  clear h hv hw
  go_enter Tryz.func188, Tryz.ntmps188
  go_wp2_with fail
  go_at_call 225; refine H.mono ?_; rintro e w1 ⟨⟨u, rfl⟩, hC⟩
  clear H
  go_wp2_with fail
  go_end0
  exact ⟨⟨_, rfl⟩, hC⟩
theorem so_getOther (P T G : Int) (hp : 0 ≤ P ∧ P ≤ 64) (hT : 0 ≤ T ∧ T ≤ 65536) :
    Calls Tryz.prog 226 #[.pointer (some ⟨x, 0, none⟩)] w fun e w' => (∃ v, e = .returned v) ∧ SoHeld (soIg who P T G cl) IgT.ld w w' x (fun y => (soCells who nx cl p g kp (some ⟨y, 0, none⟩) cm rs qu)) 205 (.func (.func 247) #[.pointer (some ⟨x, 0, none⟩)] #[]) := by
  have H := so_get w x cl who p g kp cm rs ot qu nx h P T G hp hT 247
  clear h hp hT
  go_enter Tryz.func226, Tryz.ntmps226
  go_wp2_with fail
  go_at_call 246; refine H.mono ?_; rintro e w1 ⟨⟨u, rfl⟩, hC⟩
  clear H
  go_wp2_with fail
  go_end0
  exact ⟨⟨_, rfl⟩, hC⟩
theorem so_getLast (P T G : Int) (hp : 0 ≤ P ∧ P ≤ 64) (hT : 0 ≤ T ∧ T ≤ 65536) :
    Calls Tryz.prog 263 #[.pointer (some ⟨x, 0, none⟩)] w fun e w' => (∃ v, e = .returned v) ∧ SoHeld (soIg who P T G cl) IgT.ld w w' x (fun y => (soCells who nx cl p g kp (some ⟨y, 0, none⟩) cm rs qu)) 205 (.func (.func 273) #[.pointer (some ⟨x, 0, none⟩)] #[]) := by
  have H := so_get w x cl who p g kp cm rs ot qu nx h P T G hp hT 273
  clear h hp hT
  go_enter Tryz.func263, Tryz.ntmps263
  go_wp2_with fail
  go_at_call 246; refine H.mono ?_; rintro e w1 ⟨⟨u, rfl⟩, hC⟩
  clear H
  go_wp2_with fail
  go_end0
  exact ⟨⟨_, rfl⟩, hC⟩
theorem so_leave :
    Calls Tryz.prog 247 #[.pointer (some ⟨x, 0, none⟩)] w fun e w' => (∃ v, e = .returned v) ∧ RunNew (relSub (wd 0 2 3 0 1) (wd 0 2 3 0 2) who) RelT.fresh w w' x (soCells who nx cl p g kp ot cm rs qu) 205 (.func (.func 266) #[.pointer (some ⟨x, 0, none⟩)] #[]) := by
  have H := so_release w x cl who p g kp cm rs ot qu nx h (.func (.func 266) #[.pointer (some ⟨x, 0, none⟩)] #[]) (.some _ _ _)
  clear h
  go_enter Tryz.func247, Tryz.ntmps247
  go_wp2_with fail
  go_at_call 265; refine H.mono ?_; rintro e w1 ⟨⟨u, rfl⟩, hC⟩
  clear H
  go_wp2_with fail
  go_end0
  exact ⟨⟨_, rfl⟩, hC⟩
theorem so_end :
    Calls Tryz.prog 283 #[.pointer (some ⟨x, 0, none⟩)] w fun e w' => (∃ v, e = .returned v) ∧ RunNew (relSub (wd 0 2 3 0 1) (wd 0 2 3 0 2) who) RelT.fresh w w' x (soCells who nx cl p g kp ot cm rs qu) 205 .nilFunc := by
  have H := so_release w x cl who p g kp cm rs ot qu nx h .nilFunc .none
  clear h
  go_enter Tryz.func283, Tryz.ntmps283
  go_wp2_with fail
  go_at_call 265; refine H.mono ?_; rintro e w1 ⟨⟨u, rfl⟩, hC⟩
  clear H
  go_wp2_with fail
  go_end0
  exact ⟨⟨_, rfl⟩, hC⟩
theorem so_waits (hw : 0 ≤ who ∧ who ≤ 1000000) :
    Calls Tryz.prog 245 #[.pointer (some ⟨x, 0, none⟩)] w fun e w' => (∃ v, e = .returned v) ∧ RunNew (acqSub (wd 0 2 3 0 0) (wd 0 2 3 0 1) (wd 0 2 3 0 2) who) AcqT.fresh w w' x (soCells who nx cl p g kp ot true rs qu) 205 (.func (.func 263) #[.pointer (some ⟨x, 0, none⟩)] #[]) := by
  have c7 := h.cell 7 (v := .bool cm) rfl
  have f7 := h.fro 7
  obtain ⟨V, hV⟩ : ∃ V, (w.setCell ⟨x, 7, none⟩ (.bool true)) = V := ⟨_, rfl⟩
  have h' : Blk V x (soCells who nx cl p g kp ot true rs qu) 205 := by rw [← hV]; exact (h).set 7 (.bool true)
  have hB : But [x] w V := by rw [← hV]; exact (But.refl _ w).set (g := x) (.inl (by simp)) 7 _
  have H := so_acquire V x cl who p g kp true rs ot qu nx h' hw (.func (.func 263) #[.pointer (some ⟨x, 0, none⟩)] #[]) (.some _ _ _)
  clear h h' hw
  go_enter Tryz.func245, Tryz.ntmps245
  go_wp2_with fail
  try rw [hV]
  clear hV c7 f7
  go_at_call 225; refine H.mono ?_; rintro e w1 ⟨⟨u, rfl⟩, hC⟩
  have hC2 := hC.before hB
  clear H hC hB
  go_wp2_with fail
  go_end0
  exact ⟨⟨_, rfl⟩, hC2⟩
theorem so_runOther (v P T G : Int) (fv : Value) (f : Fol) (hfv : (∃ K, fv = .func (.func K) #[.pointer (some ⟨x, 0, none⟩)] #[] ∧ f = .untold K) ∨ (fv = .nilFunc ∧ f = .nil)) (hP : ∀ Y, Below w.heap.size w Y → Calls Tryz.prog 72 #[.pointer (some ⟨x, 0, none⟩)] Y fun e w' => e = .returned (.int .i64 v) ∧ Y = w') (hl : Lay w cl P T G) (hp : 0 ≤ P ∧ P ≤ 64) :
    Calls Tryz.prog 277 #[.pointer (some ⟨x, 0, none⟩), fv] w fun e w' => (∃ v, e = .returned v) ∧ Came w w' x (soCells who nx cl p g kp ot cm rs qu) 205 (axSt (wd 20 P 264 v 0) 1) f := by
  have hD : Hid (Below w.heap.size w w.drew) := (Below.refl _ _).drew
  have hGw : Hid (∀ Y, Below w.drew.heap.size w.drew Y → Calls Tryz.prog 140 #[.pointer (some ⟨x, 0, none⟩), .int .i64 v] Y fun e w' => e = .returned (.int .i64 (wd 20 P 264 v 0)) ∧ Below Y.heap.size Y w') := fun Y hY => sc_status Y x cl _ 205 (h.drew.but (But.of_below (l := []) hY) (by simp)) rfl v P T G (hl.below (hD.out.trans hY) hl.lt) hp
  have hP1 := hP w.drew hD.out
  have HS : Hid (∀ Y, Below w.drew.heap.size w.drew Y → Calls Tryz.prog 125 #[.pointer (some ⟨x, 0, none⟩), .int .i64 (wd 20 P 264 v 0), .int .u64 1, fv] Y fun e w' => (∃ v, e = .returned v) ∧ Came w w' x (soCells who nx cl p g kp ot cm rs qu) 205 (axSt (wd 20 P 264 v 0) 1) f) := by
    intro Y hY
    have hY4 := h.drew.but (But.of_below (l := []) hY) (by simp)
    rcases hfv with ⟨K, rfl, rfl⟩ | ⟨rfl, rfl⟩
    · refine (came_store Y x _ 205 hY4 (by simp [soCells]) _ 1 K).mono ?_
      rintro e w5 ⟨hv, hC⟩
      exact ⟨hv, hC.before (((But.refl [x] w).drew).trans (But.of_below hY))⟩
    · refine (came_store_nil Y x _ 205 hY4 (by simp [soCells]) _ 1).mono ?_
      rintro e w5 ⟨hv, hC⟩
      exact ⟨hv, hC.before (((But.refl [x] w).drew).trans (But.of_below hY))⟩
  generalize wd 20 P 264 v 0 = at' at *
  have HB0 : Hid (Below w.drew.heap.size w.drew w.drew) := Below.refl _ _
  clear h hP hl hp hD hfv
  go_enter Tryz.func277, Tryz.ntmps277
  go_wp2_with fail
  go_region_with (first | (go_at_call 72; refine hP1.mono ?_; rintro e x1 ⟨rfl, rfl⟩) | (go_at_call 140; refine (hGw.out _ HB0.out).mono ?_; rintro e x3 ⟨rfl, g3⟩) | (go_at_call 125; refine (HS.out _ g3).mono ?_; rintro e x4 ⟨⟨u, rfl⟩, hC⟩))
  all_goals
    clear hGw HS hP1 HB0
    go_wp2_with fail
    go_end0
    exact ⟨⟨_, rfl⟩, hC⟩
theorem so_choose_none (hP0 : Calls Tryz.prog 72 #[.pointer (some ⟨x, 0, none⟩)] w fun e w' => e = .returned (.int .i64 (-1)) ∧ w = w') (P T G : Int) (hl : Lay w cl P T G) (hp : 0 ≤ P ∧ P ≤ 64) (hT : 0 ≤ T ∧ T ≤ 65536) (hG : G ≤ 65536) :
    Calls Tryz.prog 266 #[.pointer (some ⟨x, 0, none⟩)] w fun e w' => (∃ v, e = .returned v) ∧ Came w w' x (soCells who nx cl p g kp ot cm rs qu) 205 (axSt (wd (20 + P * 264 + T * 3) G 2 g 0) 1) (.untold 245) := by
  have H := so_wait w x cl who p g kp cm rs ot qu nx h P T G hl hp hT hG
  clear h hl hp hT hG
  go_enter Tryz.func266, Tryz.ntmps266
  go_wp2_with fail
  go_at_call 72; refine hP0.mono ?_; rintro e w1 ⟨rfl, rfl⟩
  clear hP0
  go_wp2_with fail
  go_at_call 224; refine H.mono ?_; rintro e w1 ⟨⟨u, rfl⟩, hC⟩
  clear H
  go_wp2_with fail
  refine bodyPost_ret (results_none rfl _ _ _) rfl ?_
  exact ⟨⟨_, rfl⟩, hC⟩
theorem so_choose_some (v : Int) (hv : v ≠ -1) (hP : ∀ Y, Below w.heap.size w Y → Calls Tryz.prog 72 #[.pointer (some ⟨x, 0, none⟩)] Y fun e w' => e = .returned (.int .i64 v) ∧ Y = w') (P T G : Int) (hl : Lay w cl P T G) (hp : 0 ≤ P ∧ P ≤ 64) :
    Calls Tryz.prog 266 #[.pointer (some ⟨x, 0, none⟩)] w fun e w' => (∃ v, e = .returned v) ∧ Came w w' x (soCells who nx cl p g kp ot cm rs qu) 205 (axSt (wd 20 P 264 v 0) 1) (.untold 227) := by
  have hd : (v == -1) = false := by simpa using hv
  have H := so_runOther w x cl who p g kp cm rs ot qu nx h v P T G (.func (.func 227) #[.pointer (some ⟨x, 0, none⟩)] #[]) (.untold 227) (.inl ⟨_, rfl, rfl⟩) hP hl hp
  have hP0 := hP w (Below.refl _ _)
  generalize wd 20 P 264 v 0 = at' at *
  clear h hl hp hP hv
  go_enter Tryz.func266, Tryz.ntmps266
  go_wp2_with fail
  go_at_call 72; refine hP0.mono ?_; rintro e w1 ⟨rfl, rfl⟩
  clear hP0
  go_wp2_with fail
  go_at_call 277; refine H.mono ?_; rintro e w1 ⟨⟨u, rfl⟩, hC⟩
  clear H
  go_wp2_with fail
  go_end0
  exact ⟨⟨_, rfl⟩, hC⟩
theorem so_start (v P T G : Int) (hP : ∀ Y, Below w.heap.size w Y → Calls Tryz.prog 72 #[.pointer (some ⟨x, 0, none⟩)] Y fun e w' => e = .returned (.int .i64 v) ∧ Y = w') (hl : Lay w cl P T G) (hp : 0 ≤ P ∧ P ≤ 64) :
    Calls Tryz.prog 282 #[.pointer (some ⟨x, 0, none⟩)] w fun e w' => (∃ v, e = .returned v) ∧ Came w w' x (soCells who nx cl p g kp ot cm rs qu) 205 (axSt (wd 20 P 264 v 0) 1) .nil := by
  have H := so_runOther w x cl who p g kp cm rs ot qu nx h v P T G .nilFunc .nil (.inr ⟨rfl, rfl⟩) hP hl hp
  generalize wd 20 P 264 v 0 = at' at *
  clear h hl hp hP
  go_enter Tryz.func282, Tryz.ntmps282
  go_wp2_with fail
  go_at_call 277; refine H.mono ?_; rintro e w1 ⟨⟨u, rfl⟩, hC⟩
  clear H
  go_wp2_with fail
  go_end0
  exact ⟨⟨_, rfl⟩, hC⟩
theorem so_settle_some (v : Int) (hv : v ≠ -1) (hP0 : Calls Tryz.prog 72 #[.pointer (some ⟨x, 0, none⟩)] w fun e w' => e = .returned (.int .i64 v) ∧ w = w') :
    Calls Tryz.prog 273 #[.pointer (some ⟨x, 0, none⟩)] w fun e w' => (∃ v, e = .returned v) ∧ RunNew (relSub (wd 0 2 3 0 1) (wd 0 2 3 0 2) who) RelT.fresh w w' x (soCells who nx cl p g kp ot cm rs qu) 205 (.func (.func 282) #[.pointer (some ⟨x, 0, none⟩)] #[]) := by
  have hd : (v != -1) = true := by simpa using hv
  have H := so_release w x cl who p g kp cm rs ot qu nx h (.func (.func 282) #[.pointer (some ⟨x, 0, none⟩)] #[]) (.some _ _ _)
  clear h hv
  go_enter Tryz.func273, Tryz.ntmps273
  go_wp2_with fail
  go_at_call 72; refine hP0.mono ?_; rintro e w1 ⟨rfl, rfl⟩
  clear hP0
  go_wp2_with fail
  go_at_call 265; refine H.mono ?_; rintro e w1 ⟨⟨u, rfl⟩, hC⟩
  clear H
  go_wp2_with fail
  refine bodyPost_ret (results_none rfl _ _ _) rfl ?_
  exact ⟨⟨_, rfl⟩, hC⟩
set_option maxHeartbeats 4000000 in
theorem so_settle_none (P T G : Int) (hP0 : Calls Tryz.prog 72 #[.pointer (some ⟨x, 0, none⟩)] w fun e w' => e = .returned (.int .i64 (-1)) ∧ w = w') (hl : Lay w cl P T G) (hp : 0 ≤ P ∧ P ≤ 64) (hT : 0 ≤ T ∧ T ≤ 65536) (hG : 0 ≤ G ∧ G ≤ 65536) :
    Calls Tryz.prog 273 #[.pointer (some ⟨x, 0, none⟩)] w fun e w' => (∃ v, e = .returned v) ∧ SoHeld (soQp who (fun y => wd (20 + P * 264 + T * 3) G 2 y 1) cl P T G [g]) (QpT.ch 0) w w' x (fun y => soCells who nx cl p g kp ot cm rs (some ⟨y, 0, none⟩)) 205 (.func (.func 283) #[.pointer (some ⟨x, 0, none⟩)] #[]) := by
  have c2 := h.cell 2 (v := .pointer (some ⟨cl, 0, none⟩)) rfl
  have c4 := h.cell 4 (v := .int .i64 g) rfl
  have hlt := h.lt
  have hO := who_any w.drew x who (h.drew.cell 0 rfl)
  have HG : Hid ((qpI who cl (fun y => wd (20 + P * 264 + T * 3) G 2 y 1) [g]).Good (qpPM (fun y => wd (20 + P * 264 + T * 3) G 2 y 1) [g])) := qp_good who P T G cl [g] hp hT hG (by simp)
  have HN : Hid (∀ (Y : World) (v : Value), Below w.heap.size w Y → SeesL Y v [g] → Calls Tryz.prog 181 #[.pointer (some ⟨cl, 0, none⟩), .int .i64 who, v] Y fun e w' => ∃ x L, e = .returned (.pointer (some ⟨x, 0, none⟩)) ∧ qpI who cl (fun y => wd (20 + P * 264 + T * 3) G 2 y 1) [g] w' x (.ch 0) L ∧ Below Y.heap.size Y w' ∧ (∀ k ∈ L, Y.heap.size ≤ k) ∧ Y.heap.size ≤ x) := fun Y v hY hs => qp_new_some Y cl who P T G v [g] hs (by simp) (by simp) (hl.below hY hl.lt) hp hT hG
  have HH : Hid (Blk w x (soCells who nx cl p g kp ot cm rs qu) 205) := h
  generalize (fun y => wd (20 + P * 264 + T * 3) G 2 y 1) = gl at *
  have HS1 : Hid (SeesL (w.drew.alloc (.cells #[.int .i64 g] 3)) (.slice (some ⟨w.drew.heap.size, 0, none⟩) 1 1) [g] ∧ Below w.heap.size w (w.drew.alloc (.cells #[.int .i64 g] 3))) := by
    have hX := Blk.new w.drew #[.int .i64 g] 3
    refine ⟨⟨_, 1, rfl, (fun h => by cases h), fun _ => ⟨w.drew.heap.size, 0, rfl, hX.lt, fun j hj => ?_⟩⟩, ((Below.refl _ _).drew).alloc (Nat.le_refl _) _⟩
    have hj4 : j < 1 := hj
    obtain rfl : j = 0 := by omega
    exact hX.cell 0 rfl
  clear h hp hT hG hl
  go_enter Tryz.func273, Tryz.ntmps273
  go_wp2_with fail
  go_at_call 72; refine hP0.mono ?_; rintro e w1 ⟨rfl, rfl⟩
  clear hP0
  have hH : Hid (w.drew.cell? ⟨x, 2, none⟩ = some (.pointer (some ⟨cl, 0, none⟩)) ∧ w.drew.cell? ⟨x, 4, none⟩ = some (.int .i64 g)) := ⟨HH.out.drew.cell 2 rfl, HH.out.drew.cell 4 rfl⟩
  have hA : Hid (Blk (w.drew.alloc (.cells #[.int .i64 g] 3)) x (soCells who nx cl p g kp ot cm rs qu) 205) := HH.out.drew.al _
  have hHA : Hid ((w.drew.alloc (.cells #[.int .i64 g] 3)).cell? ⟨x, 2, none⟩ = some (.pointer (some ⟨cl, 0, none⟩)) ∧ (w.drew.alloc (.cells #[.int .i64 g] 3)).cell? ⟨x, 4, none⟩ = some (.int .i64 g)) := ⟨hA.out.cell 2 rfl, hA.out.cell 4 rfl⟩
  have hOA := who_any (w.drew.alloc (.cells #[.int .i64 g] 3)) x who (hA.out.cell 0 rfl)
  have HST : Hid (∀ (X : World) (u : Value), Blk X x (soCells who nx cl p g kp ot cm rs qu) 205 → (X.setCell ⟨x, 9, none⟩ u).cell? ⟨x, 2, none⟩ = some (.pointer (some ⟨cl, 0, none⟩)) ∧ (X.setCell ⟨x, 9, none⟩ u).cell? ⟨x, 4, none⟩ = some (.int .i64 g)) := fun X u h => ⟨(h.set 9 u).cell 2 rfl, (h.set 9 u).cell 4 rfl⟩
  have HSN : Hid (∀ X : World, Blk X x (soCells who nx cl p g kp ot cm rs qu) 205 → X.cell? ⟨x, 2, none⟩ = some (.pointer (some ⟨cl, 0, none⟩)) ∧ X.cell? ⟨x, 4, none⟩ = some (.int .i64 g)) := fun X h => ⟨h.cell 2 rfl, h.cell 4 rfl⟩
  clear c2 c4
  go_wp2_with fail
  go_region_held3 (fun X => X.cell? ⟨x, 2, none⟩ = some (.pointer (some ⟨cl, 0, none⟩)) ∧ X.cell? ⟨x, 4, none⟩ = some (.int .i64 g)) (first | exact hH.out | exact hHA.out | exact HST.out _ _ ‹_› | assumption) (first | (go_at_call 172; first | (refine hO.mono ?_; rintro e w3 ⟨rfl, rfl⟩) | (refine hOA.mono ?_; rintro e w3 ⟨rfl, rfl⟩)) | (go_at_call 181; refine (HN.out _ _ HS1.out.2 HS1.out.1).mono ?_; rintro e w2 ⟨y, L, rfl, y1, y2, y3, y4⟩; have hb2 := hA.out.but (But.of_below (l := []) y2) (by simp); have q2 := HSN.out w2 hb2; have s9 := hb2.cell 9 (v := .pointer qu) rfl; have t9 := hb2.fro 9; have u9 := hb2.lt))
  all_goals
    have h5 : Blk (w2.setCell ⟨x, 9, none⟩ (.pointer (some ⟨y, 0, none⟩))) x (soCells who nx cl p g kp ot cm rs (some ⟨y, 0, none⟩)) 205 := hb2.set 9 _
    have hs1w := HS1.out.2.size
    have y3' : ∀ k ∈ L, w.heap.size ≤ k := fun k hk => Nat.le_trans hs1w (y3 k hk)
    have y4' : w.heap.size ≤ y := Nat.le_trans hs1w y4
    have hB5 : But [x] w (w2.setCell ⟨x, 9, none⟩ (.pointer (some ⟨y, 0, none⟩))) := ((((But.refl [x] w).drew).alloc _).trans (But.of_below y2)).set (g := x) (.inl (by simp)) 9 _
    have hI5 : qpI who cl gl [g] (w2.setCell ⟨x, 9, none⟩ (.pointer (some ⟨y, 0, none⟩))) y (.ch 0) L := HG.out.keep y1 ((But.refl [x] w2).set (g := x) (.inl (by simp)) 9 _) (fun k hk => by have := y3' k hk; simp; omega)
    generalize (w2.setCell ⟨x, 9, none⟩ (.pointer (some ⟨y, 0, none⟩))) = V at *
    obtain ⟨a, ha⟩ : ∃ a, V.cell? ⟨y, 1, none⟩ = some (.pointer (some a)) := by
      obtain ⟨nx, q1, q2⟩ := HG.out.next hI5
      cases nx with
      | none => cases q2
      | some a => exact ⟨a, q1⟩
    have c9' := h5.cell 9 (v := .pointer (some ⟨y, 0, none⟩)) rfl
    have hf := frun_qput V.drew x y _ 205 (.func (.func 283) #[.pointer (some ⟨x, 0, none⟩)] #[]) a h5.drew (by simp [soCells]) (.some _ _ _) (by omega) (by simpa using ha)
    clear hO hOA HN HS1 HSN HST hHA hH hA HH y1 y2 y3 y4 hb2 q2 s9 t9 u9
    go_wp2_with fail
    go_region_with (first | (go_at_call 88; refine hf.mono ?_; rintro e w5 ⟨⟨v, rfl⟩, q, b, hC⟩))
    all_goals
      have hlL := HG.out.lt hI5
      have f1 : V.heap.size ≤ q := hC.at'.fresh
      have f2 : V.heap.size ≤ b := hC.fresh
      have hI6 := HG.out.keep hI5 (((But.refl [x] V).drew).trans hC.at'.but) (fun k hk => by have := y3' k hk; simp; omega)
      have hC6 := hC.before ((But.refl [x] V).drew |> hB5.trans)
      have hq : q ∉ L ∧ b ∉ L := ⟨fun hm => by have := hlL q hm; omega, fun hm => by have := hlL b hm; omega⟩
      clear hf hC c9' hB5 h5 hI5 HG
      go_wp2_with fail
      go_end0
      exact ⟨⟨_, rfl⟩, y, q, b, L, hC6, hI6, y3', hq.1, hq.2⟩
theorem so_P_kept (hk : kp = true) : Calls Tryz.prog 72 #[.pointer (some ⟨x, 0, none⟩)] w fun e w' => e = .returned (.int .i64 p) ∧ w = w' := by
  subst hk
  have c5 := h.cell 5 (v := .bool true) rfl
  have c3 := h.cell 3 (v := .int .i64 p) rfl
  clear h
  go_enter Tryz.func72, Tryz.ntmps72
  go_wp2_with fail
  go_ret
  exact ⟨rfl, rfl⟩
theorem so_P_other (hk : kp = false) (v : Int) (hP : Calls Tryz.prog 137 #[.pointer ot] w fun e w' => e = .returned (.int .i64 v) ∧ w = w') : Calls Tryz.prog 72 #[.pointer (some ⟨x, 0, none⟩)] w fun e w' => e = .returned (.int .i64 v) ∧ w = w' := by
  subst hk
  have c5 := h.cell 5 (v := .bool false) rfl
  have c6 := h.cell 6 (v := .pointer ot) rfl
  clear h
  go_enter Tryz.func72, Tryz.ntmps72
  go_wp2_with fail
  go_at_call 137; refine hP.mono ?_; rintro e w1 ⟨rfl, rfl⟩
  clear hP
  go_wp2_with fail
  go_ret
  exact ⟨rfl, rfl⟩
theorem so_came : Calls Tryz.prog 70 #[.pointer (some ⟨x, 0, none⟩)] w fun e w' => e = .returned (.bool cm) ∧ w = w' := by
  have c5 := h.cell 7 (v := .bool cm) rfl
  clear h
  go_enter Tryz.func70, Tryz.ntmps70
  go_wp2_with fail
  go_ret
  exact ⟨rfl, rfl⟩
theorem so_runs : Calls Tryz.prog 71 #[.pointer (some ⟨x, 0, none⟩)] w fun e w' => e = .returned (.bool rs) ∧ w = w' := by
  have c5 := h.cell 8 (v := .bool rs) rfl
  clear h
  go_enter Tryz.func71, Tryz.ntmps71
  go_wp2_with fail
  go_ret
  exact ⟨rfl, rfl⟩
theorem so_holds_no (hn : cm = false ∨ rs = true) : Calls Tryz.prog 73 #[.pointer (some ⟨x, 0, none⟩)] w fun e w' => ∃ v, e = .returned v ∧ IntsOn w' w.heap.size v [] ∧ Below w.heap.size w w' := by
  have c7 := h.cell 7 (v := .bool cm) rfl
  have c8 := h.cell 8 (v := .bool rs) rfl
  clear h
  rcases hn with rfl | rfl
  · go_enter Tryz.func73, Tryz.ntmps73
    go_wp2_with fail
    go_ret
    exact ⟨_, rfl, ⟨World.ownsRow_nil _ _ _ _⟩, Below.refl _ _⟩
  · cases cm
    all_goals
      go_enter Tryz.func73, Tryz.ntmps73
      go_wp2_with fail
      go_ret
      exact ⟨_, rfl, ⟨World.ownsRow_nil _ _ _ _⟩, Below.refl _ _⟩
theorem so_holds_one (h1 : cm = true) (h2 : rs = false) (h3 : qu = none) : Calls Tryz.prog 73 #[.pointer (some ⟨x, 0, none⟩)] w fun e w' => ∃ v, e = .returned v ∧ IntsOn w' w.heap.size v [g] ∧ Below w.heap.size w w' := by
  subst h1 h2 h3
  have c4 := h.cell 4 (v := .int .i64 g) rfl
  have c7 := h.cell 7 (v := .bool true) rfl
  have c8 := h.cell 8 (v := .bool false) rfl
  have c9 := h.cell 9 (v := .pointer none) rfl
  clear h
  go_enter Tryz.func73, Tryz.ntmps73
  go_wp2_with fail
  go_ret
  exact ⟨_, rfl, ⟨World.ownsRow_lit w #[.int .i64 g] 1 (Nat.le_refl _) (by unfold maxLen; omega) rfl⟩, (Below.refl _ _).alloc (Nat.le_refl _) _⟩
theorem so_holds_queue (h1 : cm = true) (h2 : rs = false) (y : Nat) (h3 : qu = some ⟨y, 0, none⟩) (l : List Int) (hQ : Calls Tryz.prog 138 #[.pointer (some ⟨y, 0, none⟩)] w fun e w' => ∃ v, e = .returned v ∧ IntsOn w' w.heap.size v l ∧ Below w.heap.size w w') : Calls Tryz.prog 73 #[.pointer (some ⟨x, 0, none⟩)] w fun e w' => ∃ v, e = .returned v ∧ IntsOn w' w.heap.size v l ∧ Below w.heap.size w w' := by
  subst h1 h2 h3
  have c7 := h.cell 7 (v := .bool true) rfl
  have c8 := h.cell 8 (v := .bool false) rfl
  have c9 := h.cell 9 (v := .pointer (some ⟨y, 0, none⟩)) rfl
  clear h
  go_enter Tryz.func73, Tryz.ntmps73
  go_wp2_with fail
  go_at_call 138; refine hQ.mono ?_; rintro e w1 ⟨v, rfl, h1, h2⟩
  clear hQ
  go_wp2_with fail
  go_ret
  exact ⟨_, rfl, h1, h2⟩
end
theorem so_P_nil (w : World) : Calls Tryz.prog 72 #[.pointer none] w fun e w' => e = .returned (.int .i64 (-1)) ∧ w = w' := by
  go_enter Tryz.func72, Tryz.ntmps72
  go_wp2_with fail
  go_ret
  exact ⟨rfl, rfl⟩
theorem so_Came_nil (w : World) : Calls Tryz.prog 70 #[.pointer none] w fun e w' => e = .returned (.bool false) ∧ w = w' := by
  go_enter Tryz.func70, Tryz.ntmps70
  go_wp2_with fail
  go_ret
  exact ⟨rfl, rfl⟩
theorem so_Runs_nil (w : World) : Calls Tryz.prog 71 #[.pointer none] w fun e w' => e = .returned (.bool false) ∧ w = w' := by
  go_enter Tryz.func71, Tryz.ntmps71
  go_wp2_with fail
  go_ret
  exact ⟨rfl, rfl⟩
theorem so_Holds_nil (w : World) : Calls Tryz.prog 73 #[.pointer none] w fun e w' => e = .returned (.slice none 0 0) ∧ w = w' := by
  go_enter Tryz.func73, Tryz.ntmps73
  go_wp2_with fail
  go_ret
  exact ⟨rfl, rfl⟩
end Go.Proofs.YtcjidigpdecdlaaGreat

namespace Go.Proofs.YtcjidigpdecdlaaGreat
open Go Go.RowKit
set_option linter.unusedVariables false
set_option maxRecDepth 100000
set_option linter.unusedSimpArgs false

section
variable {σ : Type} {C : Cp σ} {W w' : World} {x : Nat} {s : σ} {es Le Le' : List Nat}
theorem Cp.lnd_acc {a : Ax} {f : Fol} (h : Came W w' x (C.cells s es none) C.T a f) (hset : ∀ nx, (C.cells s es none).setIfInBounds 1 (.pointer nx) = C.cells s es nx) (hok : C.ok s) (hk : C.kind s = .acc a f) (hx : x < W.heap.size) (he : C.ext s es w' Le') (hxe : x ∉ Le') (hle : ∀ k ∈ Le', k ∈ Le ∧ k < W.heap.size) : C.Land W w' x s Le := by
  obtain ⟨q, Lc, c1, c2, c3, c4⟩ := h
  rw [hset] at c1
  refine ⟨c3, x :: (Lc ++ Le'), ⟨hok, es, Le', he, hxe, ?_⟩, fun k hm => by simp at hm; rcases hm with rfl | hm | hm; exact .inl rfl; exact .inr (.inr (c4 k hm)); exact .inr (.inl (hle k hm).1)⟩
  rw [hk]
  exact ⟨q, Lc, c1, c2, fun hm => absurd (c4 x hm) (by omega), (fun k hm h => by have := c4 k hm; have := (hle k h).2; omega), rfl⟩
theorem Cp.lnd_over (h : Blk w' x (C.cells s es none) C.T) (hb : But [x] W w') (hok : C.ok s) (hk : C.kind s = .over) (he : C.ext s es w' Le') (hxe : x ∉ Le') (hle : ∀ k ∈ Le', k ∈ Le) : C.Land W w' x s Le := by
  refine ⟨hb, x :: Le', ⟨hok, es, Le', he, hxe, ?_⟩, fun k hm => by simp at hm; rcases hm with rfl | hm; exact .inl rfl; exact .inr (.inl (hle k hm))⟩
  rw [hk]
  exact ⟨h, rfl⟩
theorem Cp.lnd_run1 {S : Sub} {af : After} {pt : S.τ} {y q b : Nat} {L : List Nat} (hC : CameBox W w' x (C.cells s es none) C.T (fun v => comCells 0 0 0 0 0 false (.iface S.D (.pointer (some ⟨y, 0, none⟩))) v false false) (af.fol.box x) q b) (hset : ∀ nx, (C.cells s es none).setIfInBounds 1 (.pointer nx) = C.cells s es nx) (hM : S.I w' y pt L) (hL : ∀ k ∈ L, W.heap.size ≤ k) (hq : q ∉ L) (hg : b ∉ L) (hok : C.ok s) (hk : C.kind s = .run S pt af) (htie : C.tie s es y) (hx : x < W.heap.size) (he : C.ext s es w' Le') (hxe : x ∉ Le') (hle : ∀ k ∈ Le', k ∈ Le ∨ W.heap.size ≤ k) (hd : ∀ k ∈ q :: b :: L, k ∉ Le') : C.Land W w' x s Le := by
  have hfq := hC.at'.fresh
  have hfb := hC.fresh
  refine ⟨hC.at'.but, x :: q :: b :: (L ++ Le'), ⟨hok, es, Le', he, hxe, ?_⟩, fun k hm => ?_⟩
  · rw [hk]
    refine ⟨q, y, b, L, RunAt.of hC hset, hM, htie, ?_, hq, hg, hd, rfl⟩
    simp only [List.mem_cons, not_or]
    exact ⟨by omega, by omega, fun hm => by have := hL x hm; omega⟩
  · simp only [List.mem_cons, List.mem_append] at hm
    rcases hm with rfl | rfl | rfl | hm | hm
    · exact .inl rfl
    · exact .inr (.inr hfq)
    · exact .inr (.inr hfb)
    · exact .inr (.inr (hL k hm))
    · rcases hle k hm with h | h
      · exact .inr (.inl h)
      · exact .inr (.inr h)
theorem Cp.lnd_run0 {S : Sub} {af : After} {pt : S.τ} {y q b : Nat} {L : List Nat} (hC : CameBox W w' x (C.cells s es none) C.T (fun v => comCells 0 0 0 0 0 false (.iface S.D (.pointer (some ⟨y, 0, none⟩))) v false false) (af.fol.box x) q b) (hset : ∀ nx, (C.cells s es none).setIfInBounds 1 (.pointer nx) = C.cells s es nx) (hM : S.I w' y pt L) (hL : ∀ k ∈ L, W.heap.size ≤ k) (hq : q ∉ L) (hg : b ∉ L) (hok : C.ok s) (hk : C.kind s = .run S pt af) (htie : C.tie s es y) (hx : x < W.heap.size) (he : C.ext s es w' Le') (hxe : x ∉ Le') (hle : ∀ k ∈ Le', k ∈ Le ∧ k < W.heap.size) : C.Land W w' x s Le := by
  have hfq := hC.at'.fresh
  have hfb := hC.fresh
  refine Cp.lnd_run1 hC hset hM hL hq hg hok hk htie hx he hxe (fun k hm => .inl (hle k hm).1) (fun k hm hk' => ?_)
  simp only [List.mem_cons] at hm
  have h1 := (hle k hk').2
  rcases hm with rfl | rfl | hm
  · omega
  · omega
  · have := hL k hm; omega
theorem Cp.lnd_run {S : Sub} {af : After} {pt : S.τ} (hR : RunNew S pt W w' x (C.cells s es none) C.T (af.fol.box x)) (hset : ∀ nx, (C.cells s es none).setIfInBounds 1 (.pointer nx) = C.cells s es nx) (hok : C.ok s) (hk : C.kind s = .run S pt af) (htie : ∀ y, C.tie s es y) (hx : x < W.heap.size) (he : C.ext s es w' Le') (hxe : x ∉ Le') (hle : ∀ k ∈ Le', k ∈ Le ∧ k < W.heap.size) : C.Land W w' x s Le := by
  obtain ⟨y, q, b, L, hC, hM, hL, hq, hg⟩ := hR
  exact Cp.lnd_run0 hC hset hM hL hq hg hok hk (htie y) hx he hxe hle
theorem Cp.blk' {w : World} {L : List Nat} (h : C.Here w x s es Le L (C.kind s)) : ∃ nx, Blk w x (C.cells s es nx) C.T := by
  cases hk : C.kind s with
  | over => rw [hk] at h; exact ⟨none, h.1⟩
  | acc a f => rw [hk] at h; obtain ⟨q, Lc, h1, -⟩ := h; exact ⟨_, h1⟩
  | run S q af => rw [hk] at h; obtain ⟨q1, y, g, Li, h1, -⟩ := h; exact ⟨_, h1.hx⟩
end
theorem folC_sw {W : World} {x K : Nat} {v : Int} {M : World → Prop} (b : Bool) (hb : decide (v ≠ 0) = b) (h : Calls Tryz.prog K #[.pointer (some ⟨x, 0, none⟩), .bool b] W fun e w' => (∃ u, e = .returned u) ∧ M w') : FolC W x (.swap K) v M := by
  subst hb; exact h
/-- A machine within it: its ax where it goes on, and what is so where it is over. -/
theorem nx_on {α : Type} {o : Option Ax} {a b : α} (h : o.isSome = true) : (if o.isSome = true then a else b) = a := if_pos h
theorem nx_off {α : Type} {o : Option Ax} {a b : α} (h : o = none) : (if o.isSome = true then a else b) = b := if_neg (by rw [h]; simp)
end Go.Proofs.YtcjidigpdecdlaaGreat
