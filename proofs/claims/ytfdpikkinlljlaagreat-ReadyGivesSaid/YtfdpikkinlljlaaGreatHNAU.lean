/- Giving way: what its functions do. -/
import Derived.Test.YtfdpikkinlljlaaGreatHNAQ
import Derived.Laws.OwnMore
namespace Go.Proofs.YtfdpikkinlljlaaGreat
open Go Go.RowKit
set_option linter.unusedVariables false
set_option maxRecDepth 100000
set_option linter.unusedSimpArgs false
set_option linter.unusedSectionVars false

def gvCells (who : Int) (nx : Option Addr) (cl : Nat) (p g : Int) (hv : Value) (sm : Option Addr) (hw : Int) (gv : Bool) (qu : Option Addr) : Array Value := #[.int .i64 who, .pointer nx, .pointer (some ⟨cl, 0, none⟩), .int .i64 p, .int .i64 g, hv, .pointer sm, .int .i64 hw, .bool gv, .pointer qu]
def gvQSub (who : Int) (gl : Int → Int) (cl : Nat) (P T G : Int) (l : List Int) : Sub := ⟨QpT, qpPM gl l, qpI who cl gl l, Rd.lay cl P T G, 142, 335⟩
def gvWhat (hw : Int) : Int := if hw = 0 ∨ hw = 1 then 1 else 3
section
variable (w : World) (x cl : Nat) (who p g : Int) (hv : Value) (sm nx : Option Addr) (hw : Int) (gv : Bool) (qu : Option Addr) (h : Blk w x (gvCells who nx cl p g hv sm hw gv qu) 144)
include h
theorem gv_what :
    Calls Tryz.prog 90 #[.pointer (some ⟨x, 0, none⟩)] w fun e w' => e = .returned (.int .u64 (gvWhat hw)) ∧ w = w' := by
  unfold gvWhat
  have c7 := h.cell 7 (v := .int .i64 hw) rfl
  clear h
  by_cases h0 : hw = 0
  · subst h0
    go_enter Tryz.func90, Tryz.ntmps90
    go_wp2_with fail
    go_ret
    exact ⟨rfl, rfl⟩
  · by_cases h1 : hw = 1
    · subst h1
      go_enter Tryz.func90, Tryz.ntmps90
      go_wp2_with fail
      go_ret
      exact ⟨rfl, rfl⟩
    · have d0 : (hw == 0) = false := by simpa using h0
      have d1 : (hw == 1) = false := by simpa using h1
      rw [if_neg (by omega)]
      clear h0 h1
      go_enter Tryz.func90, Tryz.ntmps90
      go_wp2_with fail
      go_ret
      exact ⟨rfl, rfl⟩
theorem gv_give_park (h0 : hw ≠ 0) (h1 : hw ≠ 1) :
    Calls Tryz.prog 91 #[.pointer (some ⟨x, 0, none⟩)] w fun e w' => (∃ v, e = .returned v) ∧ Blk w' x (gvCells who nx cl p g hv sm hw true qu) 144 ∧ But [x] w w' := by
  have d0 : (hw == 0) = false := by simpa using h0
  have d1 : (hw == 1) = false := by simpa using h1
  have c8 := h.cell 8 (v := .bool gv) rfl
  have f8 := h.fro 8
  obtain ⟨V, hV⟩ : ∃ V, (w.setCell ⟨x, 8, none⟩ (.bool true)) = V := ⟨_, rfl⟩
  have h' : Blk V x (gvCells who nx cl p g hv sm hw true qu) 144 := by rw [← hV]; exact h.set 8 (.bool true)
  have hB : But [x] w V := by rw [← hV]; exact (But.refl _ w).set (g := x) (.inl (by simp)) 8 _
  have c7 := h'.cell 7 (v := .int .i64 hw) rfl
  clear h h0 h1
  go_enter Tryz.func91, Tryz.ntmps91
  go_wp2_with fail
  try rw [hV]
  clear hV c8 f8
  go_wp2_with fail
  go_end0
  exact ⟨⟨_, rfl⟩, h', hB⟩
theorem gv_give_yield (h0 : hw = 0) (P T G : Int) (hw' : 0 ≤ who ∧ who ≤ 1000000) (hxc : cl ≠ x) (hl : Lay w cl P T G) (hp : 0 ≤ P ∧ P ≤ 64) (hT : 0 ≤ T ∧ T ≤ 65536) (hG : 0 ≤ G ∧ G ≤ 65536) :
    Calls Tryz.prog 91 #[.pointer (some ⟨x, 0, none⟩)] w fun e w' => (∃ v, e = .returned v) ∧ RyHeld (ryPSub who P T G p cl) (rpStart g false) w w' x (fun y => gvCells who nx cl p g (.func (.func 178) #[.pointer (some ⟨y, 0, none⟩)] #[]) sm hw true qu) 144 (.func (.func 179) #[.pointer (some ⟨x, 0, none⟩)] #[]) := by
  subst h0
  have c8 := h.cell 8 (v := .bool gv) rfl
  have f8 := h.fro 8
  obtain ⟨V, hV⟩ : ∃ V, (w.setCell ⟨x, 8, none⟩ (.bool true)) = V := ⟨_, rfl⟩
  have h' : Blk V x (gvCells who nx cl p g hv sm 0 true qu) 144 := by rw [← hV]; exact h.set 8 (.bool true)
  have hB : But [x] w V := by rw [← hV]; exact (But.refl _ w).set (g := x) (.inl (by simp)) 8 _
  have c7 := h'.cell 7 (v := .int .i64 0) rfl
  have hl' : Lay V cl P T G := (hB.block cl hl.lt (by simpa using hxc)).trans hl
  have H := ry_lay V x cl who p g _ 144 h' (by simp [gvCells]) rfl rfl rfl rfl false P T G hw' hl' hp hT hG
  clear h h' hl hl' hp hT hG hxc hw'
  go_enter Tryz.func91, Tryz.ntmps91
  go_wp2_with fail
  try rw [hV]
  clear hV c8 f8
  go_wp2_with fail
  go_at_call 142; refine H.mono ?_; rintro e w1 ⟨⟨u, rfl⟩, hC⟩
  have hC2 := hC.before hB
  clear H hC hB
  go_wp2_with fail
  go_end0
  exact ⟨⟨_, rfl⟩, hC2⟩
theorem gv_enqueue (y : Nat) (hq : qu = some ⟨y, 0, none⟩) (a : Addr) (hyx : y ≠ x) (hny : w.cell? ⟨y, 1, none⟩ = some (.pointer (some a))) :
    Calls Tryz.prog 147 #[.pointer (some ⟨x, 0, none⟩)] w fun e w' => (∃ v, e = .returned v) ∧ ∃ q b, CameBox w w' x (gvCells who nx cl p g hv sm hw gv qu) 144 (fun v => comCells 0 0 0 0 0 false (.iface 142 (.pointer (some ⟨y, 0, none⟩))) v false false) (.func (.func 188) #[.pointer (some ⟨x, 0, none⟩)] #[]) q b := by
  subst hq
  have c9 := h.cell 9 (v := .pointer (some ⟨y, 0, none⟩)) rfl
  have hf := frun_qput w.drew x y _ 144 (.func (.func 188) #[.pointer (some ⟨x, 0, none⟩)] #[]) a h.drew (by simp [gvCells]) (.some _ _ _) hyx hny
  have HU : Hid (But [x] w w.drew) := (But.refl [x] w).drew
  clear h hny
  go_enter Tryz.func147, Tryz.ntmps147
  go_wp2_with fail
  go_region_with (first | (go_at_call 98; refine hf.mono ?_; rintro e w6 ⟨⟨v, rfl⟩, q, b, hC⟩))
  all_goals
    have HZ : Hid (CameBox w w6 x _ 144 _ _ q b) := hC.before HU.out
    clear hf hC c9 HU
    go_wp2_with fail
    go_end0
    exact ⟨⟨_, rfl⟩, q, b, HZ.out⟩
set_option maxHeartbeats 1000000 in
theorem gv_release :
    Calls Tryz.prog 188 #[.pointer (some ⟨x, 0, none⟩)] w fun e w' => (∃ v, e = .returned v) ∧ RunNew (relSub (wd 0 2 3 0 1) (wd 0 2 3 0 2) who) RelT.fresh w w' x (gvCells who nx cl p g hv sm hw gv qu) 144 (.func (.func 179) #[.pointer (some ⟨x, 0, none⟩)] #[]) := by
  have hlt := h.lt
  have hH : Hid (w.drew.cell? ⟨x, 2, none⟩ = some (.pointer (some ⟨cl, 0, none⟩))) := h.drew.cell 2 (v := .pointer (some ⟨cl, 0, none⟩)) rfl
  have hO := who_any w.drew x who (h.drew.cell 0 rfl)
  have hR := rel_fresh w.drew cl 0 who
  have HH : Hid (Blk w x (gvCells who nx cl p g hv sm hw gv qu) 144) := h
  have HG : Hid (((relSub (wd 0 2 3 0 1) (wd 0 2 3 0 2) who)).I.Good ((relSub (wd 0 2 3 0 1) (wd 0 2 3 0 2) who)).M) := Fl.good (rel_laws _ _ who)
  clear h
  go_enter Tryz.func188, Tryz.ntmps188
  go_wp2_with fail
  go_region_held3 (fun X => X.cell? ⟨x, 2, none⟩ = some (.pointer (some ⟨cl, 0, none⟩))) (first | exact hH.out | assumption) (first | (go_at_call 144; refine hO.mono ?_; rintro e w3 ⟨rfl, rfl⟩) | (go_at_call 205; refine hR.mono ?_; rintro e w4 ⟨y, L, rfl, k1, k4, k5, k6, a, k7⟩; have q4 : w4.cell? ⟨x, 2, none⟩ = some (.pointer (some ⟨cl, 0, none⟩)) := (HH.out.but (But.of_below (l := []) (show Below w.heap.size w w4 from (Below.refl _ _).drew.trans k4)) (by simp)).cell 2 rfl; have hB4 : But [x] w w4 := ((But.refl [x] w).drew).trans (But.of_below k4); have hf := frun_rel w4 x y _ 144 (.func (.func 179) #[.pointer (some ⟨x, 0, none⟩)] #[]) a (HH.out.but (But.of_below (l := []) (show Below w.heap.size w w4 from (Below.refl _ _).drew.trans k4)) (by simp)) (by simp [gvCells]) (.some _ _ _) (by have : w.heap.size ≤ y := k5; omega) k7) | (go_at_call 98; refine hf.mono ?_; rintro e w5 ⟨⟨v, rfl⟩, q, b, hC⟩; have q5 : w5.cell? ⟨x, 2, none⟩ = some (.pointer (some ⟨cl, 0, none⟩)) := hC.at'.own.cell 2 rfl))
  all_goals
    have k6' : ∀ k ∈ L, w.heap.size ≤ k := k6
    have HRN : Hid (RunNew (relSub (wd 0 2 3 0 1) (wd 0 2 3 0 2) who) RelT.fresh w w5 x (gvCells who nx cl p g hv sm hw gv qu) 144 _) := RunNew.mk (S := (relSub (wd 0 2 3 0 1) (wd 0 2 3 0 2) who)) (W := w) HG.out k1 k6' hlt hB4 hC
    clear hO hR hH q4 q5 hf k1 k4 k5 k6 k6' k7 hC hB4 HH HG
    go_wp2_with fail
    go_end0
    exact ⟨⟨_, rfl⟩, HRN.out⟩
/-- It was preempted: the machine that puts it into the global queue is made, and the lock acquired. -/
def GvPre (who : Int) (gl : Int → Int) (cl : Nat) (P T G : Int) (g : Int) (W w' : World) (x : Nat) (cs : Nat → Array Value) : Prop := ∃ y L, qpI who cl gl [g] w' y (.ch 0) L ∧ (∀ k ∈ L, W.heap.size ≤ k ∧ k < w'.heap.size) ∧ W.heap.size ≤ y ∧ ∃ V, But [x] W V ∧ (∀ k ∈ L, k < V.heap.size) ∧ RunNew (acqSub (wd 0 2 3 0 0) (wd 0 2 3 0 1) (wd 0 2 3 0 2) who) AcqT.fresh V w' x (cs y) 144 (.func (.func 147) #[.pointer (some ⟨x, 0, none⟩)] #[])
set_option maxHeartbeats 4000000 in
theorem gv_give_pre (h1 : hw = 1) (P T G : Int) (hw' : 0 ≤ who ∧ who ≤ 1000000) (hxc : cl ≠ x) (hl : Lay w cl P T G) (hp : 0 ≤ P ∧ P ≤ 64) (hT : 0 ≤ T ∧ T ≤ 65536) (hG : 0 ≤ G ∧ G ≤ 65536) :
    Calls Tryz.prog 91 #[.pointer (some ⟨x, 0, none⟩)] w fun e w' => (∃ v, e = .returned v) ∧ GvPre who (fun y => wd (20 + P * 264 + T * 3) G 2 y 1) cl P T G g w w' x (fun y => gvCells who nx cl p g (.func (.func 145) #[.pointer (some ⟨y, 0, none⟩)] #[]) sm hw true (some ⟨y, 0, none⟩)) := by
  subst h1
  have c8 := h.cell 8 (v := .bool gv) rfl
  have f8 := h.fro 8
  obtain ⟨V, hV⟩ : ∃ V, (w.setCell ⟨x, 8, none⟩ (.bool true)) = V := ⟨_, rfl⟩
  have h' : Blk V x (gvCells who nx cl p g hv sm 1 true qu) 144 := by rw [← hV]; exact h.set 8 (.bool true)
  have HBV : Hid (But [x] w V) := by rw [← hV]; exact (But.refl _ w).set (g := x) (.inl (by simp)) 8 _
  have c7 := h'.cell 7 (v := .int .i64 1) rfl
  have hl' : Lay V cl P T G := (HBV.out.block cl hl.lt (by simpa using hxc)).trans hl
  have hlt := h'.lt
  have hO := who_any V.drew x who (h'.drew.cell 0 rfl)
  have HG : Hid ((qpI who cl (fun y => wd (20 + P * 264 + T * 3) G 2 y 1) [g]).Good (qpPM (fun y => wd (20 + P * 264 + T * 3) G 2 y 1) [g])) := qp_good who P T G cl [g] hp hT hG (by simp)
  have HN : Hid (∀ (Y : World) (v : Value), Below V.heap.size V Y → SeesL Y v [g] → Calls Tryz.prog 143 #[.pointer (some ⟨cl, 0, none⟩), .int .i64 who, v] Y fun e w' => ∃ x L, e = .returned (.pointer (some ⟨x, 0, none⟩)) ∧ qpI who cl (fun y => wd (20 + P * 264 + T * 3) G 2 y 1) [g] w' x (.ch 0) L ∧ Below Y.heap.size Y w' ∧ (∀ k ∈ L, Y.heap.size ≤ k) ∧ Y.heap.size ≤ x) := fun Y v hY hs => qp_new_some Y cl who P T G v [g] hs (by simp) (by simp) (hl'.below hY hl'.lt) hp hT hG
  have HH : Hid (Blk V x (gvCells who nx cl p g hv sm 1 true qu) 144) := h'
  have HAG : Hid ((acqSub (wd 0 2 3 0 0) (wd 0 2 3 0 1) (wd 0 2 3 0 2) who).I.Good (acqSub (wd 0 2 3 0 0) (wd 0 2 3 0 1) (wd 0 2 3 0 2) who).M) := Fl.good (acq_laws _ _ _ who hw')
  generalize (fun y => wd (20 + P * 264 + T * 3) G 2 y 1) = gl at HG HN
  have HS1 : Hid (SeesL (V.drew.alloc (.cells #[.int .i64 g] 3)) (.slice (some ⟨V.drew.heap.size, 0, none⟩) 1 1) [g] ∧ Below V.heap.size V (V.drew.alloc (.cells #[.int .i64 g] 3))) := by
    have hX := Blk.new V.drew #[.int .i64 g] 3
    refine ⟨⟨_, 1, rfl, (fun h => by cases h), fun _ => ⟨V.drew.heap.size, 0, rfl, hX.lt, fun j hj => ?_⟩⟩, ((Below.refl _ _).drew).alloc (Nat.le_refl _) _⟩
    have hj4 : j < 1 := hj
    obtain rfl : j = 0 := by omega
    exact hX.cell 0 rfl
  have hH : Hid (V.drew.cell? ⟨x, 2, none⟩ = some (.pointer (some ⟨cl, 0, none⟩)) ∧ V.drew.cell? ⟨x, 4, none⟩ = some (.int .i64 g)) := ⟨HH.out.drew.cell 2 rfl, HH.out.drew.cell 4 rfl⟩
  have hA : Hid (Blk (V.drew.alloc (.cells #[.int .i64 g] 3)) x (gvCells who nx cl p g hv sm 1 true qu) 144) := HH.out.drew.al _
  have hHA : Hid ((V.drew.alloc (.cells #[.int .i64 g] 3)).cell? ⟨x, 2, none⟩ = some (.pointer (some ⟨cl, 0, none⟩)) ∧ (V.drew.alloc (.cells #[.int .i64 g] 3)).cell? ⟨x, 4, none⟩ = some (.int .i64 g)) := ⟨hA.out.cell 2 rfl, hA.out.cell 4 rfl⟩
  have hOA := who_any (V.drew.alloc (.cells #[.int .i64 g] 3)) x who (hA.out.cell 0 rfl)
  have HST : Hid (∀ (X : World) (u : Value), Blk X x (gvCells who nx cl p g hv sm 1 true qu) 144 → (X.setCell ⟨x, 9, none⟩ u).cell? ⟨x, 2, none⟩ = some (.pointer (some ⟨cl, 0, none⟩)) ∧ (X.setCell ⟨x, 9, none⟩ u).cell? ⟨x, 4, none⟩ = some (.int .i64 g)) := fun X u h => ⟨(h.set 9 u).cell 2 rfl, (h.set 9 u).cell 4 rfl⟩
  have HSN : Hid (∀ X : World, Blk X x (gvCells who nx cl p g hv sm 1 true qu) 144 → X.cell? ⟨x, 2, none⟩ = some (.pointer (some ⟨cl, 0, none⟩)) ∧ X.cell? ⟨x, 4, none⟩ = some (.int .i64 g)) := fun X h => ⟨h.cell 2 rfl, h.cell 4 rfl⟩
  have hsV := HBV.out.size
  clear h h' hl hl' hp hT hG hxc hw'
  go_enter Tryz.func91, Tryz.ntmps91
  go_wp2_with fail
  try rw [hV]
  clear hV c8 f8
  go_wp2_with fail
  go_region_held3 (fun X => X.cell? ⟨x, 2, none⟩ = some (.pointer (some ⟨cl, 0, none⟩)) ∧ X.cell? ⟨x, 4, none⟩ = some (.int .i64 g)) (first | exact hH.out | exact hHA.out | exact HST.out _ _ ‹_› | assumption) (first | (go_at_call 144; first | (refine hO.mono ?_; rintro e w3 ⟨rfl, rfl⟩) | (refine hOA.mono ?_; rintro e w3 ⟨rfl, rfl⟩)) | (go_at_call 143; refine (HN.out _ _ HS1.out.2 HS1.out.1).mono ?_; rintro e w2 ⟨y, L, rfl, y1, y2, y3, y4⟩; have hb2 := hA.out.but (But.of_below (l := []) y2) (by simp); have q2 := HSN.out w2 hb2; have s9 := hb2.cell 9 (v := .pointer qu) rfl; have t9 := hb2.fro 9; have u9 := hb2.lt))
  all_goals
    have h5 : Blk (w2.setCell ⟨x, 9, none⟩ (.pointer (some ⟨y, 0, none⟩))) x (gvCells who nx cl p g hv sm 1 true (some ⟨y, 0, none⟩)) 144 := hb2.set 9 _
    have hs1w := HS1.out.2.size
    have y3' : ∀ k ∈ L, V.heap.size ≤ k := fun k hk => Nat.le_trans hs1w (y3 k hk)
    have y4' : V.heap.size ≤ y := Nat.le_trans hs1w y4
    have hB5 : But [x] w (w2.setCell ⟨x, 9, none⟩ (.pointer (some ⟨y, 0, none⟩))) := HBV.out.trans (((((But.refl [x] V).drew).alloc _).trans (But.of_below y2)).set (g := x) (.inl (by simp)) 9 _)
    have hI5 : qpI who cl gl [g] (w2.setCell ⟨x, 9, none⟩ (.pointer (some ⟨y, 0, none⟩))) y (.ch 0) L := HG.out.keep y1 ((But.refl [x] w2).set (g := x) (.inl (by simp)) 9 _) (fun k hk => by have := y3' k hk; simp; omega)
    have hs5 : V.heap.size ≤ (w2.setCell ⟨x, 9, none⟩ (.pointer (some ⟨y, 0, none⟩))).heap.size := by rw [size_set]; exact Nat.le_trans hs1w y2.size
    generalize (w2.setCell ⟨x, 9, none⟩ (.pointer (some ⟨y, 0, none⟩))) = V5 at *
    have c9 := h5.cell 9 (v := .pointer (some ⟨y, 0, none⟩)) rfl
    have c5 := h5.cell 5 (v := hv) rfl
    have f5 := h5.fro 5
    obtain ⟨V6, hV6⟩ : ∃ V6, (V5.setCell ⟨x, 5, none⟩ (.func (.func 145) #[.pointer (some ⟨y, 0, none⟩)] #[])) = V6 := ⟨_, rfl⟩
    have h6 : Blk V6 x (gvCells who nx cl p g (.func (.func 145) #[.pointer (some ⟨y, 0, none⟩)] #[]) sm 1 true (some ⟨y, 0, none⟩)) 144 := by rw [← hV6]; exact h5.set 5 _
    have hB6 : But [x] w V6 := by rw [← hV6]; exact hB5.set (g := x) (.inl (by simp)) 5 _
    have hI6 : qpI who cl gl [g] V6 y (.ch 0) L := HG.out.keep hI5 (by rw [← hV6]; exact (But.refl [x] V5).set (g := x) (.inl (by simp)) 5 _) (fun k hk => by have := y3' k hk; simp; omega)
    have hs6 : V.heap.size ≤ V6.heap.size := by rw [← hV6, size_set]; exact hs5
    have hlt6 := h6.lt
    have hH6 : Hid (V6.drew.cell? ⟨x, 2, none⟩ = some (.pointer (some ⟨cl, 0, none⟩))) := h6.drew.cell 2 (v := .pointer (some ⟨cl, 0, none⟩)) rfl
    have hO6 := who_any V6.drew x who (h6.drew.cell 0 rfl)
    have hR6 := lock_fresh V6.drew cl 0 who
    have HH6 : Hid (Blk V6 x (gvCells who nx cl p g (.func (.func 145) #[.pointer (some ⟨y, 0, none⟩)] #[]) sm 1 true (some ⟨y, 0, none⟩)) 144 ∧ qpI who cl gl [g] V6 y (.ch 0) L) := ⟨h6, hI6⟩
    clear hO hOA HN HS1 HSN HST hHA hH hA HH y1 y2 y3 y4 hb2 q2 s9 t9 u9 h5 hI5 hB5 h6 hI6 hs5
    go_wp2_with fail
    try rw [hV6]
    clear hV6 c9 c5 f5
    go_wp2_with fail
    go_region_held3 (fun X => X.cell? ⟨x, 2, none⟩ = some (.pointer (some ⟨cl, 0, none⟩))) (first | exact hH6.out | assumption) (first | (go_at_call 144; refine hO6.mono ?_; rintro e w3 ⟨rfl, rfl⟩) | (go_at_call 146; refine hR6.mono ?_; rintro e w4 ⟨y9, L9, rfl, k1, k4, k5, k6, a, k7⟩; have q4 : w4.cell? ⟨x, 2, none⟩ = some (.pointer (some ⟨cl, 0, none⟩)) := (HH6.out.1.but (But.of_below (l := []) (show Below V6.heap.size V6 w4 from (Below.refl _ _).drew.trans k4)) (by simp)).cell 2 rfl; have hB4 : But [x] V6 w4 := ((But.refl [x] V6).drew).trans (But.of_below k4); have hf := frun_acq w4 x y9 _ 144 (.func (.func 147) #[.pointer (some ⟨x, 0, none⟩)] #[]) a (HH6.out.1.but (But.of_below (l := []) (show Below V6.heap.size V6 w4 from (Below.refl _ _).drew.trans k4)) (by simp)) (by simp [gvCells]) (.some _ _ _) (by have : V6.heap.size ≤ y9 := k5; omega) k7) | (go_at_call 98; refine hf.mono ?_; rintro e w5 ⟨⟨v, rfl⟩, q, b, hC⟩; have q5 : w5.cell? ⟨x, 2, none⟩ = some (.pointer (some ⟨cl, 0, none⟩)) := hC.at'.own.cell 2 rfl))
    all_goals
      have k6' : ∀ k ∈ L9, V6.heap.size ≤ k := k6
      have HRN : Hid (RunNew (acqSub (wd 0 2 3 0 0) (wd 0 2 3 0 1) (wd 0 2 3 0 2) who) AcqT.fresh V6 w5 x (gvCells who nx cl p g (.func (.func 145) #[.pointer (some ⟨y, 0, none⟩)] #[]) sm 1 true (some ⟨y, 0, none⟩)) 144 _) := RunNew.mk (S := (acqSub (wd 0 2 3 0 0) (wd 0 2 3 0 1) (wd 0 2 3 0 2) who)) (W := V6) HAG.out k1 k6' hlt6 hB4 hC
      have hI9 : qpI who cl gl [g] w5 y (.ch 0) L := HG.out.keep HH6.out.2 (hB4.trans hC.at'.but) (fun k hk => by have := y3' k hk; simp; omega)
      have hlL := HG.out.lt HH6.out.2
      have hlL9 := HG.out.lt hI9
      clear hO6 hR6 hH6 q4 q5 hf k1 k4 k5 k6 k6' k7 hC hB4 HH6 HAG HG
      go_wp2_with fail
      go_end0
      exact ⟨⟨_, rfl⟩, y, L, hI9, fun k hk => ⟨Nat.le_trans hsV (y3' k hk), hlL9 k hk⟩, Nat.le_trans hsV y4', V6, hB6, hlL, HRN.out⟩
theorem gv_Gave : Calls Tryz.prog 28 #[.pointer (some ⟨x, 0, none⟩)] w fun e w' => e = .returned (.bool gv) ∧ w = w' := by
  have c8 := h.cell 8 (v := .bool gv) rfl
  clear h
  go_enter Tryz.func28, Tryz.ntmps28
  go_wp2_with fail
  go_ret
  exact ⟨rfl, rfl⟩
end
theorem gv_Gave_nil (w : World) : Calls Tryz.prog 28 #[.pointer none] w fun e w' => e = .returned (.bool false) ∧ w = w' := by
  go_enter Tryz.func28, Tryz.ntmps28
  go_wp2_with fail
  go_ret
  exact ⟨rfl, rfl⟩
section
variable (w : World) (x cl : Nat) (who p g : Int) (hv : Value) (sm nx : Option Addr) (hw : Int) (gv : Bool) (qu : Option Addr) (h : Blk w x (gvCells who nx cl p g hv sm hw gv qu) 144)
include h
theorem gv_Holds (l : List Int) (hH : Calls Tryz.prog 81 #[.pointer (some ⟨x, 0, none⟩)] w fun e w' => ∃ v, e = .returned v ∧ SeesL w' v l ∧ Below w.heap.size w w') : Calls Tryz.prog 29 #[.pointer (some ⟨x, 0, none⟩)] w fun e w' => ∃ v, e = .returned v ∧ SeesL w' v l ∧ Below w.heap.size w w' := by
  clear h
  go_enter Tryz.func29, Tryz.ntmps29
  go_wp2_with fail
  go_at_call 81; refine hH.mono ?_; rintro e w1 ⟨v, rfl, h1, h2⟩
  clear hH
  go_wp2_with fail
  go_ret
  exact ⟨_, rfl, h1, h2⟩
theorem gv_Hand (v : Int) (hP : Calls Tryz.prog 82 #[.pointer sm] w fun e w' => e = .returned (.int .i64 v) ∧ w = w') : Calls Tryz.prog 30 #[.pointer (some ⟨x, 0, none⟩)] w fun e w' => e = .returned (.int .i64 v) ∧ w = w' := by
  have c6 := h.cell 6 (v := .pointer sm) rfl
  clear h
  go_enter Tryz.func30, Tryz.ntmps30
  go_wp2_with fail
  go_at_call 82; refine hP.mono ?_; rintro e w1 ⟨rfl, rfl⟩
  clear hP
  go_wp2_with fail
  go_ret
  exact ⟨rfl, rfl⟩
theorem gv_Counts (v : Bool) (hP : Calls Tryz.prog 83 #[.pointer sm] w fun e w' => e = .returned (.bool v) ∧ w = w') : Calls Tryz.prog 31 #[.pointer (some ⟨x, 0, none⟩)] w fun e w' => e = .returned (.bool v) ∧ w = w' := by
  have c6 := h.cell 6 (v := .pointer sm) rfl
  clear h
  go_enter Tryz.func31, Tryz.ntmps31
  go_wp2_with fail
  go_at_call 83; refine hP.mono ?_; rintro e w1 ⟨rfl, rfl⟩
  clear hP
  go_wp2_with fail
  go_ret
  exact ⟨rfl, rfl⟩
end
theorem gv_Holds_nil (w : World) : Calls Tryz.prog 29 #[.pointer none] w fun e w' => e = .returned (.slice none 0 0) ∧ w = w' := by
  go_enter Tryz.func29, Tryz.ntmps29
  go_wp2_with fail
  go_ret
  exact ⟨rfl, rfl⟩
theorem gv_Hand_nil (w : World) : Calls Tryz.prog 30 #[.pointer none] w fun e w' => e = .returned (.int .i64 (-1)) ∧ w = w' := by
  go_enter Tryz.func30, Tryz.ntmps30
  go_wp2_with fail
  go_ret
  exact ⟨rfl, rfl⟩
theorem gv_Counts_nil (w : World) : Calls Tryz.prog 31 #[.pointer none] w fun e w' => e = .returned (.bool false) ∧ w = w' := by
  go_enter Tryz.func31, Tryz.ntmps31
  go_wp2_with fail
  go_ret
  exact ⟨rfl, rfl⟩
end Go.Proofs.YtfdpikkinlljlaaGreat
