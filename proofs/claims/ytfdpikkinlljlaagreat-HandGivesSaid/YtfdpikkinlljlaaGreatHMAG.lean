/- The machine that puts goroutines behind the global queue: what its steps let follow. -/
import Derived.Test.YtfdpikkinlljlaaGreatHMAB
namespace Go.Proofs.YtfdpikkinlljlaaGreat
open Go Go.RowKit
set_option linter.unusedVariables false
set_option maxRecDepth 100000
set_option linter.unusedSimpArgs false

def qpCells (who : Int) (nx : Option Addr) (cl : Nat) (sl : Value) (k : Int) (z : Bool) : Array Value := #[.int .i64 who, .pointer nx, .pointer (some ⟨cl, 0, none⟩), sl, .int .i64 k, .bool z]
/-- A row of ints at a block g of its own. -/
structure RowAt (w : World) (g cap : Nat) (l : List Int) : Prop where
  lt : g < w.heap.size
  cell : ∀ j, j < l.length → w.cell? ⟨g, j, none⟩ = some (.int .i64 (l.getD j 0))
theorem RowAt.but {w w' : World} {g cap : Nat} {l : List Int} {lb : List Nat} (h : RowAt w g cap l) (hB : But lb w w') (hg : g ∉ lb) : RowAt w' g cap l :=
  ⟨Nat.lt_of_lt_of_le h.lt hB.size, fun j hj => by
    have := h.cell j hj
    simp only [World.cell?] at this ⊢
    rw [hB.block g h.lt hg]; exact this⟩
theorem RowAt.below {w w' : World} {g cap : Nat} {l : List Int} (h : RowAt w g cap l) (hB : Below w.heap.size w w') : RowAt w' g cap l := h.but (But.of_below (l := []) hB) (by simp)
theorem IntsOn.row {w : World} {base : Nat} {v : Value} {l : List Int} (h : IntsOn w base v l) (h0 : 0 < l.length) : ∃ g cap, v = .slice (some ⟨g, 0, none⟩) l.length cap ∧ base ≤ g ∧ RowAt w g cap l := by
  rcases h.own.2 with ⟨e, h1⟩ | ⟨gb, cp, cur, e, hb, hh, hnc, hcm, hcs, htk⟩
  · omega
  · refine ⟨gb, cp, e, hb, block_lt hh, fun j hj => ?_⟩
    obtain ⟨gb', cap', e', hc⟩ := h.cell hj
    rw [e] at e'; cases e'
    exact hc

section
variable (w : World) (x cl g cap : Nat) (who : Int) (l : List Int) (nx : Option Addr)
theorem qput_tell (k : Int) (z : Bool) (h : Blk w x (qpCells who nx cl (.slice (some ⟨g, 0, none⟩) l.length cap) k z) 239) (hn : l.length ≤ 1000000) :
    Calls Tryz.prog 235 #[.pointer (some ⟨x, 0, none⟩)] w fun e w' => (∃ v, e = .returned v) ∧ Came w w' x (qpCells who nx cl (.slice (some ⟨g, 0, none⟩) l.length cap) k z) 239 (axAd 8 l.length) .nil := by
  have H := q_count w.drew x cl _ 239 (l.length : Int) h.drew (by simp [qpCells]) rfl
  have c3 := h.cell 3 (v := .slice (some ⟨g, 0, none⟩) l.length cap) rfl
  have e1 : IntKind.u64.wrap (l.length : Int) = (l.length : Int) := wrap_u64 (by omega)
  generalize l.length = n at *
  clear h
  go_enter Tryz.func235, Tryz.ntmps235
  go_wp2_with fail
  go_region_with (go_at_call 252; refine H.mono ?_; rintro e w1 ⟨⟨v, rfl⟩, hC⟩)
  all_goals
    have hC2 := hC.undrew
    clear H hC c3 e1
    go_wp2_with fail
    go_end0
    exact ⟨⟨_, rfl⟩, hC2⟩
set_option maxHeartbeats 4000000 in
theorem qput_trail (k : Int) (z : Bool) (h : Blk w x (qpCells who nx cl (.slice (some ⟨g, 0, none⟩) l.length cap) k z) 239) (hr : RowAt w g cap l) (hgx : g ≠ x) (h0 : 0 < l.length) (hn : l.length ≤ 1000000) :
    Calls Tryz.prog 219 #[.pointer (some ⟨x, 0, none⟩)] w fun e w' => (∃ v, e = .returned v) ∧ Came w w' x (qpCells who nx cl (.slice (some ⟨g, 0, none⟩) l.length cap) k true) 239 (axSt 7 (qwd (l.getD (l.length - 1) 0))) (.untold 235) := by
  have c5 := h.cell 5 (v := .bool z) rfl
  have f5 := h.fro 5
  have hlt := h.lt
  have h' : Blk _ x (qpCells who nx cl (.slice (some ⟨g, 0, none⟩) l.length cap) k true) 239 := h.set 5 (.bool true)
  have hB : But [x] w (w.setCell ⟨x, 5, none⟩ (.bool true)) := (But.refl _ w).set (g := x) (.inl (by simp)) 5 _
  have hc := (hr.but hB (by simpa using hgx)).cell (l.length - 1) (by omega)
  have H := q_store7 _ x cl 235 _ 239 (qwd (l.getD (l.length - 1) 0)) h'.drew (by simp [qpCells]) rfl
  have k3 := h'.cell 3 (v := .slice (some ⟨g, 0, none⟩) l.length cap) rfl
  generalize hyy : l.getD (l.length - 1) 0 = y at *
  generalize l.length = n at *
  generalize hV : w.setCell ⟨x, 5, none⟩ (.bool true) = V at *
  have hQ := q_word2 V.drew y
  obtain ⟨q, hq⟩ : ∃ q, n - 1 = q := ⟨_, rfl⟩
  rw [hq] at hc
  have e1 : IntKind.i64.wrap ((n : Int) - 1) = (q : Int) := by simp [IntKind.wrap, IntKind.bits, IntKind.signed]; omega
  have hq0 : (0 : Int) ≤ (q : Int) := by omega
  have hq1 : (q : Int) < (n : Int) := by omega
  clear hq h0
  clear h h' hr hyy
  go_enter Tryz.func219, Tryz.ntmps219
  go_wp2_with fail
  try rw [hV]
  clear hV c5 f5
  go_region_with (first | (go_at_call 201; refine hQ.mono ?_; rintro e w4 ⟨rfl, rfl⟩) | (go_at_call 234; refine H.mono ?_; rintro e w5 ⟨⟨v, rfl⟩, hC⟩))
  all_goals
    have hC2 := hC.undrew.before hB
    clear H hC hQ k3 hc
    go_wp2_with fail
    go_end0
    exact ⟨⟨_, rfl⟩, hC2⟩

set_option maxHeartbeats 4000000 in
theorem qput_chain_end (z : Bool) (h : Blk w x (qpCells who nx cl (.slice (some ⟨g, 0, none⟩) l.length cap) l.length z) 239) (hn : l.length ≤ 1000000) :
    Calls Tryz.prog 182 #[.pointer (some ⟨x, 0, none⟩)] w fun e w' => (∃ v, e = .returned v) ∧ Came w w' x (qpCells who nx cl (.slice (some ⟨g, 0, none⟩) l.length cap) l.length z) 239 (axLd 7) (.told 200) := by
  have H := fun m => q_load7 (w.drewN m) x cl 200 _ 239 (h.drewN m) (by simp [qpCells]) rfl
  have c3 := h.cell 3 (v := .slice (some ⟨g, 0, none⟩) l.length cap) rfl
  have c4 := h.cell 4 (v := .int .i64 l.length) rfl
  generalize l.length = n at *
  clear h
  go_enter Tryz.func182, Tryz.ntmps182
  go_wp2_with fail
  go_quiet (fail)
  go_wp2_with fail
  go_at_call 199; refine (H _).mono ?_; rintro e w1 ⟨⟨v, rfl⟩, hC⟩
  have hC2 := hC.before (((But.refl [x] w).drewN _))
  clear H hC c3 c4
  go_wp2_with fail
  refine bodyPost_ret (results_none rfl _ _ _) rfl ?_
  exact ⟨⟨_, rfl⟩, hC2⟩

set_option maxHeartbeats 4000000 in
theorem qput_chain_more (k : Nat) (P T G : Int) (z : Bool) (h : Blk w x (qpCells who nx cl (.slice (some ⟨g, 0, none⟩) l.length cap) k z) 239) (hr : RowAt w g cap l) (hgx : g ≠ x) (hk : k + 1 < l.length) (hn : l.length ≤ 1000000) (hl : Lay w cl P T G) (hxc : cl ≠ x) (hp : 0 ≤ P ∧ P ≤ 64) (hT : 0 ≤ T ∧ T ≤ 65536) (hG : G ≤ 65536) :
    Calls Tryz.prog 182 #[.pointer (some ⟨x, 0, none⟩)] w fun e w' => (∃ v, e = .returned v) ∧ Came w w' x (qpCells who nx cl (.slice (some ⟨g, 0, none⟩) l.length cap) ((k + 1 : Nat) : Int) z) 239 (axSt (wd (20 + P * 264 + T * 3) G 2 (l.getD k 0) 1) (qwd (l.getD (k + 1) 0))) (.untold 182) := by
  have c3 := h.cell 3 (v := .slice (some ⟨g, 0, none⟩) l.length cap) rfl
  have c4 := h.cell 4 (v := .int .i64 k) rfl
  have f4 := h.fro 4
  have hlt := h.lt
  have g0 := hr.cell k (by omega)
  have g1 := hr.cell (k + 1) hk
  have hglt := hr.lt
  have HH : Hid (Blk w x (qpCells who nx cl (.slice (some ⟨g, 0, none⟩) l.length cap) k z) 239 ∧ Lay w cl P T G) := ⟨h, hl⟩
  have HLK : Hid (∀ Y, Blk Y x (qpCells who nx cl (.slice (some ⟨g, 0, none⟩) l.length cap) ((k + 1 : Nat) : Int) z) 239 → Lay Y cl P T G → Calls Tryz.prog 202 #[.pointer (some ⟨x, 0, none⟩), .int .i64 (l.getD k 0)] Y fun e w' => e = .returned (.int .i64 (wd (20 + P * 264 + T * 3) G 2 (l.getD k 0) 1)) ∧ Below Y.heap.size Y w') := fun Y hY hLY => q_link Y x cl _ 239 P T G _ hY rfl hLY hp hT hG
  have HST : Hid (∀ Y i u, Blk Y x (qpCells who nx cl (.slice (some ⟨g, 0, none⟩) l.length cap) ((k + 1 : Nat) : Int) z) 239 → Calls Tryz.prog 88 #[.pointer (some ⟨x, 0, none⟩), .int .i64 i, .int .u64 u, .func (.func 182) #[.pointer (some ⟨x, 0, none⟩)] #[]] Y fun e w' => (∃ v, e = .returned v) ∧ Came Y w' x (qpCells who nx cl (.slice (some ⟨g, 0, none⟩) l.length cap) ((k + 1 : Nat) : Int) z) 239 (axSt i u) (.untold 182)) := fun Y i u hY => came_store Y x _ 239 hY (by simp [qpCells]) i u 182
  have HQ : Hid (∀ Y, Calls Tryz.prog 201 #[.int .i64 (l.getD (k + 1) 0)] Y fun e w' => e = .returned (.int .u64 (qwd (l.getD (k + 1) 0))) ∧ w' = Y) := fun Y => (q_word2 Y _).mono fun _ _ h => ⟨h.1, h.2.symm⟩
  generalize l.getD k 0 = y0 at *
  generalize l.getD (k + 1) 0 = y1 at *
  generalize wd (20 + P * 264 + T * 3) G 2 y0 1 = at' at *
  generalize l.length = n at *
  obtain ⟨q, hq⟩ : ∃ q, k + 1 = q := ⟨_, rfl⟩
  rw [hq] at g1 HLK HST ⊢
  have hkq : (k : Int) + 1 = (q : Int) := by omega
  have hq0 : (0 : Int) ≤ (q : Int) := by omega
  have hq1 : (q : Int) < (n : Int) := by omega
  have hk0 : (0 : Int) ≤ (k : Int) := by omega
  have hk1 : (k : Int) < (n : Int) := by omega
  have hd0 : decide ((k : Int) = (n : Int)) = false := decide_eq_false (by omega)
  have hnn : (n : Int) ≤ 1000000 := by omega
  clear h hr hl hp hT hG hq hk
  go_enter Tryz.func182, Tryz.ntmps182
  go_wp2_with fail
  go_quiet (fail)
  generalize nq = m1 at *
  go_wp2_with fail
  go_quiet (fail)
  generalize nq = m2 at *
  have hV1 : Blk ((w.drewN (m1 + m2)).setCell ⟨x, 4, none⟩ (.int .i64 q)) x (qpCells who nx cl (.slice (some ⟨g, 0, none⟩) n cap) q z) 239 := (HH.out.1.drewN (m1 + m2)).set 4 _
  have hBV : But [x] w ((w.drewN (m1 + m2)).setCell ⟨x, 4, none⟩ (.int .i64 q)) := ((But.refl [x] w).drewN (m1 + m2)).set (g := x) (.inl (by simp)) 4 _
  have hVg : ((w.drewN (m1 + m2)).setCell ⟨x, 4, none⟩ (.int .i64 q)).cell? ⟨g, q, none⟩ = some (.int .i64 y1) := by
    have h1 : (w.drewN (m1 + m2)).cell? ⟨g, q, none⟩ = some (.int .i64 y1) := g1
    simp only [World.cell?] at h1 ⊢
    rw [heap_set_ne _ hgx 4 _]
    exact h1
  have hLV : Lay ((w.drewN (m1 + m2)).setCell ⟨x, 4, none⟩ (.int .i64 q)) cl P T G := (hBV.block cl HH.out.2.lt (by simpa using hxc)).trans HH.out.2
  generalize hVV : (w.drewN (m1 + m2)).setCell ⟨x, 4, none⟩ (.int .i64 q) = V at hV1 hBV hVg hLV
  have k3 := hV1.cell 3 (v := .slice (some ⟨g, 0, none⟩) n cap) rfl
  have k4 := hV1.cell 4 (v := .int .i64 q) rfl
  have HV : Hid (Blk V x (qpCells who nx cl (.slice (some ⟨g, 0, none⟩) n cap) q z) 239 ∧ But [x] w V ∧ Lay V cl P T G) := ⟨hV1, hBV, hLV⟩
  clear hV1 hBV hLV
  go_wp2_with fail
  try rw [hVV]
  clear hVV c3 c4 f4 g0 g1 HH
  go_quiet (fail)
  generalize nq = m3 at *
  have k3' : (V.drewN m3).cell? ⟨x, 3, none⟩ = some (.slice (some ⟨g, 0, none⟩) n cap) := k3
  have k4' : (V.drewN m3).cell? ⟨x, 4, none⟩ = some (.int .i64 q) := k4
  have hVg' : (V.drewN m3).cell? ⟨g, q, none⟩ = some (.int .i64 y1) := hVg
  have HV3 : Hid (Blk (V.drewN m3) x (qpCells who nx cl (.slice (some ⟨g, 0, none⟩) n cap) q z) 239 ∧ But [x] w (V.drewN m3) ∧ Lay (V.drewN m3) cl P T G) := ⟨HV.out.1.drewN m3, HV.out.2.1.drewN m3, HV.out.2.2⟩
  clear k3 k4 hVg HV
  generalize V.drewN m3 = V3 at *
  go_wp2_with fail
  go_quiet ((go_at_call 201; exact Calls.quiet_of_same (HQ.out _)))
  generalize nq = m4 at *
  go_wp2_with fail
  have hBY : But [x] w (V3.drewN m4) := HV3.out.2.1.drewN m4
  have hY1 : Blk (V3.drewN m4) x (qpCells who nx cl (.slice (some ⟨g, 0, none⟩) n cap) q z) 239 := HV3.out.1.drewN m4
  have hLk := HLK.out (V3.drewN m4).drew hY1.drew (HV3.out.2.2 : Lay V3 cl P T G)
  generalize V3.drewN m4 = Y at *
  have HS : Hid (∀ w4, Below Y.drew.heap.size Y.drew w4 → Calls Tryz.prog 88 #[.pointer (some ⟨x, 0, none⟩), .int .i64 at', .int .u64 (qwd y1), .func (.func 182) #[.pointer (some ⟨x, 0, none⟩)] #[]] w4 fun e w' => (∃ v, e = .returned v) ∧ Came w w' x (qpCells who nx cl (.slice (some ⟨g, 0, none⟩) n cap) q z) 239 (axSt at' (qwd y1)) (.untold 182)) := by
    intro w4 k
    refine (HST.out w4 _ _ (hY1.drew.but (But.of_below (l := []) k) (by simp))).mono ?_
    rintro e w5 ⟨hv, hC⟩
    exact ⟨hv, hC.before (hBY.drew.trans (But.of_below k))⟩
  clear HLK HST hBY hY1 HV3 k3' k4' hVg' HQ
  go_region_with (first | (go_at_call 202; refine hLk.mono ?_; rintro e w4 ⟨rfl, k⟩) | (go_at_call 88; refine (HS.out _ k).mono ?_; rintro e w5 ⟨⟨v, rfl⟩, hC⟩))
  all_goals
    clear hLk k HS
    go_wp2_with fail
    go_end0
    exact ⟨⟨_, rfl⟩, hC⟩

set_option maxHeartbeats 4000000 in
theorem qput_chain_last (k : Nat) (P T G : Int) (z : Bool) (h : Blk w x (qpCells who nx cl (.slice (some ⟨g, 0, none⟩) l.length cap) k z) 239) (hr : RowAt w g cap l) (hgx : g ≠ x) (hk : k + 1 = l.length) (hn : l.length ≤ 1000000) (hl : Lay w cl P T G) (hxc : cl ≠ x) (hp : 0 ≤ P ∧ P ≤ 64) (hT : 0 ≤ T ∧ T ≤ 65536) (hG : G ≤ 65536) :
    Calls Tryz.prog 182 #[.pointer (some ⟨x, 0, none⟩)] w fun e w' => (∃ v, e = .returned v) ∧ Came w w' x (qpCells who nx cl (.slice (some ⟨g, 0, none⟩) l.length cap) ((k + 1 : Nat) : Int) z) 239 (axSt (wd (20 + P * 264 + T * 3) G 2 (l.getD k 0) 1) 0) (.untold 182) := by
  have c3 := h.cell 3 (v := .slice (some ⟨g, 0, none⟩) l.length cap) rfl
  have c4 := h.cell 4 (v := .int .i64 k) rfl
  have f4 := h.fro 4
  have hlt := h.lt
  have g0 := hr.cell k (by omega)
  have hglt := hr.lt
  have HH : Hid (Blk w x (qpCells who nx cl (.slice (some ⟨g, 0, none⟩) l.length cap) k z) 239 ∧ Lay w cl P T G) := ⟨h, hl⟩
  have HLK : Hid (∀ Y, Blk Y x (qpCells who nx cl (.slice (some ⟨g, 0, none⟩) l.length cap) ((k + 1 : Nat) : Int) z) 239 → Lay Y cl P T G → Calls Tryz.prog 202 #[.pointer (some ⟨x, 0, none⟩), .int .i64 (l.getD k 0)] Y fun e w' => e = .returned (.int .i64 (wd (20 + P * 264 + T * 3) G 2 (l.getD k 0) 1)) ∧ Below Y.heap.size Y w') := fun Y hY hLY => q_link Y x cl _ 239 P T G _ hY rfl hLY hp hT hG
  have HST : Hid (∀ Y i u, Blk Y x (qpCells who nx cl (.slice (some ⟨g, 0, none⟩) l.length cap) ((k + 1 : Nat) : Int) z) 239 → Calls Tryz.prog 88 #[.pointer (some ⟨x, 0, none⟩), .int .i64 i, .int .u64 u, .func (.func 182) #[.pointer (some ⟨x, 0, none⟩)] #[]] Y fun e w' => (∃ v, e = .returned v) ∧ Came Y w' x (qpCells who nx cl (.slice (some ⟨g, 0, none⟩) l.length cap) ((k + 1 : Nat) : Int) z) 239 (axSt i u) (.untold 182)) := fun Y i u hY => came_store Y x _ 239 hY (by simp [qpCells]) i u 182
  generalize l.getD k 0 = y0 at *
  generalize wd (20 + P * 264 + T * 3) G 2 y0 1 = at' at *
  generalize l.length = n at *
  obtain ⟨q, hq⟩ : ∃ q, k + 1 = q := ⟨_, rfl⟩
  rw [hq] at HLK HST ⊢
  have hkq : (k : Int) + 1 = (q : Int) := by omega
  have hq0 : (0 : Int) ≤ (q : Int) := by omega
  have hqn : n ≤ q := by omega
  have hk0 : (0 : Int) ≤ (k : Int) := by omega
  have hk1 : (k : Int) < (n : Int) := by omega
  have hd0 : decide ((k : Int) = (n : Int)) = false := decide_eq_false (by omega)
  have hnn : (n : Int) ≤ 1000000 := by omega
  clear h hr hl hp hT hG hq hk
  go_enter Tryz.func182, Tryz.ntmps182
  go_wp2_with fail
  go_quiet (fail)
  generalize nq = m1 at *
  go_wp2_with fail
  go_quiet (fail)
  generalize nq = m2 at *
  have hV1 : Blk ((w.drewN (m1 + m2)).setCell ⟨x, 4, none⟩ (.int .i64 q)) x (qpCells who nx cl (.slice (some ⟨g, 0, none⟩) n cap) q z) 239 := (HH.out.1.drewN (m1 + m2)).set 4 _
  have hBV : But [x] w ((w.drewN (m1 + m2)).setCell ⟨x, 4, none⟩ (.int .i64 q)) := ((But.refl [x] w).drewN (m1 + m2)).set (g := x) (.inl (by simp)) 4 _
  have hLV : Lay ((w.drewN (m1 + m2)).setCell ⟨x, 4, none⟩ (.int .i64 q)) cl P T G := (hBV.block cl HH.out.2.lt (by simpa using hxc)).trans HH.out.2
  generalize hVV : (w.drewN (m1 + m2)).setCell ⟨x, 4, none⟩ (.int .i64 q) = V at hV1 hBV hLV
  have k3 := hV1.cell 3 (v := .slice (some ⟨g, 0, none⟩) n cap) rfl
  have k4 := hV1.cell 4 (v := .int .i64 q) rfl
  have HV : Hid (Blk V x (qpCells who nx cl (.slice (some ⟨g, 0, none⟩) n cap) q z) 239 ∧ But [x] w V ∧ Lay V cl P T G) := ⟨hV1, hBV, hLV⟩
  clear hV1 hBV hLV
  go_wp2_with fail
  try rw [hVV]
  clear hVV c3 c4 f4 g0 HH
  go_quiet (fail)
  generalize nq = m3 at *
  have k3' : (V.drewN m3).cell? ⟨x, 3, none⟩ = some (.slice (some ⟨g, 0, none⟩) n cap) := k3
  have k4' : (V.drewN m3).cell? ⟨x, 4, none⟩ = some (.int .i64 q) := k4
  have HV3 : Hid (Blk (V.drewN m3) x (qpCells who nx cl (.slice (some ⟨g, 0, none⟩) n cap) q z) 239 ∧ But [x] w (V.drewN m3) ∧ Lay (V.drewN m3) cl P T G) := ⟨HV.out.1.drewN m3, HV.out.2.1.drewN m3, HV.out.2.2⟩
  clear k3 k4 HV
  generalize V.drewN m3 = V3 at *
  go_wp2_with fail
  all_goals try (exfalso; omega)
  have hBY : But [x] w V3 := HV3.out.2.1
  have hY1 : Blk V3 x (qpCells who nx cl (.slice (some ⟨g, 0, none⟩) n cap) q z) 239 := HV3.out.1
  have hLk := HLK.out V3.drew hY1.drew (HV3.out.2.2 : Lay V3 cl P T G)
  generalize V3 = Y at *
  have HS : Hid (∀ w4, Below Y.drew.heap.size Y.drew w4 → Calls Tryz.prog 88 #[.pointer (some ⟨x, 0, none⟩), .int .i64 at', .int .u64 0, .func (.func 182) #[.pointer (some ⟨x, 0, none⟩)] #[]] w4 fun e w' => (∃ v, e = .returned v) ∧ Came w w' x (qpCells who nx cl (.slice (some ⟨g, 0, none⟩) n cap) q z) 239 (axSt at' 0) (.untold 182)) := by
    intro w4 k
    refine (HST.out w4 _ _ (hY1.drew.but (But.of_below (l := []) k) (by simp))).mono ?_
    rintro e w5 ⟨hv, hC⟩
    exact ⟨hv, hC.before (hBY.drew.trans (But.of_below k))⟩
  clear HLK HST hBY hY1 HV3 k3' k4' 
  go_region_with (first | (go_at_call 202; refine hLk.mono ?_; rintro e w4 ⟨rfl, k⟩) | (go_at_call 88; refine (HS.out _ k).mono ?_; rintro e w5 ⟨⟨v, rfl⟩, hC⟩))
  all_goals
    clear hLk k HS
    go_wp2_with fail
    go_end0
    exact ⟨⟨_, rfl⟩, hC⟩

set_option maxHeartbeats 4000000 in
theorem qput_lead_none (k : Int) (z : Bool) (h : Blk w x (qpCells who nx cl (.slice (some ⟨g, 0, none⟩) l.length cap) k z) 239) (hr : RowAt w g cap l) (h0 : 0 < l.length) (hn : l.length ≤ 1000000) :
    Calls Tryz.prog 200 #[.pointer (some ⟨x, 0, none⟩), .int .u64 0] w fun e w' => (∃ v, e = .returned v) ∧ Came w w' x (qpCells who nx cl (.slice (some ⟨g, 0, none⟩) l.length cap) k z) 239 (axSt 6 (qwd (l.getD 0 0))) (.untold 219) := by
  have c2 := h.cell 2 (v := .pointer (some ⟨cl, 0, none⟩)) rfl
  have c3 := h.cell 3 (v := .slice (some ⟨g, 0, none⟩) l.length cap) rfl
  have g0 := hr.cell 0 h0
  have hW := glob_word_6 w cl
  have hQ := q_word2 w.drew (l.getD 0 0)
  have H := came_store w.drew x _ 239 h.drew (by simp [qpCells]) 6 (qwd (l.getD 0 0)) 219
  have hn0 : (0 : Int) < (l.length : Int) := by omega
  generalize l.getD 0 0 = y at *
  generalize l.length = n at *
  clear h hr
  go_enter Tryz.func200, Tryz.ntmps200
  go_wp2_with fail
  go_at_call 68; refine hW.mono ?_; rintro e w3 ⟨rfl, rfl⟩
  clear hW c2
  go_wp2_with fail
  go_region_with (first | (go_at_call 201; refine hQ.mono ?_; rintro e w4 ⟨rfl, rfl⟩) | (go_at_call 88; refine H.mono ?_; rintro e w5 ⟨⟨v, rfl⟩, hC⟩))
  all_goals
    have hC2 := hC.undrew
    clear H hC hQ c3 g0
    go_wp2_with fail
    go_end0
    exact ⟨⟨_, rfl⟩, hC2⟩
set_option maxHeartbeats 4000000 in
theorem qput_lead_some (k t P T G : Int) (z : Bool) (h : Blk w x (qpCells who nx cl (.slice (some ⟨g, 0, none⟩) l.length cap) k z) 239) (hr : RowAt w g cap l) (h0 : 0 < l.length) (hn : l.length ≤ 1000000) (ht : t ≠ 0) (hl : Lay w cl P T G) (hp : 0 ≤ P ∧ P ≤ 64) (hT : 0 ≤ T ∧ T ≤ 65536) (hG : G ≤ 65536) :
    Calls Tryz.prog 200 #[.pointer (some ⟨x, 0, none⟩), .int .u64 t] w fun e w' => (∃ v, e = .returned v) ∧ Came w w' x (qpCells who nx cl (.slice (some ⟨g, 0, none⟩) l.length cap) k z) 239 (axSt (wd (20 + P * 264 + T * 3) G 2 (gw t) 1) (qwd (l.getD 0 0))) (.untold 219) := by
  have c2 := h.cell 2 (v := .pointer (some ⟨cl, 0, none⟩)) rfl
  have hW := glob_word_6 w cl
  have hd : (t == 0) = false := by simpa using ht
  have hd2 : (t != 0) = true := by simpa using ht
  obtain ⟨zz, hz⟩ : ∃ zz, IntKind.u64.wrap (t - 1) = zz := ⟨_, rfl⟩
  obtain ⟨yy, hyy⟩ : ∃ yy, IntKind.i64.wrap zz = yy := ⟨_, rfl⟩
  have hgw : gw t = yy := by unfold gw; rw [hz, hyy]
  rw [hgw]
  have hLk := q_link w x cl _ 239 P T G yy h rfl hl hp hT hG
  have HS : Hid (∀ Y, Below w.heap.size w Y → Y.cell? ⟨x, 3, none⟩ = some (.slice (some ⟨g, 0, none⟩) l.length cap) ∧ Y.cell? ⟨g, 0, none⟩ = some (.int .i64 (l.getD 0 0)) ∧ Calls Tryz.prog 88 #[.pointer (some ⟨x, 0, none⟩), .int .i64 (wd (20 + P * 264 + T * 3) G 2 yy 1), .int .u64 (qwd (l.getD 0 0)), .func (.func 219) #[.pointer (some ⟨x, 0, none⟩)] #[]] Y.drew fun e w' => (∃ v, e = .returned v) ∧ Came w w' x (qpCells who nx cl (.slice (some ⟨g, 0, none⟩) l.length cap) k z) 239 (axSt (wd (20 + P * 264 + T * 3) G 2 yy 1) (qwd (l.getD 0 0))) (.untold 219)) := by
    intro Y hY
    have hB : Blk Y x (qpCells who nx cl (.slice (some ⟨g, 0, none⟩) l.length cap) k z) 239 := h.but (But.of_below (l := []) hY) (by simp)
    refine ⟨hB.cell 3 rfl, (hr.below hY).cell 0 h0, (came_store Y.drew x _ 239 hB.drew (by simp [qpCells]) _ _ 219).mono ?_⟩
    rintro e w5 ⟨hv, hC⟩
    exact ⟨hv, hC.before ((But.of_below hY).drew)⟩
  have hQ := fun Y => q_word2 Y (l.getD 0 0)
  have hn0 : (0 : Int) < (l.length : Int) := by omega
  generalize wd (20 + P * 264 + T * 3) G 2 yy 1 = at' at *
  generalize l.getD 0 0 = y at *
  generalize l.length = n at *
  clear h hr hl hp hT hG hgw ht
  go_enter Tryz.func200, Tryz.ntmps200
  go_wp2_with fail
  go_at_call 68; refine hW.mono ?_; rintro e w3 ⟨rfl, rfl⟩
  clear hW c2
  go_wp2_with fail
  go_at_call 202; refine hLk.mono ?_; rintro e w4 ⟨rfl, k4⟩
  obtain ⟨k3, g0, H⟩ := HS.out w4 k4
  have hQ4 := hQ w4.drew
  clear hLk HS hQ
  go_wp2_with fail
  go_region_with (first | (go_at_call 201; refine hQ4.mono ?_; rintro e w5 ⟨rfl, rfl⟩) | (go_at_call 88; refine H.mono ?_; rintro e w5 ⟨⟨v, rfl⟩, hC⟩))
  all_goals
    clear H hQ4 k3 g0
    go_wp2_with fail
    go_end0
    exact ⟨⟨_, rfl⟩, hC⟩
end
end Go.Proofs.YtfdpikkinlljlaaGreat
