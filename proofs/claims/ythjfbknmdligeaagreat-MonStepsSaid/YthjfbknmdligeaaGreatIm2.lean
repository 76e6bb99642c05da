/- The list of idle threads: the machine that gets one. -/
import Derived.Test.YthjfbknmdligeaaGreatIm1
namespace Go.Proofs.YthjfbknmdligeaaGreat
open Go Go.RowKit
set_option linter.unusedVariables false
set_option maxRecDepth 100000
set_option linter.unusedSimpArgs false

def jgCells (who : Int) (nx : Option Addr) (cl : Nat) (t : Int) (z : Bool) : Array Value := #[.int .i64 who, .pointer nx, .pointer (some ⟨cl, 0, none⟩), .int .i64 t, .bool z]
theorem ent_jg1 : Ent 171 := fun args w => by kernel_rfl
theorem ent_jg2 : Ent 182 := fun args w => by kernel_rfl
theorem ent_jg3 : Ent 193 := fun args w => by kernel_rfl
theorem ent_jg4 : Ent 180 := fun args w => by kernel_rfl
theorem ent_jg5 : Ent 192 := fun args w => by kernel_rfl
theorem jget_choose_none (w : World) (x cl : Nat) (who t : Int) (z : Bool) (nx : Option Addr) (h : Blk w x (jgCells who nx cl t z) 206) :
    Calls Tryz.prog 171 #[.pointer (some ⟨x, 0, none⟩), .int .u64 0] w fun e w' => (∃ v, e = .returned v) ∧ Came w w' x (jgCells who nx cl t z) 206 (axLd 15) (.told 180) := by
  have H := im_load w x cl _ 206 h (by simp [jgCells]) rfl 15 (by omega) 180
  clear h
  go_enter Tryz.func171, Tryz.ntmps171
  go_wp2_with fail
  go_at_call 170; refine H.mono ?_; rintro e w1 ⟨⟨u, rfl⟩, hC⟩
  clear H
  go_wp2_with fail
  refine bodyPost_ret (results_none rfl _ _ _) rfl ?_
  exact ⟨⟨_, rfl⟩, hC⟩
set_option maxHeartbeats 4000000 in
theorem jget_choose (w : World) (x cl : Nat) (who t : Int) (z : Bool) (nx : Option Addr) (P T G : Int) (v : Int) (hv : v ≠ 0) (hl : Lay w cl P T G) (hxc : cl ≠ x) (hp : 0 ≤ P ∧ P ≤ 64) (hT : 0 ≤ T ∧ T ≤ 65536) (h : Blk w x (jgCells who nx cl t z) 206) :
    Calls Tryz.prog 171 #[.pointer (some ⟨x, 0, none⟩), .int .u64 v] w fun e w' => (∃ v, e = .returned v) ∧ Came w w' x (jgCells who nx cl (gw v) z) 206 (axLd (wd (20 + P * 264) T 3 (gw v) 2)) (.told 182) := by
  obtain ⟨zz, hz⟩ : ∃ zz, IntKind.u64.wrap (v - 1) = zz := ⟨_, rfl⟩
  obtain ⟨y, hy⟩ : ∃ y, IntKind.i64.wrap zz = y := ⟨_, rfl⟩
  have hgw : gw v = y := by unfold gw; rw [hz, hy]
  rw [hgw]
  have hd : (v == 0) = false := by simpa using hv
  have c3 := h.cell 3 (v := .int .i64 t) rfl
  have f3 := h.fro 3
  have hlt := h.lt
  have h' : Blk (w.setCell ⟨x, 3, none⟩ (.int .i64 y)) x (jgCells who nx cl y z) 206 := h.set 3 (.int .i64 y)
  have hB : But [x] w (w.setCell ⟨x, 3, none⟩ (.int .i64 y)) := (But.refl _ w).set (g := x) (.inl (by simp)) 3 _
  have hl' : Lay (w.setCell ⟨x, 3, none⟩ (.int .i64 y)) cl P T G := (hB.block cl hl.lt (by simpa using hxc)).trans hl
  generalize hV : (w.setCell ⟨x, 3, none⟩ (.int .i64 y)) = V at h' hB hl'
  have hW := im_behind V.drew x cl _ 206 h'.drew rfl P T G y rfl (hl'.below ((Below.refl _ _).drew) hl'.lt) hp hT
  have HS : Hid (∀ w4, Below V.drew.heap.size V.drew w4 → Calls Tryz.prog 83 #[.pointer (some ⟨x, 0, none⟩), .int .i64 (wd (20 + P * 264) T 3 y 2), .func (.func 182) #[.pointer (some ⟨x, 0, none⟩)] #[]] w4 fun e w' => (∃ v, e = .returned v) ∧ Came w w' x (jgCells who nx cl y z) 206 (axLd (wd (20 + P * 264) T 3 y 2)) (.told 182)) := by
    intro w4 k
    have hB4 : But [x] w w4 := hB.trans (((But.refl [x] V).drew).trans (But.of_below k))
    have h4 : Blk w4 x (jgCells who nx cl y z) 206 := h'.drew.but (But.of_below (l := []) k) (by simp)
    refine (came_load w4 x _ 206 h4 (by simp [jgCells]) _ 182).mono ?_
    rintro e w5 ⟨hv, hC⟩
    exact ⟨hv, hC.before hB4⟩
  generalize wd (20 + P * 264) T 3 y 2 = at' at *
  clear h h' hB hl hl' hp hT hxc hv hgw
  go_enter Tryz.func171, Tryz.ntmps171
  go_wp2_with fail
  try rw [hV]
  clear hV c3 f3
  go_region_with (first | (go_at_call 181; refine hW.mono ?_; rintro e w4 ⟨rfl, k⟩) | (go_at_call 83; refine (HS.out _ k).mono ?_; rintro e w5 ⟨⟨v, rfl⟩, hC⟩))
  all_goals
    clear hW k HS
    go_wp2_with fail
    go_end0
    exact ⟨⟨_, rfl⟩, hC⟩
theorem jget_unlink (w : World) (x cl : Nat) (who t : Int) (z : Bool) (nx : Option Addr) (v : Int) (h : Blk w x (jgCells who nx cl t z) 206) :
    Calls Tryz.prog 182 #[.pointer (some ⟨x, 0, none⟩), .int .u64 v] w fun e w' => (∃ v, e = .returned v) ∧ Came w w' x (jgCells who nx cl t z) 206 (axSt 11 v) (.untold 193) := by
  have H := im_store w x cl _ 206 h (by simp [jgCells]) rfl 11 (by omega) v 193
  clear h
  go_enter Tryz.func182, Tryz.ntmps182
  go_wp2_with fail
  go_at_call 191; refine H.mono ?_; rintro e w1 ⟨⟨u, rfl⟩, hC⟩
  clear H
  go_wp2_with fail
  go_end0
  exact ⟨⟨_, rfl⟩, hC⟩
theorem jget_have (w : World) (x cl : Nat) (who t : Int) (z : Bool) (nx : Option Addr) (h : Blk w x (jgCells who nx cl t z) 206) :
    Calls Tryz.prog 193 #[.pointer (some ⟨x, 0, none⟩)] w fun e w' => (∃ v, e = .returned v) ∧ Came w w' x (jgCells who nx cl t true) 206 (axAd 12 4294967295) .nil := by
  have c4 := h.cell 4 (v := .bool z) rfl
  have f4 := h.fro 4
  have hlt := h.lt
  have h' : Blk (w.setCell ⟨x, 4, none⟩ (.bool true)) x (jgCells who nx cl t true) 206 := h.set 4 (.bool true)
  have hB : But [x] w (w.setCell ⟨x, 4, none⟩ (.bool true)) := (But.refl _ w).set (g := x) (.inl (by simp)) 4 _
  have H := im_count _ x cl _ 206 h' (by simp [jgCells]) rfl 4294967295
  clear h h'
  go_enter Tryz.func193, Tryz.ntmps193
  go_wp2_with fail
  go_at_call 200; refine H.mono ?_; rintro e w1 ⟨⟨u, rfl⟩, hC⟩
  have hC2 := hC.before hB
  clear H hC hB c4 f4
  go_wp2_with fail
  go_end0
  exact ⟨⟨_, rfl⟩, hC2⟩
theorem jget_haveNew (w : World) (x cl : Nat) (who t : Int) (z : Bool) (nx : Option Addr) (h : Blk w x (jgCells who nx cl t z) 206) :
    Calls Tryz.prog 192 #[.pointer (some ⟨x, 0, none⟩)] w fun e w' => (∃ v, e = .returned v) ∧ Blk w' x (jgCells who nx cl t true) 206 ∧ But [x] w w' := by
  have c4 := h.cell 4 (v := .bool z) rfl
  have f4 := h.fro 4
  have HF : Hid (Blk (w.setCell ⟨x, 4, none⟩ (.bool true)) x (jgCells who nx cl t true) 206 ∧ But [x] w (w.setCell ⟨x, 4, none⟩ (.bool true))) := ⟨h.set 4 (.bool true), (But.refl _ w).set (g := x) (.inl (by simp)) 4 _⟩
  clear h
  go_enter Tryz.func192, Tryz.ntmps192
  go_wp2_with fail
  go_end0
  exact ⟨⟨_, rfl⟩, HF.out⟩
theorem jget_make_none (w : World) (x cl : Nat) (who t : Int) (z : Bool) (nx : Option Addr) (P T G v : Int) (hl : Lay w cl P T G) (hT : 0 ≤ T ∧ T ≤ 65536) (hv : T ≤ v) (h : Blk w x (jgCells who nx cl t z) 206) :
    Calls Tryz.prog 180 #[.pointer (some ⟨x, 0, none⟩), .int .u64 v] w fun e w' => (∃ v, e = .returned v) ∧ Below w.heap.size w w' := by
  have c2 := h.cell 2 (v := .pointer (some ⟨cl, 0, none⟩)) rfl
  have hfc := field_c1
  have hC := config_any _ P T G w (.some cl hl)
  have hw1 : IntKind.u64.wrap T = T := wrap_u64 (by omega)
  have HB0 : Hid (Below w.heap.size w w) := Below.refl _ _
  clear h hl hT
  go_enter Tryz.func180, Tryz.ntmps180
  go_wp2_with fail
  go_at_call 37; refine hC.mono ?_; rintro e w4 ⟨rfl, k⟩
  have hF := HB0.out.trans k
  clear hC k c2
  go_wp2_with fail
  refine bodyPost_ret (results_none rfl _ _ _) rfl ?_
  exact ⟨⟨_, rfl⟩, hF⟩
set_option maxHeartbeats 4000000 in
theorem jget_make_some (w : World) (x cl : Nat) (who t : Int) (z : Bool) (nx : Option Addr) (P T G v : Int) (hl : Lay w cl P T G) (hxc : cl ≠ x) (hT : 0 ≤ T ∧ T ≤ 65536) (hv0 : 0 ≤ v) (hv : v < T) (h : Blk w x (jgCells who nx cl t z) 206) :
    Calls Tryz.prog 180 #[.pointer (some ⟨x, 0, none⟩), .int .u64 v] w fun e w' => (∃ v, e = .returned v) ∧ Came w w' x (jgCells who nx cl v z) 206 (axSt 15 (v + 1)) (.untold 192) := by
  have c2 := h.cell 2 (v := .pointer (some ⟨cl, 0, none⟩)) rfl
  have hfc := field_c1
  have hC := config_any _ P T G w (.some cl hl)
  have hw1 : IntKind.u64.wrap T = T := wrap_u64 (by omega)
  have hw2 : IntKind.i64.wrap v = v := by simp [IntKind.wrap, IntKind.bits, IntKind.signed]; omega
  have hw3 : IntKind.u64.wrap (v + 1) = v + 1 := wrap_u64 (by omega)
  have hd : decide (T ≤ v) = false := decide_eq_false (by omega)
  have HB0 : Hid (Below w.heap.size w w) := Below.refl _ _
  have HX : Hid (Blk w x (jgCells who nx cl t z) 206) := h
  clear h hl hT hv hv0
  go_enter Tryz.func180, Tryz.ntmps180
  go_wp2_with fail
  go_at_call 37; refine hC.mono ?_; rintro e w4 ⟨rfl, k⟩
  have hF := HB0.out.trans k
  have hX4 : Blk w4 x (jgCells who nx cl t z) 206 := HX.out.but (But.of_below (l := []) hF) (by simp)
  have d3 := hX4.cell 3 (v := .int .i64 t) rfl
  have e3 := hX4.fro 3
  have hX5 : Blk (w4.setCell ⟨x, 3, none⟩ (.int .i64 v)) x (jgCells who nx cl v z) 206 := hX4.set 3 (.int .i64 v)
  have hB5 : But [x] w (w4.setCell ⟨x, 3, none⟩ (.int .i64 v)) := (But.of_below hF).set (g := x) (.inl (by simp)) 3 _
  have H := im_store _ x cl _ 206 hX5 (by simp [jgCells]) rfl 15 (by omega) (v + 1) 192
  clear hC k c2 hF hX4 hX5 HX
  go_wp2_with fail
  go_at_call 191; refine H.mono ?_; rintro e w5 ⟨⟨u, rfl⟩, hC⟩
  have hC2 := hC.before hB5
  clear H hC hB5 d3 e3
  go_wp2_with fail
  go_end0
  exact ⟨⟨_, rfl⟩, hC2⟩
inductive JgT where
  | ld
  | lk (y : Int)
  | un (y l : Int)
  | ct (y : Int)
  | th
  | nw (y : Int)
  | none'
  | over (y : Int)
def jgPM (P T : Int) : PM JgT where
  ax := fun
    | .ld => some (axLd 11)
    | .lk y => some (axLd (wd (20 + P * 264) T 3 y 2))
    | .un _ l => some (axSt 11 l)
    | .ct _ => some (axAd 12 4294967295)
    | .th => some (axLd 15)
    | .nw y => some (axSt 15 (y + 1))
    | .none' => none
    | .over _ => none
  nx := fun
    | .ld, v => if v = 0 then .th else .lk (gw v)
    | .lk y, v => .un y v
    | .un y _, _ => .ct y
    | .ct y, _ => .over y
    | .th, v => if T ≤ v then .none' else .nw v
    | .nw y, _ => .over y
    | t, _ => t
def JgT.t : JgT → Int
  | .lk y => y
  | .un y _ => y
  | .ct y => y
  | .nw y => y
  | .over y => y
  | _ => 0
def JgT.z : JgT → Bool
  | .ct _ => true
  | .over _ => true
  | _ => false
/-- Which one was got. -/
def JgT.obs (t : JgT) : Int := if t.z then t.t else -1
def jgFl (who T : Int) (cl : Nat) : Fl JgT where
  T := 206
  cells := fun t nx => jgCells who nx cl t.t t.z
  fol := fun
    | .ld => .told 171
    | .lk _ => .told 182
    | .un _ _ => .untold 193
    | .th => .told 180
    | .nw _ => .untold 192
    | _ => .nil
  ok := fun
    | .un _ l => 0 ≤ l ∧ l ≤ 18446744073709551615
    | .nw y => 0 ≤ y ∧ y < T
    | _ => True
theorem jg_laws (who P T G : Int) (cl : Nat) (hp : 0 ≤ P ∧ P ≤ 64) (hT : 0 ≤ T ∧ T ≤ 65536) : (jgFl who T cl).Laws (jgPM P T) (Rd.lay cl P T G) who where
  c0 := fun t nx => rfl
  c1 := fun t nx => rfl
  set := fun t nx nx' => rfl
  axok := fun t a hok h => by
    cases t with
    | ld => cases h; exact axLd_ok _
    | lk y => cases h; exact axLd_ok _
    | un y l => cases h; exact axSt_ok _ _ hok
    | ct y => cases h; exact axAd_ok _ _ (by omega)
    | th => cases h; exact axLd_ok _
    | nw y => cases h; exact axSt_ok _ _ (by have : 0 ≤ y ∧ y < T := hok; omega)
    | none' => cases h
    | over y => cases h
  ents := fun t a h => by
    cases t with
    | ld => exact ent_jg1
    | lk y => exact ent_jg2
    | un y l => exact ent_jg3
    | th => exact ent_jg4
    | nw y => exact ent_jg5
    | _ => exact trivial
  ok := fun t a v hok h hv => by
    cases t with
    | ld => by_cases h0 : v = 0 <;> simp [jgPM, jgFl, h0]
    | lk y => exact hv
    | th => 
      by_cases h0 : T ≤ v
      · simp [jgPM, jgFl, h0]
      · simp [jgPM, jgFl, h0]; omega
    | _ => exact trivial
  fol := fun W x t a v hok h hv hB hR hxR => by
    have hcx : cl ≠ x := fun e => hxR (by rw [e]; exact List.mem_singleton.2 rfl)
    cases t with
    | ld =>
      cases h
      by_cases h0 : v = 0
      · subst h0
        exact jget_choose_none W x cl who 0 false none hB
      · have e : (jgPM P T).nx .ld v = .lk (gw v) := if_neg h0
        rw [e]
        exact jget_choose W x cl who 0 false none P T G v h0 hR hcx hp hT hB
    | lk y => cases h; exact jget_unlink W x cl who y false none v hB
    | un y l => cases h; exact jget_have W x cl who y false none hB
    | ct y => cases h; exact ⟨hB, But.refl _ _⟩
    | th =>
      cases h
      by_cases h0 : T ≤ v
      · have e : (jgPM P T).nx .th v = .none' := if_pos h0
        rw [e]
        refine (jget_make_none W x cl who 0 false none P T G v hR hT h0 hB).mono ?_
        rintro e w' ⟨hu, hb⟩
        exact ⟨hu, hB.but (But.of_below (l := []) hb) (by simp), But.of_below hb⟩
      · have e : (jgPM P T).nx .th v = .nw v := if_neg h0
        rw [e]
        exact jget_make_some W x cl who 0 false none P T G v hR hcx hT hv.1 (by omega) hB
    | nw y => cases h; exact jget_haveNew W x cl who y false none hB
    | none' => cases h
    | over y => cases h
theorem jg_new (w : World) (cl : Nat) (who : Int) (P T : Int) :
    Calls Tryz.prog 165 #[.pointer (some ⟨cl, 0, none⟩), .int .i64 who] w fun e w' => ∃ x L, e = .returned (.pointer (some ⟨x, 0, none⟩)) ∧ (jgFl who T cl).I (jgPM P T) w' x .ld L ∧ Below w.heap.size w w' ∧ (∀ k ∈ L, w.heap.size ≤ k) ∧ w.heap.size ≤ x := by
  have hB := Blk.new w #[.int .i64 0, .pointer none, .pointer none, .int .i64 0, .bool false] 206
  have hb : Below w.heap.size w (w.alloc (.cells #[.int .i64 0, .pointer none, .pointer none, .int .i64 0, .bool false] 206)) := (Below.refl _ _).alloc (Nat.le_refl _) _
  have hO := im_of _ w.heap.size cl who _ (jgCells who none cl 0 false) 206 hB (by simp) rfl
  have HH : Hid (Below w.heap.size w (w.alloc (.cells #[.int .i64 0, .pointer none, .pointer none, .int .i64 0, .bool false] 206))) := hb
  have hsz := World.size_alloc w (.cells #[.int .i64 0, .pointer none, .pointer none, .int .i64 0, .bool false] 206)
  clear hB hb
  go_enter Tryz.func165, Tryz.ntmps165
  go_wp2_with fail
  go_at_call 169; refine hO.mono ?_; rintro e w1 ⟨⟨v, rfl⟩, h1, h2, h3⟩
  have hlt := h1.lt
  have hb1 : Hid (Below w.heap.size w w1) := HH.out.trans (h2.below (by simp) (by rw [hsz]; omega))
  have hL := im_load w1 w.heap.size cl _ 206 h1 (by simp [jgCells]) rfl 11 (by omega) 171
  have h3' : w1.heap.size = w.heap.size + 1 := by rw [h3, hsz]
  clear hO h2 HH h1
  go_wp2_with fail
  go_at_call 170; refine hL.mono ?_; rintro e w2 ⟨⟨v2, rfl⟩, hC⟩
  obtain ⟨q, Lc, c1, c2, c3, c4⟩ := hC
  have hF : Hid ((jgFl who T cl).I (jgPM P T) w2 w.heap.size .ld (w.heap.size :: Lc) ∧ Below w.heap.size w w2 ∧ ∀ k ∈ w.heap.size :: Lc, w.heap.size ≤ k) := by
    refine ⟨⟨trivial, q, Lc, c1, c2, fun hm => by have := c4 _ hm; omega, rfl⟩, hb1.out.trans (c3.below (by simp) hb1.out.size), fun k hk => ?_⟩
    simp at hk
    rcases hk with rfl | hk
    · exact Nat.le_refl _
    · have := c4 k hk; omega
  clear hL c1 c2 c3 c4
  go_wp2_with fail
  go_ret
  exact ⟨w.heap.size, w.heap.size :: Lc, rfl, hF.out.1, hF.out.2.1, hF.out.2.2, Nat.le_refl _⟩
theorem jget_t (w : World) (x cl : Nat) (who t : Int) (z : Bool) (nx : Option Addr) (h : Blk w x (jgCells who nx cl t z) 206) :
    Calls Tryz.prog 183 #[.pointer (some ⟨x, 0, none⟩)] w fun e w' => e = .returned (.int .i64 (if z then t else -1)) ∧ w = w' := by
  have c3 := h.cell 3 (v := .int .i64 t) rfl
  have cz := h.cell 4 (v := .bool z) rfl
  clear h
  cases z with
  | false =>
    go_enter Tryz.func183, Tryz.ntmps183
    go_wp2_with fail
    go_ret
    exact ⟨rfl, rfl⟩
  | true =>
    go_enter Tryz.func183, Tryz.ntmps183
    go_wp2_with fail
    go_ret
    exact ⟨rfl, rfl⟩
theorem jget_t_nil (w : World) : Calls Tryz.prog 183 #[.pointer none] w fun e w' => e = .returned (.int .i64 (-1)) ∧ w = w' := by
  go_enter Tryz.func183, Tryz.ntmps183
  go_wp2_with fail
  go_ret
  exact ⟨rfl, rfl⟩
theorem jg_got {who P T : Int} {cl : Nat} {w : World} {x : Nat} {t : JgT} {L : List Nat} (h : (jgFl who T cl).I (jgPM P T) w x t L) :
    Calls Tryz.prog 183 #[.pointer (some ⟨x, 0, none⟩)] w fun e w' => e = .returned (.int .i64 t.obs) ∧ w = w' := by
  obtain ⟨nx, h1, -⟩ := Fl.blk h
  exact jget_t w x cl who t.t t.z nx h1
end Go.Proofs.YthjfbknmdligeaaGreat
