/- The machine that pulls one from the global queue. -/
import Derived.Test.YthhlklfioipmgaaGq1
import Derived.Test.YthhlklfioipmgaaGwEq
import Derived.Test.YthhlklfioipmgaaRun_qpull
namespace Go.Proofs.Ythhlklfioipmgaa
open Go Go.RowKit
set_option linter.unusedVariables false
set_option maxRecDepth 100000
set_option linter.unusedSimpArgs false

inductive PlT where
  | ld
  | lnk (y : Int)
  | un (y l : Int)
  | tl (y : Int)
  | ct (y l : Int)
  | none'
  | over (y l : Int)
def plPM (gl : Int → Int) : PM PlT where
  ax := fun
    | .ld => some (axLd 6)
    | .lnk y => some (axLd (gl y))
    | .un _ l => some (axSt 6 l)
    | .tl _ => some (axSt 7 0)
    | .ct _ _ => some (axAd 8 4294967295)
    | .none' => none
    | .over _ _ => none
  nx := fun
    | .ld, v => if v = 0 then .none' else .lnk (gw v)
    | .lnk y, v => .un y v
    | .un y l, _ => if l = 0 then .tl y else .ct y l
    | .tl y, _ => .ct y 0
    | .ct y l, _ => .over y l
    | t, _ => t
def PlT.g : PlT → Int
  | .lnk y => y
  | .un y _ => y
  | .tl y => y
  | .ct y _ => y
  | .over y _ => y
  | _ => 0
def PlT.l : PlT → Int
  | .un _ l => l
  | .ct _ l => l
  | .over _ l => l
  | _ => 0
def PlT.pulled : PlT → Bool
  | .tl _ => true
  | .ct _ _ => true
  | .over _ _ => true
  | _ => false
/-- Which one was pulled. -/
def PlT.obs (t : PlT) : Int := if t.pulled then t.g else -1
def plCells (who : Int) (nx : Option Addr) (cl : Nat) (g l : Int) (z : Bool) : Array Value := #[.int .i64 who, .pointer nx, .pointer (some ⟨cl, 0, none⟩), .int .i64 g, .int .u64 l, .bool z]
def plFl (who : Int) (cl : Nat) : Fl PlT where
  T := 81
  cells := fun t nx => plCells who nx cl t.g t.l t.pulled
  fol := fun
    | .ld => .told 39
    | .lnk _ => .told 62
    | .un _ _ => .untold 84
    | .tl _ => .untold 99
    | .ct _ _ => .nil
    | _ => .nil
  ok := fun
    | .un _ l => 0 ≤ l ∧ l ≤ 18446744073709551615
    | _ => True
theorem ent_pl1 : Ent 39 := fun args w => by kernel_rfl
theorem ent_pl2 : Ent 62 := fun args w => by kernel_rfl
theorem ent_pl3 : Ent 84 := fun args w => by kernel_rfl
theorem ent_pl4 : Ent 99 := fun args w => by kernel_rfl

theorem pull_tell (w : World) (x cl : Nat) (who g l : Int) (z : Bool) (nx : Option Addr) (h : Blk w x (plCells who nx cl g l z) 81) :
    Calls Try.prog 99 #[.pointer (some ⟨x, 0, none⟩)] w fun e w' => (∃ v, e = .returned v) ∧ Came w w' x (plCells who nx cl g l z) 81 (axAd 8 4294967295) .nil := by
  have H := q_count w x cl _ 81 4294967295 h (by simp [plCells]) rfl
  clear h
  go_enter Try.func99, Try.ntmps99
  go_wp2_with fail
  go_at_call 102; refine H.mono ?_; rintro e w1 ⟨⟨v, rfl⟩, hC⟩
  clear H
  go_wp2_with fail
  go_end0
  exact ⟨⟨_, rfl⟩, hC⟩
theorem pull_unlink (w : World) (x cl : Nat) (who g l v : Int) (z : Bool) (nx : Option Addr) (h : Blk w x (plCells who nx cl g l z) 81) :
    Calls Try.prog 62 #[.pointer (some ⟨x, 0, none⟩), .int .u64 v] w fun e w' => (∃ v, e = .returned v) ∧ Came w w' x (plCells who nx cl g v z) 81 (axSt 6 v) (.untold 84) := by
  have c4 := h.cell 4 (v := .int .u64 l) rfl
  have f4 := h.fro 4
  have hlt := h.lt
  have h' : Blk _ x (plCells who nx cl g v z) 81 := h.set 4 (.int .u64 v)
  have hB : But [x] w (w.setCell ⟨x, 4, none⟩ (.int .u64 v)) := (But.refl _ w).set (g := x) (.inl (by simp)) 4 _
  have H := q_store6 _ x cl 84 _ 81 v h' (by simp [plCells]) rfl
  clear h h'
  go_enter Try.func62, Try.ntmps62
  go_wp2_with fail
  go_at_call 83; refine H.mono ?_; rintro e w1 ⟨⟨u, rfl⟩, hC⟩
  have hC2 := hC.before hB
  clear H hC hB c4 f4
  go_wp2_with fail
  go_end0
  exact ⟨⟨_, rfl⟩, hC2⟩
theorem pull_have_last (w : World) (x cl : Nat) (who g : Int) (z : Bool) (nx : Option Addr) (h : Blk w x (plCells who nx cl g 0 z) 81) :
    Calls Try.prog 84 #[.pointer (some ⟨x, 0, none⟩)] w fun e w' => (∃ v, e = .returned v) ∧ Came w w' x (plCells who nx cl g 0 true) 81 (axSt 7 0) (.untold 99) := by
  have c5 := h.cell 5 (v := .bool z) rfl
  have f5 := h.fro 5
  have hlt := h.lt
  have h' : Blk _ x (plCells who nx cl g 0 true) 81 := h.set 5 (.bool true)
  have hB : But [x] w (w.setCell ⟨x, 5, none⟩ (.bool true)) := (But.refl _ w).set (g := x) (.inl (by simp)) 5 _
  have H := q_store7 _ x cl 99 _ 81 0 h' (by simp [plCells]) rfl
  have k4 := h'.cell 4 (v := .int .u64 0) rfl
  clear h h'
  go_enter Try.func84, Try.ntmps84
  go_wp2_with fail
  go_at_call 83; refine H.mono ?_; rintro e w1 ⟨⟨u, rfl⟩, hC⟩
  have hC2 := hC.before hB
  clear H hC hB c5 f5 k4
  go_wp2_with fail
  refine bodyPost_ret (results_none rfl _ _ _) rfl ?_
  exact ⟨⟨_, rfl⟩, hC2⟩
theorem pull_have_more (w : World) (x cl : Nat) (who g l : Int) (z : Bool) (nx : Option Addr) (h : Blk w x (plCells who nx cl g l z) 81) (hl : l ≠ 0) :
    Calls Try.prog 84 #[.pointer (some ⟨x, 0, none⟩)] w fun e w' => (∃ v, e = .returned v) ∧ Came w w' x (plCells who nx cl g l true) 81 (axAd 8 4294967295) .nil := by
  have c5 := h.cell 5 (v := .bool z) rfl
  have f5 := h.fro 5
  have hlt := h.lt
  have h' : Blk _ x (plCells who nx cl g l true) 81 := h.set 5 (.bool true)
  have hB : But [x] w (w.setCell ⟨x, 5, none⟩ (.bool true)) := (But.refl _ w).set (g := x) (.inl (by simp)) 5 _
  have H := pull_tell _ x cl who g l true nx h'
  have k4 := h'.cell 4 (v := .int .u64 l) rfl
  have hd : (l == 0) = false := by simpa using hl
  clear h h'
  go_enter Try.func84, Try.ntmps84
  go_wp2_with fail
  go_at_call 99; refine H.mono ?_; rintro e w1 ⟨⟨u, rfl⟩, hC⟩
  have hC2 := hC.before hB
  clear H hC hB c5 f5 k4
  go_wp2_with fail
  go_end0
  exact ⟨⟨_, rfl⟩, hC2⟩
theorem pull_choose_none (w : World) (x : Nat) :
    Calls Try.prog 39 #[.pointer (some ⟨x, 0, none⟩), .int .u64 0] w fun e w' => (∃ v, e = .returned v) ∧ w = w' := by
  go_enter Try.func39, Try.ntmps39
  go_wp2_with fail
  refine bodyPost_ret (results_none rfl _ _ _) rfl ?_
  exact ⟨⟨_, rfl⟩, rfl⟩
set_option maxHeartbeats 4000000 in
theorem pull_choose (w : World) (x cl : Nat) (who g l v P T G : Int) (z : Bool) (nx : Option Addr) (h : Blk w x (plCells who nx cl g l z) 81) (hl : Lay w cl P T G) (hxc : cl ≠ x) (hp : 0 ≤ P ∧ P ≤ 64) (hT : 0 ≤ T ∧ T ≤ 65536) (hG : G ≤ 65536) (hv : v ≠ 0) :
    Calls Try.prog 39 #[.pointer (some ⟨x, 0, none⟩), .int .u64 v] w fun e w' => (∃ v, e = .returned v) ∧ Came w w' x (plCells who nx cl (gw v) l z) 81 (axLd (wd (20 + P * 264 + T * 3) G 2 (gw v) 1)) (.told 62) := by
  have c3 := h.cell 3 (v := .int .i64 g) rfl
  have f3 := h.fro 3
  have hlt := h.lt
  obtain ⟨zz, hz⟩ : ∃ zz, IntKind.u64.wrap (v - 1) = zz := ⟨_, rfl⟩
  obtain ⟨y, hy⟩ : ∃ y, IntKind.i64.wrap zz = y := ⟨_, rfl⟩
  have hgw : gw v = y := by unfold gw; rw [hz, hy]
  rw [hgw]
  have h' : Blk _ x (plCells who nx cl y l z) 81 := h.set 3 (.int .i64 y)
  have hB : But [x] w (w.setCell ⟨x, 3, none⟩ (.int .i64 y)) := (But.refl _ w).set (g := x) (.inl (by simp)) 3 _
  have hl' : Lay (w.setCell ⟨x, 3, none⟩ (.int .i64 y)) cl P T G := (hB.block cl hl.lt (by simpa using hxc)).trans hl
  have hd : (v == 0) = false := by simpa using hv
  generalize hV : w.setCell ⟨x, 3, none⟩ (.int .i64 y) = V at h' hB hl'
  have d3 := h'.cell 3 (v := .int .i64 y) rfl
  have hW := q_link V.drew x cl _ 81 P T G y h'.drew rfl (hl'.below ((Below.refl _ _).drew) hl'.lt) hp hT hG
  have HS : Hid (∀ w4, Below V.drew.heap.size V.drew w4 → Calls Try.prog 50 #[.pointer (some ⟨x, 0, none⟩), .int .i64 (wd (20 + P * 264 + T * 3) G 2 y 1), .func (.func 62) #[.pointer (some ⟨x, 0, none⟩)] #[]] w4 fun e w' => (∃ v, e = .returned v) ∧ Came w w' x (plCells who nx cl y l z) 81 (axLd (wd (20 + P * 264 + T * 3) G 2 y 1)) (.told 62)) := by
    intro w4 k
    have hB4 : But [x] w w4 := hB.trans (((But.refl [x] V).drew).trans (But.of_below k))
    have h4 : Blk w4 x (plCells who nx cl y l z) 81 := h'.drew.but (But.of_below (l := []) k) (by simp)
    refine (came_load w4 x _ 81 h4 (by simp [plCells]) _ 62).mono ?_
    rintro e w5 ⟨hv, hC⟩
    exact ⟨hv, hC.before hB4⟩
  generalize wd (20 + P * 264 + T * 3) G 2 y 1 = at' at *
  clear h h' hB hl hl' hp hT hG hxc hv hgw
  go_enter Try.func39, Try.ntmps39
  go_wp2_with fail
  try rw [hV]
  clear hV c3 f3
  go_region_with (first | (go_at_call 60; refine hW.mono ?_; rintro e w4 ⟨rfl, k⟩) | (go_at_call 50; refine (HS.out _ k).mono ?_; rintro e w5 ⟨⟨v, rfl⟩, hC⟩))
  all_goals
    clear hW k HS d3
    go_wp2_with fail
    go_end0
    exact ⟨⟨_, rfl⟩, hC⟩

theorem pl_laws (who P T G : Int) (cl : Nat) (hp : 0 ≤ P ∧ P ≤ 64) (hT : 0 ≤ T ∧ T ≤ 65536) (hG : 0 ≤ G ∧ G ≤ 65536) : (plFl who cl).Laws (plPM (fun y => wd (20 + P * 264 + T * 3) G 2 y 1)) (Rd.lay cl P T G) who where
  c0 := fun t nx => rfl
  c1 := fun t nx => rfl
  set := fun t nx nx' => rfl
  axok := fun t a hok h => by
    cases t with
    | ld => cases h; exact axLd_ok _
    | lnk y => cases h; exact axLd_ok _
    | un y l => cases h; exact axSt_ok _ _ hok
    | tl y => cases h; exact axSt_ok _ _ (by omega)
    | ct y l => cases h; exact axAd_ok _ _ (by omega)
    | none' => cases h
    | over y l => cases h
  ents := fun t a h => by
    cases t with
    | ld => exact ent_pl1
    | lnk y => exact ent_pl2
    | un y l => exact ent_pl3
    | tl y => exact ent_pl4
    | ct y l => exact trivial
    | none' => exact trivial
    | over y l => exact trivial
  ok := fun t a v hok h hv => by
    cases t with
    | ld => by_cases h0 : v = 0 <;> simp [plPM, plFl, h0]
    | lnk y => exact hv
    | un y l => by_cases h0 : l = 0 <;> simp [plPM, plFl, h0]
    | tl y => exact trivial
    | ct y l => exact trivial
    | none' => exact trivial
    | over y l => exact trivial
  fol := fun W x t a v hok h hv hB hR hxR => by
    have hcx : cl ≠ x := fun e => hxR (by rw [e]; exact List.mem_singleton.2 rfl)
    cases t with
    | ld =>
      cases h
      by_cases h0 : v = 0
      · subst h0
        refine (pull_choose_none W x).mono ?_
        rintro e w' ⟨hu, rfl⟩
        exact ⟨hu, hB, But.refl _ _⟩
      · have e : (plPM (fun y => wd (20 + P * 264 + T * 3) G 2 y 1)).nx .ld v = .lnk (gw v) := if_neg h0
        rw [e]
        exact pull_choose W x cl who 0 0 v P T G false none hB hR hcx hp hT hG.2 h0
    | lnk y => cases h; exact pull_unlink W x cl who y 0 v false none hB
    | un y l =>
      cases h
      by_cases h0 : l = 0
      · subst h0
        exact pull_have_last W x cl who y false none hB
      · have e : (plPM (fun y => wd (20 + P * 264 + T * 3) G 2 y 1)).nx (.un y l) v = .ct y l := if_neg h0
        rw [e]
        exact pull_have_more W x cl who y l false none hB h0
    | tl y => cases h; exact pull_tell W x cl who y 0 true none hB
    | ct y l => cases h; exact ⟨hB, But.refl _ _⟩
    | none' => cases h
    | over y l => cases h

theorem pl_new (w : World) (cl : Nat) (who : Int) (gl : Int → Int) :
    Calls Try.prog 9 #[.pointer (some ⟨cl, 0, none⟩), .int .i64 who] w fun e w' => ∃ x L, e = .returned (.pointer (some ⟨x, 0, none⟩)) ∧ (plFl who cl).I (plPM gl) w' x .ld L ∧ Below w.heap.size w w' ∧ (∀ k ∈ L, w.heap.size ≤ k) ∧ w.heap.size ≤ x := by
  have hB := Blk.new w #[.int .i64 0, .pointer none, .pointer none, .int .i64 0, .int .u64 0, .bool false] 81
  have hb : Below w.heap.size w (w.alloc (.cells #[.int .i64 0, .pointer none, .pointer none, .int .i64 0, .int .u64 0, .bool false] 81)) := (Below.refl _ _).alloc (Nat.le_refl _) _
  have hO := q_of _ w.heap.size cl who _ (plCells who none cl 0 0 false) 81 hB (by simp) rfl
  have HH : Hid (Below w.heap.size w (w.alloc (.cells #[.int .i64 0, .pointer none, .pointer none, .int .i64 0, .int .u64 0, .bool false] 81))) := hb
  have hsz := World.size_alloc w (.cells #[.int .i64 0, .pointer none, .pointer none, .int .i64 0, .int .u64 0, .bool false] 81)
  clear hB hb
  go_enter Try.func9, Try.ntmps9
  go_wp2_with fail
  go_at_call 35; refine hO.mono ?_; rintro e w1 ⟨⟨v, rfl⟩, h1, h2, h3⟩
  have hb1 : Hid (Below w.heap.size w w1) := HH.out.trans (h2.below (by simp) (by rw [hsz]; omega))
  have hL := q_load6 w1 w.heap.size cl 39 _ 81 h1 (by simp [plCells]) rfl
  have hlt := h1.lt
  clear hO h2 HH
  go_wp2_with fail
  go_at_call 38; refine hL.mono ?_; rintro e w2 ⟨⟨v2, rfl⟩, hC⟩
  obtain ⟨q, Lc, c1, c2, c3, c4⟩ := hC
  have hF : Hid ((plFl who cl).I (plPM gl) w2 w.heap.size .ld (w.heap.size :: Lc) ∧ Below w.heap.size w w2 ∧ ∀ k ∈ w.heap.size :: Lc, w.heap.size ≤ k) := by
    refine ⟨⟨trivial, q, Lc, c1, c2, fun hm => by have := c4 _ hm; omega, rfl⟩, hb1.out.trans (c3.below (by simp) hb1.out.size), fun k hk => ?_⟩
    simp at hk
    rcases hk with rfl | hk
    · exact Nat.le_refl _
    · have := c4 k hk; omega
  clear hL c1 c2 c3 c4
  go_wp2_with fail
  go_ret
  exact ⟨w.heap.size, w.heap.size :: Lc, rfl, hF.out.1, hF.out.2.1, hF.out.2.2, Nat.le_refl _⟩
theorem pull_g (w : World) (x cl : Nat) (who g l : Int) (z : Bool) (nx : Option Addr) (h : Blk w x (plCells who nx cl g l z) 81) :
    Calls Try.prog 12 #[.pointer (some ⟨x, 0, none⟩)] w fun e w' => e = .returned (.int .i64 (if z then g else -1)) ∧ w = w' := by
  have c3 := h.cell 3 (v := .int .i64 g) rfl
  have c5 := h.cell 5 (v := .bool z) rfl
  clear h
  cases z with
  | false =>
    go_enter Try.func12, Try.ntmps12
    go_wp2_with fail
    go_ret
    exact ⟨rfl, rfl⟩
  | true =>
    go_enter Try.func12, Try.ntmps12
    go_wp2_with fail
    go_ret
    exact ⟨rfl, rfl⟩
theorem pull_g_nil (w : World) : Calls Try.prog 12 #[.pointer none] w fun e w' => e = .returned (.int .i64 (-1)) ∧ w = w' := by
  go_enter Try.func12, Try.ntmps12
  go_wp2_with fail
  go_ret
  exact ⟨rfl, rfl⟩
theorem pl_g {who : Int} {cl : Nat} {gl : Int → Int} {w : World} {x : Nat} {t : PlT} {L : List Nat} (h : (plFl who cl).I (plPM gl) w x t L) :
    Calls Try.prog 12 #[.pointer (some ⟨x, 0, none⟩)] w fun e w' => e = .returned (.int .i64 t.obs) ∧ w = w' := by
  obtain ⟨nx, h1, -⟩ := Fl.blk h
  exact pull_g w x cl who t.g t.l t.pulled nx h1
end Go.Proofs.Ythhlklfioipmgaa
