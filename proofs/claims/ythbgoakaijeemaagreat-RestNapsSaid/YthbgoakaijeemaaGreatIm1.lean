/- The list of idle threads: its machines. -/
import Derived.Test.YthbgoakaijeemaaGreatIl0
import Derived.Test.YthbgoakaijeemaaGreatRunD
namespace Go.Proofs.YthbgoakaijeemaaGreat
open Go Go.RowKit
set_option linter.unusedVariables false
set_option maxRecDepth 100000
set_option linter.unusedSimpArgs false

section
variable (w : World) (x c : Nat) (cs : Array Value) (T : TypeId) (h : Blk w x cs T) (hs : 2 ≤ cs.size) (h2 : cs[2]? = some (.pointer (some ⟨c, 0, none⟩)))
include h hs h2
theorem im_load (i : Int) (hi : 6 ≤ i ∧ i ≤ 19) (K : Nat) :
    Calls Tryz.prog 123 #[.pointer (some ⟨x, 0, none⟩), .int .i64 i, .func (.func K) #[.pointer (some ⟨x, 0, none⟩)] #[]] w fun e w' => (∃ v, e = .returned v) ∧ Came w w' x cs T (axLd i) (.told K) := by
  have H := came_load w.drew x cs T h.drew hs i K
  have c2 := h.cell 2 h2
  have hW := il_word w.drew c i hi
  clear h hs h2 hi
  go_enter Tryz.func123, Tryz.ntmps123
  go_wp2_with fail
  go_region_with (first | (go_at_call 92; refine hW.mono ?_; rintro e w3 ⟨rfl, rfl⟩) | (go_at_call 91; refine H.mono ?_; rintro e w1 ⟨⟨v, rfl⟩, hC⟩))
  all_goals
    have hC2 := hC.undrew
    clear hW H c2 hC
    go_wp2_with fail
    go_end0
    exact ⟨⟨_, rfl⟩, hC2⟩
theorem im_store (i : Int) (hi : 6 ≤ i ∧ i ≤ 19) (u : Int) (K : Nat) :
    Calls Tryz.prog 184 #[.pointer (some ⟨x, 0, none⟩), .int .i64 i, .int .u64 u, .func (.func K) #[.pointer (some ⟨x, 0, none⟩)] #[]] w fun e w' => (∃ v, e = .returned v) ∧ Came w w' x cs T (axSt i u) (.untold K) := by
  have H := came_store w.drew x cs T h.drew hs i u K
  have c2 := h.cell 2 h2
  have hW := il_word w.drew c i hi
  clear h hs h2 hi
  go_enter Tryz.func184, Tryz.ntmps184
  go_wp2_with fail
  go_region_with (first | (go_at_call 92; refine hW.mono ?_; rintro e w3 ⟨rfl, rfl⟩) | (go_at_call 159; refine H.mono ?_; rintro e w1 ⟨⟨v, rfl⟩, hC⟩))
  all_goals
    have hC2 := hC.undrew
    clear hW H c2 hC
    go_wp2_with fail
    go_end0
    exact ⟨⟨_, rfl⟩, hC2⟩
theorem im_count (u : Int) :
    Calls Tryz.prog 201 #[.pointer (some ⟨x, 0, none⟩), .int .u64 u] w fun e w' => (∃ v, e = .returned v) ∧ Came w w' x cs T (axAd 12 u) .nil := by
  have H := came_add_nil w.drew x cs T h.drew hs 12 u
  have c2 := h.cell 2 h2
  have hW := il_word w.drew c 12 (by omega)
  clear h hs h2
  go_enter Tryz.func201, Tryz.ntmps201
  go_wp2_with fail
  go_region_with (first | (go_at_call 92; refine hW.mono ?_; rintro e w3 ⟨rfl, rfl⟩) | (go_at_call 116; refine H.mono ?_; rintro e w1 ⟨⟨v, rfl⟩, hC⟩))
  all_goals
    have hC2 := hC.undrew
    clear hW H c2 hC
    go_wp2_with fail
    go_end0
    exact ⟨⟨_, rfl⟩, hC2⟩
omit hs in
theorem im_behind (P T' G p : Int) (h3 : cs[3]? = some (.int .i64 p)) (hl : Lay w c P T' G) (hp : 0 ≤ P ∧ P ≤ 64) (hT : 0 ≤ T' ∧ T' ≤ 65536) :
    Calls Tryz.prog 161 #[.pointer (some ⟨x, 0, none⟩)] w fun e w' => e = .returned (.int .i64 (wd (20 + P * 264) T' 3 p 2)) ∧ Below w.heap.size w w' := by
  have c2 := h.cell 2 h2
  have c3 := h.cell 3 h3
  have hW := lthr_any _ P T' G p 2 w.drew (.some c (hl.below ((Below.refl _ _).drew) hl.lt)) hp hT
  clear h h2 h3 hl hp hT
  go_enter Tryz.func161, Tryz.ntmps161
  go_wp2_with fail
  go_region_with (first | (go_at_call 35; refine hW.mono ?_; rintro e w1 ⟨rfl, h1⟩))
  all_goals
    have h1' := (Below.refl _ w).drew.trans h1
    clear hW h1 c2 c3
    go_wp2_with fail
    go_ret
    exact ⟨rfl, h1'⟩
end
theorem im_of (w : World) (x c : Nat) (who : Int) (cs cs' : Array Value) (T : TypeId) (h : Blk w x cs T) (hs : 3 ≤ cs.size) (hcs : (cs.setIfInBounds 2 (.pointer (some ⟨c, 0, none⟩))).setIfInBounds 0 (.int .i64 who) = cs') :
    Calls Tryz.prog 122 #[.pointer (some ⟨x, 0, none⟩), .pointer (some ⟨c, 0, none⟩), .int .i64 who] w fun e w' => (∃ v, e = .returned v) ∧ Blk w' x cs' T ∧ But [x] w w' ∧ w'.heap.size = w.heap.size := by
  have f2 := h.fro 2
  have hh2 := h.set 2 (.pointer (some ⟨c, 0, none⟩))
  have hF := fof_any _ x _ T who hh2 (by simp; omega)
  have hB0 : But [x] w (w.setCell ⟨x, 2, none⟩ (.pointer (some ⟨c, 0, none⟩))) := (But.refl _ w).set (g := x) (.inl (by simp)) 2 _
  obtain ⟨u, hu⟩ : ∃ u, w.cell? ⟨x, 2, none⟩ = some u := ⟨_, h.cell 2 (Array.getElem?_eq_getElem hs)⟩
  have HH : Hid (Blk _ x _ T ∧ But [x] w _ ∧ (w.setCell ⟨x, 2, none⟩ (.pointer (some ⟨c, 0, none⟩))).heap.size = w.heap.size) := ⟨hh2, hB0, size_set _ _ _⟩
  clear h hh2 hB0 hs
  go_enter Tryz.func122, Tryz.ntmps122
  go_wp2_with fail
  generalize w.setCell ⟨x, 2, none⟩ (.pointer (some ⟨c, 0, none⟩)) = W at *
  go_at_call 121; refine hF.mono ?_; rintro e w3 ⟨⟨v, rfl⟩, hw3⟩
  have h3 : Blk w3 x cs' T := by rw [hw3, ← hcs]; exact HH.out.1.set 0 _
  have hB3 : But [x] w w3 := by rw [hw3]; exact HH.out.2.1.set (g := x) (.inl (by simp)) 0 _
  have hs3 : w3.heap.size = w.heap.size := by rw [hw3, size_set]; exact HH.out.2.2
  clear hF hw3 HH hcs hu f2
  go_wp2_with fail
  go_end0
  exact ⟨⟨_, rfl⟩, h3, hB3, hs3⟩
def imCells (who : Int) (nx : Option Addr) (cl : Nat) (t : Int) : Array Value := #[.int .i64 who, .pointer nx, .pointer (some ⟨cl, 0, none⟩), .int .i64 t]
theorem ent_im1 : Ent 204 := fun args w => by kernel_rfl
theorem ent_im2 : Ent 214 := fun args w => by kernel_rfl
theorem ent_im3 : Ent 217 := fun args w => by kernel_rfl
theorem imput_link (w : World) (x cl : Nat) (who t : Int) (nx : Option Addr) (P T G : Int) (v : Int) (hl : Lay w cl P T G) (hxc : cl ≠ x) (hp : 0 ≤ P ∧ P ≤ 64) (hT : 0 ≤ T ∧ T ≤ 65536) (h : Blk w x (imCells who nx cl t) 228) :
    Calls Tryz.prog 204 #[.pointer (some ⟨x, 0, none⟩), .int .u64 v] w fun e w' => (∃ v, e = .returned v) ∧ Came w w' x (imCells who nx cl t) 228 (axSt (wd (20 + P * 264) T 3 t 2) v) (.untold 214) := by
  have h' := h
  have hB : But [x] w w := But.refl _ _
  have hl' := hl
  have hV : True := trivial
  have hW := im_behind w.drew x cl _ 228 h'.drew rfl P T G t rfl (hl'.below ((Below.refl _ _).drew) hl'.lt) hp hT
  have HS : Hid (∀ w4, Below w.drew.heap.size w.drew w4 → Calls Tryz.prog 159 #[.pointer (some ⟨x, 0, none⟩), .int .i64 (wd (20 + P * 264) T 3 t 2), .int .u64 v, .func (.func 214) #[.pointer (some ⟨x, 0, none⟩)] #[]] w4 fun e w' => (∃ v, e = .returned v) ∧ Came w w' x (imCells who nx cl t) 228 (axSt (wd (20 + P * 264) T 3 t 2) v) (.untold 214)) := by
    intro w4 k
    have hB4 : But [x] w w4 := hB.trans (((But.refl [x] w).drew).trans (But.of_below k))
    have h4 : Blk w4 x (imCells who nx cl t) 228 := h'.drew.but (But.of_below (l := []) k) (by simp)
    refine (came_store w4 x _ 228 h4 (by simp [imCells]) _ v 214).mono ?_
    rintro e w5 ⟨hv, hC⟩
    exact ⟨hv, hC.before hB4⟩
  generalize wd (20 + P * 264) T 3 t 2 = at' at *
  clear h h' hB hl hl' hp hT hxc
  go_enter Tryz.func204, Tryz.ntmps204
  go_wp2_with fail
  clear hV
  go_region_with (first | (go_at_call 161; refine hW.mono ?_; rintro e w4 ⟨rfl, k⟩) | (go_at_call 159; refine (HS.out _ k).mono ?_; rintro e w5 ⟨⟨v, rfl⟩, hC⟩))
  all_goals
    clear hW k HS
    go_wp2_with fail
    go_end0
    exact ⟨⟨_, rfl⟩, hC⟩
theorem imput_lead (w : World) (x cl : Nat) (who t : Int) (nx : Option Addr) (h : Blk w x (imCells who nx cl t) 228) :
    Calls Tryz.prog 214 #[.pointer (some ⟨x, 0, none⟩)] w fun e w' => (∃ v, e = .returned v) ∧ Came w w' x (imCells who nx cl t) 228 (axSt 11 (ilw t)) (.untold 217) := by
  have c3 := h.cell 3 (v := .int .i64 t) rfl
  have he : IntKind.u64.wrap (IntKind.u64.wrap t + 1) = ilw t := rfl
  have H := im_store w.drew x cl _ 228 h.drew (by simp [imCells]) rfl 11 (by omega) (ilw t) 217
  generalize ilw t = lp at *
  clear h
  go_enter Tryz.func214, Tryz.ntmps214
  go_wp2_with fail
  go_region_with (first | (go_at_call 184; refine H.mono ?_; rintro e w5 ⟨⟨v, rfl⟩, hC⟩))
  all_goals
    have hC2 := hC.undrew
    clear H c3 hC he
    go_wp2_with fail
    go_end0
    exact ⟨⟨_, rfl⟩, hC2⟩
theorem imput_tell (w : World) (x cl : Nat) (who t : Int) (nx : Option Addr) (h : Blk w x (imCells who nx cl t) 228) :
    Calls Tryz.prog 217 #[.pointer (some ⟨x, 0, none⟩)] w fun e w' => (∃ v, e = .returned v) ∧ Came w w' x (imCells who nx cl t) 228 (axAd 12 1) .nil := by
  have H := im_count w x cl _ 228 h (by simp [imCells]) rfl 1
  clear h
  go_enter Tryz.func217, Tryz.ntmps217
  go_wp2_with fail
  go_at_call 201; refine H.mono ?_; rintro e w1 ⟨⟨u, rfl⟩, hC⟩
  clear H
  go_wp2_with fail
  go_end0
  exact ⟨⟨_, rfl⟩, hC⟩
inductive ImT where
  | h0
  | ln (h : Int)
  | st
  | ct
  | over
def imPM (P T t : Int) : PM ImT where
  ax := fun
    | .h0 => some (axLd 11)
    | .ln h => some (axSt (wd (20 + P * 264) T 3 t 2) h)
    | .st => some (axSt 11 (ilw t))
    | .ct => some (axAd 12 1)
    | .over => none
  nx := fun
    | .h0, v => .ln v
    | .ln _, _ => .st
    | .st, _ => .ct
    | .ct, _ => .over
    | t, _ => t
def imFl (who t : Int) (cl : Nat) : Fl ImT where
  T := 228
  cells := fun _ nx => imCells who nx cl t
  fol := fun
    | .h0 => .told 204
    | .ln _ => .untold 214
    | .st => .untold 217
    | .ct => .nil
    | .over => .nil
  ok := fun
    | .ln h => 0 ≤ h ∧ h ≤ 18446744073709551615
    | _ => True
theorem im_laws (who P T G t : Int) (cl : Nat) (hp : 0 ≤ P ∧ P ≤ 64) (hT : 0 ≤ T ∧ T ≤ 65536) : (imFl who t cl).Laws (imPM P T t) (Rd.lay cl P T G) who where
  c0 := fun t nx => rfl
  c1 := fun t nx => rfl
  set := fun t nx nx' => rfl
  axok := fun u a hok h => by
    cases u with
    | h0 => cases h; exact axLd_ok _
    | ln h' => cases h; exact axSt_ok _ _ hok
    | st => cases h; exact axSt_ok _ _ (ilw_bd t)
    | ct => cases h; exact axAd_ok _ _ (by omega)
    | over => cases h
  ents := fun t a h => by
    cases t with
    | h0 => exact ent_im1
    | ln h' => exact ent_im2
    | st => exact ent_im3
    | ct => exact trivial
    | over => exact trivial
  ok := fun t a v hok h hv => by
    cases t with
    | h0 => exact hv
    | _ => exact trivial
  fol := fun W x u a v hok h hv hB hR hxR => by
    have hcx : cl ≠ x := fun e => hxR (by rw [e]; exact List.mem_singleton.2 rfl)
    cases u with
    | h0 => cases h; exact imput_link W x cl who t none P T G v hR hcx hp hT hB
    | ln h' => cases h; exact imput_lead W x cl who t none hB
    | st => cases h; exact imput_tell W x cl who t none hB
    | ct => cases h; exact ⟨hB, But.refl _ _⟩
    | over => cases h
theorem im_new (w : World) (cl : Nat) (who t : Int) (P T : Int) :
    Calls Tryz.prog 195 #[.pointer (some ⟨cl, 0, none⟩), .int .i64 who, .int .i64 t] w fun e w' => ∃ x L, e = .returned (.pointer (some ⟨x, 0, none⟩)) ∧ (imFl who t cl).I (imPM P T t) w' x .h0 L ∧ Below w.heap.size w w' ∧ (∀ k ∈ L, w.heap.size ≤ k) ∧ w.heap.size ≤ x := by
  have hB := Blk.new w #[.int .i64 0, .pointer none, .pointer none, .int .i64 0] 228
  have hb : Below w.heap.size w (w.alloc (.cells #[.int .i64 0, .pointer none, .pointer none, .int .i64 0] 228)) := (Below.refl _ _).alloc (Nat.le_refl _) _
  have hO := im_of _ w.heap.size cl who _ (imCells who none cl 0) 228 hB (by simp) rfl
  have HH : Hid (Below w.heap.size w (w.alloc (.cells #[.int .i64 0, .pointer none, .pointer none, .int .i64 0] 228))) := hb
  have hsz := World.size_alloc w (.cells #[.int .i64 0, .pointer none, .pointer none, .int .i64 0] 228)
  clear hB hb
  go_enter Tryz.func195, Tryz.ntmps195
  go_wp2_with fail
  go_at_call 122; refine hO.mono ?_; rintro e w1 ⟨⟨v, rfl⟩, h1, h2, h3⟩
  have hlt := h1.lt
  have c3 := h1.cell 3 (v := .int .i64 0) rfl
  have f3 := h1.fro 3
  have h1' : Blk (w1.setCell ⟨w.heap.size, 3, none⟩ (.int .i64 t)) w.heap.size (imCells who none cl t) 228 := h1.set 3 (.int .i64 t)
  have h2' : But [w.heap.size] (w.alloc (.cells #[.int .i64 0, .pointer none, .pointer none, .int .i64 0] 228)) (w1.setCell ⟨w.heap.size, 3, none⟩ (.int .i64 t)) := h2.set (g := w.heap.size) (.inl (by simp)) 3 _
  have h3' : (w1.setCell ⟨w.heap.size, 3, none⟩ (.int .i64 t)).heap.size = w.heap.size + 1 := by rw [size_set, h3, hsz]
  have hb1 : Hid (Below w.heap.size w (w1.setCell ⟨w.heap.size, 3, none⟩ (.int .i64 t))) := HH.out.trans (h2'.below (by simp) (by rw [hsz]; omega))
  have hL := im_load (w1.setCell ⟨w.heap.size, 3, none⟩ (.int .i64 t)) w.heap.size cl _ 228 h1' (by simp [imCells]) rfl 11 (by omega) 204
  clear hO h2 HH h1 h1' h2'
  go_wp2_with fail
  go_at_call 123; refine hL.mono ?_; rintro e w2 ⟨⟨v2, rfl⟩, hC⟩
  obtain ⟨q, Lc, c1, c2, c3, c4⟩ := hC
  have hF : Hid ((imFl who t cl).I (imPM P T t) w2 w.heap.size .h0 (w.heap.size :: Lc) ∧ Below w.heap.size w w2 ∧ ∀ k ∈ w.heap.size :: Lc, w.heap.size ≤ k) := by
    refine ⟨⟨trivial, q, Lc, c1, c2, fun hm => by have := c4 _ hm; omega, rfl⟩, hb1.out.trans (c3.below (by simp) hb1.out.size), fun k hk => ?_⟩
    simp at hk
    rcases hk with rfl | hk
    · exact Nat.le_refl _
    · have := c4 k hk; omega
  clear hL c1 c2 c3 c4
  go_wp2_with fail
  go_ret
  exact ⟨w.heap.size, w.heap.size :: Lc, rfl, hF.out.1, hF.out.2.1, hF.out.2.2, Nat.le_refl _⟩
end Go.Proofs.YthbgoakaijeemaaGreat
