/- The list of idle processors: the machine that gets one. -/
import Derived.Test.YthbgoakaijeemaaGreatIp1
namespace Go.Proofs.YthbgoakaijeemaaGreat
open Go Go.RowKit
set_option linter.unusedVariables false
set_option maxRecDepth 100000
set_option linter.unusedSimpArgs false

def igCells (who : Int) (nx : Option Addr) (cl : Nat) (p : Int) (n : Int) (z : Bool) : Array Value := #[.int .i64 who, .pointer nx, .pointer (some ⟨cl, 0, none⟩), .int .i64 p, .int .u64 n, .bool z]
theorem ent_ig1 : Ent 199 := fun args w => by kernel_rfl
theorem ent_ig2 : Ent 208 := fun args w => by kernel_rfl
theorem ent_ig3 : Ent 215 := fun args w => by kernel_rfl
theorem ent_ig4 : Ent 218 := fun args w => by kernel_rfl
theorem ent_ig5 : Ent 220 := fun args w => by kernel_rfl
theorem iget_choose_none (w : World) (x : Nat) :
    Calls Tryz.prog 199 #[.pointer (some ⟨x, 0, none⟩), .int .u64 0] w fun e w' => (∃ v, e = .returned v) ∧ w = w' := by
  go_enter Tryz.func199, Tryz.ntmps199
  go_wp2_with fail
  refine bodyPost_ret (results_none rfl _ _ _) rfl ?_
  exact ⟨⟨_, rfl⟩, rfl⟩
set_option maxHeartbeats 4000000 in
theorem iget_choose (w : World) (x cl : Nat) (who p n : Int) (z : Bool) (nx : Option Addr) (P T G : Int) (v : Int) (hv : v ≠ 0) (hl : Lay w cl P T G) (hxc : cl ≠ x) (hp : 0 ≤ P ∧ P ≤ 64) (hT : 0 ≤ T ∧ T ≤ 65536) (h : Blk w x (igCells who nx cl p n z) 191) :
    Calls Tryz.prog 199 #[.pointer (some ⟨x, 0, none⟩), .int .u64 v] w fun e w' => (∃ v, e = .returned v) ∧ Came w w' x (igCells who nx cl (gw v) n z) 191 (axLd (wd 20 P 264 (gw v) 7)) (.told 208) := by
  obtain ⟨zz, hz⟩ : ∃ zz, IntKind.u64.wrap (v - 1) = zz := ⟨_, rfl⟩
  obtain ⟨y, hy⟩ : ∃ y, IntKind.i64.wrap zz = y := ⟨_, rfl⟩
  have hgw : gw v = y := by unfold gw; rw [hz, hy]
  rw [hgw]
  have hd : (v == 0) = false := by simpa using hv
  have c3 := h.cell 3 (v := .int .i64 p) rfl
  have f3 := h.fro 3
  have hlt := h.lt
  have h' : Blk (w.setCell ⟨x, 3, none⟩ (.int .i64 y)) x (igCells who nx cl y n z) 191 := h.set 3 (.int .i64 y)
  have hB : But [x] w (w.setCell ⟨x, 3, none⟩ (.int .i64 y)) := (But.refl _ w).set (g := x) (.inl (by simp)) 3 _
  have hl' : Lay (w.setCell ⟨x, 3, none⟩ (.int .i64 y)) cl P T G := (hB.block cl hl.lt (by simpa using hxc)).trans hl
  generalize hV : (w.setCell ⟨x, 3, none⟩ (.int .i64 y)) = V at h' hB hl'
  have hW := ip_behind V.drew x cl _ 191 h'.drew rfl P T G y rfl (hl'.below ((Below.refl _ _).drew) hl'.lt) hp hT
  have HS : Hid (∀ w4, Below V.drew.heap.size V.drew w4 → Calls Tryz.prog 91 #[.pointer (some ⟨x, 0, none⟩), .int .i64 (wd 20 P 264 y 7), .func (.func 208) #[.pointer (some ⟨x, 0, none⟩)] #[]] w4 fun e w' => (∃ v, e = .returned v) ∧ Came w w' x (igCells who nx cl y n z) 191 (axLd (wd 20 P 264 y 7)) (.told 208)) := by
    intro w4 k
    have hB4 : But [x] w w4 := hB.trans (((But.refl [x] V).drew).trans (But.of_below k))
    have h4 : Blk w4 x (igCells who nx cl y n z) 191 := h'.drew.but (But.of_below (l := []) k) (by simp)
    refine (came_load w4 x _ 191 h4 (by simp [igCells]) _ 208).mono ?_
    rintro e w5 ⟨hv, hC⟩
    exact ⟨hv, hC.before hB4⟩
  generalize wd 20 P 264 y 7 = at' at *
  clear h h' hB hl hl' hp hT hxc hv hgw
  go_enter Tryz.func199, Tryz.ntmps199
  go_wp2_with fail
  try rw [hV]
  clear hV c3 f3
  go_region_with (first | (go_at_call 207; refine hW.mono ?_; rintro e w4 ⟨rfl, k⟩) | (go_at_call 91; refine (HS.out _ k).mono ?_; rintro e w5 ⟨⟨v, rfl⟩, hC⟩))
  all_goals
    clear hW k HS
    go_wp2_with fail
    go_end0
    exact ⟨⟨_, rfl⟩, hC⟩
theorem iget_lookMask (w : World) (x cl : Nat) (who p n : Int) (z : Bool) (nx : Option Addr) (v : Int) (h : Blk w x (igCells who nx cl p n z) 191) :
    Calls Tryz.prog 208 #[.pointer (some ⟨x, 0, none⟩), .int .u64 v] w fun e w' => (∃ v, e = .returned v) ∧ Came w w' x (igCells who nx cl p v z) 191 (axLd 19) (.told 215) := by
  have c4 := h.cell 4 (v := .int .u64 n) rfl
  have f4 := h.fro 4
  have hlt := h.lt
  have h' : Blk (w.setCell ⟨x, 4, none⟩ (.int .u64 v)) x (igCells who nx cl p v z) 191 := h.set 4 (.int .u64 v)
  have hB : But [x] w (w.setCell ⟨x, 4, none⟩ (.int .u64 v)) := (But.refl _ w).set (g := x) (.inl (by simp)) 4 _
  have H := ip_load _ x cl _ 191 h' (by simp [igCells]) rfl 19 (by omega) 215
  clear h h'
  go_enter Tryz.func208, Tryz.ntmps208
  go_wp2_with fail
  go_at_call 198; refine H.mono ?_; rintro e w1 ⟨⟨u, rfl⟩, hC⟩
  have hC2 := hC.before hB
  clear H hC hB c4 f4
  go_wp2_with fail
  go_end0
  exact ⟨⟨_, rfl⟩, hC2⟩
theorem iget_unmask (w : World) (x cl : Nat) (who p n : Int) (z : Bool) (nx : Option Addr) (v : Int) (hv : 0 ≤ v ∧ v ≤ 18446744073709551615) (h : Blk w x (igCells who nx cl p n z) 191) :
    Calls Tryz.prog 215 #[.pointer (some ⟨x, 0, none⟩), .int .u64 v] w fun e w' => (∃ v, e = .returned v) ∧ Came w w' x (igCells who nx cl p n z) 191 (axSt 19 (mskOut v p)) (.untold 218) := by
  have c3 := h.cell 3 (v := .int .i64 p) rfl
  have hb := (an_bit v p hv).1
  have HB := ip_bit w.drew p
  have H := ip_store w.drew x cl _ 191 h.drew (by simp [igCells]) rfl 19 (by omega) (mskOut v p) 218
  generalize bitOf p = bp at *
  generalize mskOut v p = mv at *
  clear h hv
  go_enter Tryz.func215, Tryz.ntmps215
  go_wp2_with fail
  go_region_with (first | (go_at_call 211; refine HB.mono ?_; rintro e w4 ⟨rfl, rfl⟩) | (go_at_call 210; refine H.mono ?_; rintro e w5 ⟨⟨v, rfl⟩, hC⟩))
  all_goals
    have hC2 := hC.undrew
    clear HB H c3 hC hb
    go_wp2_with fail
    go_end0
    exact ⟨⟨_, rfl⟩, hC2⟩
theorem iget_unlink (w : World) (x cl : Nat) (who p n : Int) (z : Bool) (nx : Option Addr) (h : Blk w x (igCells who nx cl p n z) 191) :
    Calls Tryz.prog 218 #[.pointer (some ⟨x, 0, none⟩)] w fun e w' => (∃ v, e = .returned v) ∧ Came w w' x (igCells who nx cl p n z) 191 (axSt 9 n) (.untold 220) := by
  have c4 := h.cell 4 (v := .int .u64 n) rfl
  have H := ip_store w.drew x cl _ 191 h.drew (by simp [igCells]) rfl 9 (by omega) n 220
  clear h
  go_enter Tryz.func218, Tryz.ntmps218
  go_wp2_with fail
  go_region_with (first | (go_at_call 210; refine H.mono ?_; rintro e w5 ⟨⟨v, rfl⟩, hC⟩))
  all_goals
    have hC2 := hC.undrew
    clear H c4 hC
    go_wp2_with fail
    go_end0
    exact ⟨⟨_, rfl⟩, hC2⟩
theorem iget_have (w : World) (x cl : Nat) (who p n : Int) (z : Bool) (nx : Option Addr) (h : Blk w x (igCells who nx cl p n z) 191) :
    Calls Tryz.prog 220 #[.pointer (some ⟨x, 0, none⟩)] w fun e w' => (∃ v, e = .returned v) ∧ Came w w' x (igCells who nx cl p n true) 191 (axAd 10 4294967295) .nil := by
  have c5 := h.cell 5 (v := .bool z) rfl
  have f5 := h.fro 5
  have hlt := h.lt
  have h' : Blk (w.setCell ⟨x, 5, none⟩ (.bool true)) x (igCells who nx cl p n true) 191 := h.set 5 (.bool true)
  have hB : But [x] w (w.setCell ⟨x, 5, none⟩ (.bool true)) := (But.refl _ w).set (g := x) (.inl (by simp)) 5 _
  have H := ip_count _ x cl _ 191 h' (by simp [igCells]) rfl 4294967295
  clear h h'
  go_enter Tryz.func220, Tryz.ntmps220
  go_wp2_with fail
  go_at_call 222; refine H.mono ?_; rintro e w1 ⟨⟨u, rfl⟩, hC⟩
  have hC2 := hC.before hB
  clear H hC hB c5 f5
  go_wp2_with fail
  go_end0
  exact ⟨⟨_, rfl⟩, hC2⟩
inductive IgT where
  | ld
  | lk (y : Int)
  | ms (y l : Int)
  | um (y l w : Int)
  | un (y l : Int)
  | ct (y l : Int)
  | none'
  | over (y l : Int)
def igPM (P : Int) : PM IgT where
  ax := fun
    | .ld => some (axLd 9)
    | .lk y => some (axLd (wd 20 P 264 y 7))
    | .ms _ _ => some (axLd 19)
    | .um y _ w => some (axSt 19 (mskOut w y))
    | .un _ l => some (axSt 9 l)
    | .ct _ _ => some (axAd 10 4294967295)
    | .none' => none
    | .over _ _ => none
  nx := fun
    | .ld, v => if v = 0 then .none' else .lk (gw v)
    | .lk y, v => .ms y v
    | .ms y l, v => .um y l v
    | .um y l _, _ => .un y l
    | .un y l, _ => .ct y l
    | .ct y l, _ => .over y l
    | t, _ => t
def IgT.p : IgT → Int
  | .lk y => y
  | .ms y _ => y
  | .um y _ _ => y
  | .un y _ => y
  | .ct y _ => y
  | .over y _ => y
  | _ => 0
def IgT.l : IgT → Int
  | .ms _ l => l
  | .um _ l _ => l
  | .un _ l => l
  | .ct _ l => l
  | .over _ l => l
  | _ => 0
def IgT.z : IgT → Bool
  | .ct _ _ => true
  | .over _ _ => true
  | _ => false
/-- Which one was got. -/
def IgT.obs (t : IgT) : Int := if t.z then t.p else -1
def igFl (who : Int) (cl : Nat) : Fl IgT where
  T := 191
  cells := fun t nx => igCells who nx cl t.p t.l t.z
  fol := fun
    | .ld => .told 199
    | .lk _ => .told 208
    | .ms _ _ => .told 215
    | .um _ _ _ => .untold 218
    | .un _ _ => .untold 220
    | _ => .nil
  ok := fun t => (0 ≤ t.l ∧ t.l ≤ 18446744073709551615) ∧ match t with
    | .um _ _ w => 0 ≤ w ∧ w ≤ 18446744073709551615
    | _ => True
theorem ig_laws (who P T G : Int) (cl : Nat) (hp : 0 ≤ P ∧ P ≤ 64) (hT : 0 ≤ T ∧ T ≤ 65536) : (igFl who cl).Laws (igPM P) (Rd.lay cl P T G) who where
  c0 := fun t nx => rfl
  c1 := fun t nx => rfl
  set := fun t nx nx' => rfl
  axok := fun t a hok h => by
    cases t with
    | ld => cases h; exact axLd_ok _
    | lk y => cases h; exact axLd_ok _
    | ms y l => cases h; exact axLd_ok _
    | um y l w => cases h; exact axSt_ok _ _ (an_bit w y hok.2).2
    | un y l => cases h; exact axSt_ok _ _ hok.1
    | ct y l => cases h; exact axAd_ok _ _ (by omega)
    | none' => cases h
    | over y l => cases h
  ents := fun t a h => by
    cases t with
    | ld => exact ent_ig1
    | lk y => exact ent_ig2
    | ms y l => exact ent_ig3
    | um y l w => exact ent_ig4
    | un y l => exact ent_ig5
    | _ => exact trivial
  ok := fun t a v hok h hv => by
    cases t with
    | ld => by_cases h0 : v = 0 <;> simp [igPM, igFl, h0, IgT.l]
    | lk y => exact ⟨hv, trivial⟩
    | ms y l => exact ⟨hok.1, hv⟩
    | um y l w => exact ⟨hok.1, trivial⟩
    | un y l => exact ⟨hok.1, trivial⟩
    | ct y l => exact ⟨hok.1, trivial⟩
    | none' => cases h
    | over y l => cases h
  fol := fun W x t a v hok h hv hB hR hxR => by
    have hcx : cl ≠ x := fun e => hxR (by rw [e]; exact List.mem_singleton.2 rfl)
    cases t with
    | ld =>
      cases h
      by_cases h0 : v = 0
      · subst h0
        refine (iget_choose_none W x).mono ?_
        rintro e w' ⟨hu, rfl⟩
        exact ⟨hu, hB, But.refl _ _⟩
      · have e : (igPM P).nx .ld v = .lk (gw v) := if_neg h0
        rw [e]
        exact iget_choose W x cl who 0 0 false none P T G v h0 hR hcx hp hT hB
    | lk y => cases h; exact iget_lookMask W x cl who y 0 false none v hB
    | ms y l => cases h; exact iget_unmask W x cl who y l false none v hv hB
    | um y l w => cases h; exact iget_unlink W x cl who y l false none hB
    | un y l => cases h; exact iget_have W x cl who y l false none hB
    | ct y l => cases h; exact ⟨hB, But.refl _ _⟩
    | none' => cases h
    | over y l => cases h
theorem ig_new (w : World) (cl : Nat) (who : Int) (P : Int) :
    Calls Tryz.prog 182 #[.pointer (some ⟨cl, 0, none⟩), .int .i64 who] w fun e w' => ∃ x L, e = .returned (.pointer (some ⟨x, 0, none⟩)) ∧ (igFl who cl).I (igPM P) w' x .ld L ∧ Below w.heap.size w w' ∧ (∀ k ∈ L, w.heap.size ≤ k) ∧ w.heap.size ≤ x := by
  have hB := Blk.new w #[.int .i64 0, .pointer none, .pointer none, .int .i64 0, .int .u64 0, .bool false] 191
  have hb : Below w.heap.size w (w.alloc (.cells #[.int .i64 0, .pointer none, .pointer none, .int .i64 0, .int .u64 0, .bool false] 191)) := (Below.refl _ _).alloc (Nat.le_refl _) _
  have hO := ip_of _ w.heap.size cl who _ (igCells who none cl 0 0 false) 191 hB (by simp) rfl
  have HH : Hid (Below w.heap.size w (w.alloc (.cells #[.int .i64 0, .pointer none, .pointer none, .int .i64 0, .int .u64 0, .bool false] 191))) := hb
  have hsz := World.size_alloc w (.cells #[.int .i64 0, .pointer none, .pointer none, .int .i64 0, .int .u64 0, .bool false] 191)
  clear hB hb
  go_enter Tryz.func182, Tryz.ntmps182
  go_wp2_with fail
  go_at_call 197; refine hO.mono ?_; rintro e w1 ⟨⟨v, rfl⟩, h1, h2, h3⟩
  have hlt := h1.lt
  have hb1 : Hid (Below w.heap.size w w1) := HH.out.trans (h2.below (by simp) (by rw [hsz]; omega))
  have hL := ip_load w1 w.heap.size cl _ 191 h1 (by simp [igCells]) rfl 9 (by omega) 199
  have h3' : w1.heap.size = w.heap.size + 1 := by rw [h3, hsz]
  clear hO h2 HH h1
  go_wp2_with fail
  go_at_call 198; refine hL.mono ?_; rintro e w2 ⟨⟨v2, rfl⟩, hC⟩
  obtain ⟨q, Lc, c1, c2, c3, c4⟩ := hC
  have hF : Hid ((igFl who cl).I (igPM P) w2 w.heap.size .ld (w.heap.size :: Lc) ∧ Below w.heap.size w w2 ∧ ∀ k ∈ w.heap.size :: Lc, w.heap.size ≤ k) := by
    refine ⟨⟨⟨by decide, trivial⟩, q, Lc, c1, c2, fun hm => by have := c4 _ hm; omega, rfl⟩, hb1.out.trans (c3.below (by simp) hb1.out.size), fun k hk => ?_⟩
    simp at hk
    rcases hk with rfl | hk
    · exact Nat.le_refl _
    · have := c4 k hk; omega
  clear hL c1 c2 c3 c4
  go_wp2_with fail
  go_ret
  exact ⟨w.heap.size, w.heap.size :: Lc, rfl, hF.out.1, hF.out.2.1, hF.out.2.2, Nat.le_refl _⟩
theorem iget_p (w : World) (x cl : Nat) (who p n : Int) (z : Bool) (nx : Option Addr) (h : Blk w x (igCells who nx cl p n z) 191) :
    Calls Tryz.prog 98 #[.pointer (some ⟨x, 0, none⟩)] w fun e w' => e = .returned (.int .i64 (if z then p else -1)) ∧ w = w' := by
  have c3 := h.cell 3 (v := .int .i64 p) rfl
  have cz := h.cell 5 (v := .bool z) rfl
  clear h
  cases z with
  | false =>
    go_enter Tryz.func98, Tryz.ntmps98
    go_wp2_with fail
    go_ret
    exact ⟨rfl, rfl⟩
  | true =>
    go_enter Tryz.func98, Tryz.ntmps98
    go_wp2_with fail
    go_ret
    exact ⟨rfl, rfl⟩
theorem iget_p_nil (w : World) : Calls Tryz.prog 98 #[.pointer none] w fun e w' => e = .returned (.int .i64 (-1)) ∧ w = w' := by
  go_enter Tryz.func98, Tryz.ntmps98
  go_wp2_with fail
  go_ret
  exact ⟨rfl, rfl⟩
theorem ig_got {who P : Int} {cl : Nat} {w : World} {x : Nat} {t : IgT} {L : List Nat} (h : (igFl who cl).I (igPM P) w x t L) :
    Calls Tryz.prog 98 #[.pointer (some ⟨x, 0, none⟩)] w fun e w' => e = .returned (.int .i64 t.obs) ∧ w = w' := by
  obtain ⟨nx, h1, -⟩ := Fl.blk h
  exact iget_p w x cl who t.p t.l t.z nx h1
end Go.Proofs.YthbgoakaijeemaaGreat
