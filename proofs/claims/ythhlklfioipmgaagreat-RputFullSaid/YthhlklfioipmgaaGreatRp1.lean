/- The machine that puts into a ring: what follows each access, but for what a full ring gives. -/
import Derived.Test.YthhlklfioipmgaaGreatRg0
import Derived.Test.YthhlklfioipmgaaGreatGg0
import Derived.Test.YthhlklfioipmgaaGreatRunD
namespace Go.Proofs.YthhlklfioipmgaaGreat
open Go Go.RowKit
set_option linter.unusedVariables false
set_option maxRecDepth 100000
set_option linter.unusedSimpArgs false

def rpCells (who : Int) (nx : Option Addr) (cl : Nat) (p g : Int) (has : Bool) (nt hd tl : Int) (rest : List Value) : Array Value := (.int .i64 who :: .pointer nx :: .pointer (some ⟨cl, 0, none⟩) :: .int .i64 p :: .int .i64 g :: .bool has :: .int .u64 nt :: .int .u64 hd :: .int .u64 tl :: rest).toArray
def rpw (g : Int) : Int := IntKind.u64.wrap (IntKind.u64.wrap g + 1)
section
variable {who : Int} {nx : Option Addr} {cl : Nat} {p g : Int} {has : Bool} {nt hd tl : Int} {rest : List Value}
theorem rp_size : 2 ≤ (rpCells who nx cl p g has nt hd tl rest).size := by simp [rpCells]
theorem rp_c0 : (rpCells who nx cl p g has nt hd tl rest)[0]? = some (.int .i64 who) := by simp [rpCells]
theorem rp_c1 : (rpCells who nx cl p g has nt hd tl rest)[1]? = some (.pointer nx) := by simp [rpCells]
theorem rp_c2 : (rpCells who nx cl p g has nt hd tl rest)[2]? = some (.pointer (some ⟨cl, 0, none⟩)) := by simp [rpCells]
theorem rp_c3 : (rpCells who nx cl p g has nt hd tl rest)[3]? = some (.int .i64 p) := by simp [rpCells]
theorem rp_c4 : (rpCells who nx cl p g has nt hd tl rest)[4]? = some (.int .i64 g) := by simp [rpCells]
theorem rp_c5 : (rpCells who nx cl p g has nt hd tl rest)[5]? = some (.bool has) := by simp [rpCells]
theorem rp_c6 : (rpCells who nx cl p g has nt hd tl rest)[6]? = some (.int .u64 nt) := by simp [rpCells]
theorem rp_c7 : (rpCells who nx cl p g has nt hd tl rest)[7]? = some (.int .u64 hd) := by simp [rpCells]
theorem rp_c8 : (rpCells who nx cl p g has nt hd tl rest)[8]? = some (.int .u64 tl) := by simp [rpCells]
theorem rp_s1 (nx' : Option Addr) : (rpCells who nx cl p g has nt hd tl rest).setIfInBounds 1 (.pointer nx') = (rpCells who nx' cl p g has nt hd tl rest) := by simp [rpCells]
theorem rp_s4 (g' : Int) : (rpCells who nx cl p g has nt hd tl rest).setIfInBounds 4 (.int .i64 g') = (rpCells who nx cl p g' has nt hd tl rest) := by simp [rpCells]
theorem rp_s5 (h' : Bool) : (rpCells who nx cl p g has nt hd tl rest).setIfInBounds 5 (.bool h') = (rpCells who nx cl p g h' nt hd tl rest) := by simp [rpCells]
theorem rp_s6 (v' : Int) : (rpCells who nx cl p g has nt hd tl rest).setIfInBounds 6 (.int .u64 v') = (rpCells who nx cl p g has v' hd tl rest) := by simp [rpCells]
theorem rp_s7 (v' : Int) : (rpCells who nx cl p g has nt hd tl rest).setIfInBounds 7 (.int .u64 v') = (rpCells who nx cl p g has nt v' tl rest) := by simp [rpCells]
theorem rp_s8 (v' : Int) : (rpCells who nx cl p g has nt hd tl rest).setIfInBounds 8 (.int .u64 v') = (rpCells who nx cl p g has nt hd v' rest) := by simp [rpCells]
end
section
variable (w : World) (x cl : Nat) (who p g P T G nt hd tl : Int) (has : Bool) (rest : List Value) (nx : Option Addr) (hB : Blk w x (rpCells who nx cl p g has nt hd tl rest) 149) (hl : Lay w cl P T G) (hp : 0 ≤ P ∧ P ≤ 64)
include hB hl hp
theorem rp_proc (f : Int) (hf : 0 ≤ f ∧ f < 8) : Calls Tryz.prog 140 #[.pointer (some ⟨x, 0, none⟩), .int .i64 f] w fun e w' => e = .returned (.int .i64 (wd 20 P 264 p f)) ∧ Below w.heap.size w w' := by
  have c2 := hB.cell 2 rp_c2
  have c3 := hB.cell 3 rp_c3
  have hPr := lprc_any (some ⟨cl, 0, none⟩) P T G p f w.drew (.some cl (hl.below ((Below.refl _ _).drew) hl.lt)) hp hf
  have hD : Hid (Below w.heap.size w w.drew) := (Below.refl _ _).drew
  generalize wd 20 P 264 p f = at' at *
  clear hB hl hp hf
  go_enter Tryz.func140, Tryz.ntmps140
  go_wp2_with fail
  go_region_with (first | (go_at_call 137; refine hPr.mono ?_; rintro e w4 ⟨rfl, k⟩))
  all_goals
    have hF : Hid (Below w.heap.size w w4) := hD.out.trans (k.mono hD.out.size)
    clear hPr k c2 c3
    go_wp2_with fail
    go_ret
    exact ⟨rfl, hF.out⟩
omit hl hp in
theorem rp_word : Calls Tryz.prog 166 #[.pointer (some ⟨x, 0, none⟩)] w fun e w' => e = .returned (.int .u64 (rpw g)) ∧ w = w' := by
  have c4 := hB.cell 4 rp_c4
  clear hB
  go_enter Tryz.func166, Tryz.ntmps166
  go_wp2_with fail
  go_ret
  exact ⟨rfl, rfl⟩
theorem rp_lookNext : Calls Tryz.prog 97 #[.pointer (some ⟨x, 0, none⟩)] w fun e w' => (∃ v, e = .returned v) ∧ Came w w' x (rpCells who nx cl p g has nt hd tl rest) 149 (axLd (wd 20 P 264 p 3)) (.told 141) := by
  have hPr := rp_proc w.drew x cl who p g P T G nt hd tl has rest nx hB.drew (hl.below ((Below.refl _ _).drew) hl.lt) hp 3 (by omega)
  have HS : Hid (∀ w4, Below w.drew.heap.size w.drew w4 → Calls Tryz.prog 114 #[.pointer (some ⟨x, 0, none⟩), .int .i64 (wd 20 P 264 p 3), .func (.func 141) #[.pointer (some ⟨x, 0, none⟩)] #[]] w4 fun e w' => (∃ v, e = .returned v) ∧ Came w w' x (rpCells who nx cl p g has nt hd tl rest) 149 (axLd (wd 20 P 264 p 3)) (.told 141)) := by
    intro w4 k
    have h4 : Blk w4 x (rpCells who nx cl p g has nt hd tl rest) 149 := hB.drew.but (But.of_below (l := []) k) (by simp)
    refine (came_load w4 x _ 149 h4 rp_size _ _).mono ?_
    rintro e w5 ⟨hv, hC⟩
    exact ⟨hv, hC.before ((But.refl [x] w).drew.trans (But.of_below k))⟩
  generalize wd 20 P 264 p 3 = at' at *
  clear hB hl hp
  go_enter Tryz.func97, Tryz.ntmps97
  go_wp2_with fail
  go_region_with (first | (go_at_call 140; refine hPr.mono ?_; rintro e w4 ⟨rfl, k⟩) | (go_at_call 114; refine (HS.out _ k).mono ?_; rintro e w5 ⟨⟨v, rfl⟩, hC⟩))
  all_goals
    clear hPr k HS
    go_wp2_with fail
    go_end0
    exact ⟨⟨_, rfl⟩, hC⟩
theorem rp_lookHead : Calls Tryz.prog 98 #[.pointer (some ⟨x, 0, none⟩)] w fun e w' => (∃ v, e = .returned v) ∧ Came w w' x (rpCells who nx cl p g has nt hd tl rest) 149 (axLd (wd 20 P 264 p 1)) (.told 142) := by
  have hPr := rp_proc w.drew x cl who p g P T G nt hd tl has rest nx hB.drew (hl.below ((Below.refl _ _).drew) hl.lt) hp 1 (by omega)
  have HS : Hid (∀ w4, Below w.drew.heap.size w.drew w4 → Calls Tryz.prog 114 #[.pointer (some ⟨x, 0, none⟩), .int .i64 (wd 20 P 264 p 1), .func (.func 142) #[.pointer (some ⟨x, 0, none⟩)] #[]] w4 fun e w' => (∃ v, e = .returned v) ∧ Came w w' x (rpCells who nx cl p g has nt hd tl rest) 149 (axLd (wd 20 P 264 p 1)) (.told 142)) := by
    intro w4 k
    have h4 : Blk w4 x (rpCells who nx cl p g has nt hd tl rest) 149 := hB.drew.but (But.of_below (l := []) k) (by simp)
    refine (came_load w4 x _ 149 h4 rp_size _ _).mono ?_
    rintro e w5 ⟨hv, hC⟩
    exact ⟨hv, hC.before ((But.refl [x] w).drew.trans (But.of_below k))⟩
  generalize wd 20 P 264 p 1 = at' at *
  clear hB hl hp
  go_enter Tryz.func98, Tryz.ntmps98
  go_wp2_with fail
  go_region_with (first | (go_at_call 140; refine hPr.mono ?_; rintro e w4 ⟨rfl, k⟩) | (go_at_call 114; refine (HS.out _ k).mono ?_; rintro e w5 ⟨⟨v, rfl⟩, hC⟩))
  all_goals
    clear hPr k HS
    go_wp2_with fail
    go_end0
    exact ⟨⟨_, rfl⟩, hC⟩
theorem rp_lookTail (v : Int) (hxc : cl ≠ x) : Calls Tryz.prog 142 #[.pointer (some ⟨x, 0, none⟩), .int .u64 v] w fun e w' => (∃ v, e = .returned v) ∧ Came w w' x (rpCells who nx cl p g has nt v tl rest) 149 (axLd (wd 20 P 264 p 2)) (.told 168) := by
  have c7 := hB.cell 7 rp_c7
  have hlt := hB.lt
  have f7 := hB.fro 7
  have hB' : Blk (w.setCell ⟨x, 7, none⟩ (.int .u64 v)) x (rpCells who nx cl p g has nt v tl rest) 149 := by
    have := hB.set 7 (.int .u64 v)
    rw [rp_s7] at this
    exact this
  have hU : But [x] w (w.setCell ⟨x, 7, none⟩ (.int .u64 v)) := (But.refl _ w).set (g := x) (.inl (by simp)) 7 _
  have hl' : Lay (w.setCell ⟨x, 7, none⟩ (.int .u64 v)) cl P T G := (hU.block cl hl.lt (by simpa using hxc)).trans hl
  generalize hV : w.setCell ⟨x, 7, none⟩ (.int .u64 v) = V at hB' hU hl'
  have hPr := rp_proc V.drew x cl who p g P T G nt v tl has rest nx hB'.drew (hl'.below ((Below.refl _ _).drew) hl'.lt) hp 2 (by omega)
  have HS : Hid (∀ w4, Below V.drew.heap.size V.drew w4 → Calls Tryz.prog 114 #[.pointer (some ⟨x, 0, none⟩), .int .i64 (wd 20 P 264 p 2), .func (.func 168) #[.pointer (some ⟨x, 0, none⟩)] #[]] w4 fun e w' => (∃ v, e = .returned v) ∧ Came w w' x (rpCells who nx cl p g has nt v tl rest) 149 (axLd (wd 20 P 264 p 2)) (.told 168)) := by
    intro w4 k
    have h4 : Blk w4 x (rpCells who nx cl p g has nt v tl rest) 149 := hB'.drew.but (But.of_below (l := []) k) (by simp)
    refine (came_load w4 x _ 149 h4 rp_size _ _).mono ?_
    rintro e w5 ⟨hv, hC⟩
    exact ⟨hv, hC.before (hU.drew.trans (But.of_below k))⟩
  generalize wd 20 P 264 p 2 = at' at *
  clear hB hB' hU hl' hl hp hxc
  go_enter Tryz.func142, Tryz.ntmps142
  go_wp2_with fail
  try rw [hV]
  clear hV c7 f7
  go_region_with (first | (go_at_call 140; refine hPr.mono ?_; rintro e w4 ⟨rfl, k⟩) | (go_at_call 114; refine (HS.out _ k).mono ?_; rintro e w5 ⟨⟨v, rfl⟩, hC⟩))
  all_goals
    clear hPr k HS
    go_wp2_with fail
    go_end0
    exact ⟨⟨_, rfl⟩, hC⟩
set_option maxHeartbeats 2000000 in
theorem rp_replace (v : Int) (hxc : cl ≠ x) : Calls Tryz.prog 141 #[.pointer (some ⟨x, 0, none⟩), .int .u64 v] w fun e w' => (∃ v, e = .returned v) ∧ Came w w' x (rpCells who nx cl p g has v hd tl rest) 149 (axSw (wd 20 P 264 p 3) v (rpw g)) (.swap 167) := by
  have c6 := hB.cell 6 rp_c6
  have hlt := hB.lt
  have f6 := hB.fro 6
  have hB' : Blk (w.setCell ⟨x, 6, none⟩ (.int .u64 v)) x (rpCells who nx cl p g has v hd tl rest) 149 := by
    have := hB.set 6 (.int .u64 v)
    rw [rp_s6] at this
    exact this
  have hU : But [x] w (w.setCell ⟨x, 6, none⟩ (.int .u64 v)) := (But.refl _ w).set (g := x) (.inl (by simp)) 6 _
  have hl' : Lay (w.setCell ⟨x, 6, none⟩ (.int .u64 v)) cl P T G := (hU.block cl hl.lt (by simpa using hxc)).trans hl
  generalize hV : w.setCell ⟨x, 6, none⟩ (.int .u64 v) = V at hB' hU hl'
  have HPr : Hid (∀ Y, Below V.drew.heap.size V.drew Y → Calls Tryz.prog 140 #[.pointer (some ⟨x, 0, none⟩), .int .i64 3] Y fun e w' => e = .returned (.int .i64 (wd 20 P 264 p 3)) ∧ Below V.drew.heap.size V.drew w') := fun Y k => (rp_proc Y x cl who p g P T G v hd tl has rest nx (hB'.drew.but (But.of_below (l := []) k) (by simp)) (Lay.below (w := V.drew) hl' k hl'.lt) hp 3 (by omega)).mono fun e w' hh => ⟨hh.1, k.trans (hh.2.mono k.size)⟩
  have HW : Hid (∀ Y, Below V.drew.heap.size V.drew Y → Calls Tryz.prog 166 #[.pointer (some ⟨x, 0, none⟩)] Y fun e w' => e = .returned (.int .u64 (rpw g)) ∧ Y = w') := fun Y k => rp_word Y x cl who p g v hd tl has rest nx (hB'.drew.but (But.of_below (l := []) k) (by simp))
  have HS : Hid (∀ w4, Below V.drew.heap.size V.drew w4 → Calls Tryz.prog 150 #[.pointer (some ⟨x, 0, none⟩), .int .i64 (wd 20 P 264 p 3), .int .u64 v, .int .u64 (rpw g), .func (.func 167) #[.pointer (some ⟨x, 0, none⟩)] #[]] w4 fun e w' => (∃ v, e = .returned v) ∧ Came w w' x (rpCells who nx cl p g has v hd tl rest) 149 (axSw (wd 20 P 264 p 3) v (rpw g)) (.swap 167)) := by
    intro w4 k
    have h4 : Blk w4 x (rpCells who nx cl p g has v hd tl rest) 149 := hB'.drew.but (But.of_below (l := []) k) (by simp)
    refine (came_swap w4 x _ 149 h4 rp_size _ _ _ _).mono ?_
    rintro e w5 ⟨hv, hC⟩
    exact ⟨hv, hC.before (hU.drew.trans (But.of_below k))⟩
  have hD : Hid (Below V.drew.heap.size V.drew V.drew) := Below.refl _ _
  generalize wd 20 P 264 p 3 = at' at *
  generalize rpw g = gv at *
  clear hB hB' hU hl' hl hp hxc
  go_enter Tryz.func141, Tryz.ntmps141
  go_wp2_with fail
  try rw [hV]
  clear hV c6 f6
  go_region_with (first | (go_at_call 140; refine (HPr.out _ hD.out).mono ?_; rintro e w4 ⟨rfl, k⟩) | (go_at_call 166; refine (HW.out _ (by first | exact k | exact hD.out)).mono ?_; rintro e w6 ⟨rfl, rfl⟩) | (go_at_call 150; refine (HS.out _ k).mono ?_; rintro e w5 ⟨⟨v, rfl⟩, hC⟩))
  all_goals
    clear HPr HW k HS hD
    go_wp2_with fail
    go_end0
    exact ⟨⟨_, rfl⟩, hC⟩
theorem rp_replaced_no : Calls Tryz.prog 167 #[.pointer (some ⟨x, 0, none⟩), .bool false] w fun e w' => (∃ v, e = .returned v) ∧ Came w w' x (rpCells who nx cl p g has nt hd tl rest) 149 (axLd (wd 20 P 264 p 3)) (.told 141) := by
  have H := rp_lookNext w x cl who p g P T G nt hd tl has rest nx hB hl hp
  clear hB hl hp
  go_enter Tryz.func167, Tryz.ntmps167
  go_wp2_with fail
  go_at_call 97; refine H.mono ?_; rintro e w1 ⟨⟨v, rfl⟩, hC⟩
  clear H
  go_wp2_with fail
  go_end0
  exact ⟨⟨_, rfl⟩, hC⟩
omit hl hp in
theorem rp_replaced_none (h0 : nt = 0) : Calls Tryz.prog 167 #[.pointer (some ⟨x, 0, none⟩), .bool true] w fun e w' => (∃ v, e = .returned v) ∧ Blk w' x (rpCells who nx cl p g false nt hd tl rest) 149 ∧ But [x] w w' := by
  have c6 := hB.cell 6 rp_c6
  rw [h0] at c6
  have c5 := hB.cell 5 rp_c5
  have f5 := hB.fro 5
  have hlt := hB.lt
  have HF : Hid (Blk (w.setCell ⟨x, 5, none⟩ (.bool false)) x (rpCells who nx cl p g false nt hd tl rest) 149 ∧ But [x] w (w.setCell ⟨x, 5, none⟩ (.bool false))) := ⟨by
    have := hB.set 5 (.bool false)
    rw [rp_s5] at this
    exact this, (But.refl [x] w).set (g := x) (.inl (by simp)) 5 (.bool false)⟩
  clear hB
  go_enter Tryz.func167, Tryz.ntmps167
  go_wp2_with fail
  go_end0
  exact ⟨⟨_, rfl⟩, HF.out⟩
theorem rp_replaced_some (h0 : nt ≠ 0) (hxc : cl ≠ x) : Calls Tryz.prog 167 #[.pointer (some ⟨x, 0, none⟩), .bool true] w fun e w' => (∃ v, e = .returned v) ∧ Came w w' x (rpCells who nx cl p (gw nt) has nt hd tl rest) 149 (axLd (wd 20 P 264 p 1)) (.told 142) := by
  have hd0 : (nt == 0) = false := by simpa using h0
  have c6 := hB.cell 6 rp_c6
  have c4 := hB.cell 4 rp_c4
  obtain ⟨y, hy⟩ : ∃ y, IntKind.u64.wrap (nt - 1) = y := ⟨_, rfl⟩
  obtain ⟨gx, hgx⟩ : ∃ gx, IntKind.i64.wrap y = gx := ⟨_, rfl⟩
  have hgw : gw nt = gx := by unfold gw; rw [hy, hgx]
  rw [hgw]
  have hlt := hB.lt
  have f4 := hB.fro 4
  have hB' : Blk (w.setCell ⟨x, 4, none⟩ (.int .i64 gx)) x (rpCells who nx cl p gx has nt hd tl rest) 149 := by
    have := hB.set 4 (.int .i64 gx)
    rw [rp_s4] at this
    exact this
  have hU : But [x] w (w.setCell ⟨x, 4, none⟩ (.int .i64 gx)) := (But.refl _ w).set (g := x) (.inl (by simp)) 4 _
  have hl' : Lay (w.setCell ⟨x, 4, none⟩ (.int .i64 gx)) cl P T G := (hU.block cl hl.lt (by simpa using hxc)).trans hl
  generalize hV : w.setCell ⟨x, 4, none⟩ (.int .i64 gx) = V at hB' hU hl'
  have H := rp_lookHead V x cl who p gx P T G nt hd tl has rest nx hB' hl' hp
  have HU : Hid (But [x] w V) := hU
  clear hB hB' hl' hl hp hxc hU hgw
  go_enter Tryz.func167, Tryz.ntmps167
  go_wp2_with fail
  try rw [hV]
  clear hV c4 c6 f4
  go_at_call 98; refine H.mono ?_; rintro e w1 ⟨⟨v, rfl⟩, hC⟩
  have hCb := hC.before HU.out
  clear H hC
  go_wp2_with fail
  go_end0
  exact ⟨⟨_, rfl⟩, hCb⟩
omit hl hp in
theorem rp_leave : Calls Tryz.prog 199 #[.pointer (some ⟨x, 0, none⟩)] w fun e w' => (∃ v, e = .returned v) ∧ Blk w' x (rpCells who nx cl p g false nt hd tl rest) 149 ∧ But [x] w w' := by
  have c5 := hB.cell 5 rp_c5
  have f5 := hB.fro 5
  have hlt := hB.lt
  have HF : Hid (Blk (w.setCell ⟨x, 5, none⟩ (.bool false)) x (rpCells who nx cl p g false nt hd tl rest) 149 ∧ But [x] w (w.setCell ⟨x, 5, none⟩ (.bool false))) := ⟨by
    have := hB.set 5 (.bool false)
    rw [rp_s5] at this
    exact this, (But.refl [x] w).set (g := x) (.inl (by simp)) 5 (.bool false)⟩
  clear hB
  go_enter Tryz.func199, Tryz.ntmps199
  go_wp2_with fail
  go_end0
  exact ⟨⟨_, rfl⟩, HF.out⟩
end
end Go.Proofs.YthhlklfioipmgaaGreat
