/- The machine that takes for a processor: contracts. -/
import Derived.Test.YthhlklfioipmgaaGreatTkA
import Derived.Test.YthhlklfioipmgaaGreatRun_qpull
import Derived.Deep.RegionHeld3
namespace Go.Proofs.YthhlklfioipmgaaGreat
open Go Go.RowKit
set_option linter.unusedVariables false
set_option maxRecDepth 100000
set_option linter.unusedSimpArgs false

section
variable (w : World) (x cl : Nat) (who p most left tl P T G : Int) (nx f o : Option Addr) (h : Blk w x (tkCells who nx cl p most left f o tl) 142) (hl : Lay w cl P T G) (hp : 0 ≤ P ∧ P ≤ 64)
include h hl hp
theorem take_lengthen (htl : 0 ≤ tl ∧ tl ≤ 18446744073709551615) : Calls Tryz.prog 223 #[.pointer (some ⟨x, 0, none⟩)] w fun e w' => (∃ v, e = .returned v) ∧ Came w w' x (tkCells who nx cl p most left f o tl) 142 (axSt (wd 20 P 264 p 2) (IntKind.u64.wrap (tl + 1) % 4294967296)) (.untold 178) := by
  have c2 := h.cell 2 (v := .pointer (some ⟨cl, 0, none⟩)) rfl
  have c3 := h.cell 3 (v := .int .i64 p) rfl
  have c8 := h.cell 8 (v := .int .u64 tl) rfl
  have hlt := h.lt
  have hPr := layproc2_any (some ⟨cl, 0, none⟩) P T G p 2 w.drew (.some cl hl) hp (by omega)
  obtain ⟨z, hz⟩ : ∃ z, IntKind.u64.wrap (tl + 1) = z := ⟨_, rfl⟩
  have hzb : 0 ≤ z := by rw [← hz]; simp [IntKind.wrap, IntKind.bits, IntKind.signed]; omega
  have ht : z.tmod 4294967296 = z % 4294967296 := Int.tmod_eq_emod_of_nonneg hzb
  rw [hz]
  generalize z % 4294967296 = u at *
  have HS : Hid (∀ w4, Below w.drew.heap.size w.drew w4 → w4.cell? ⟨x, 8, none⟩ = some (.int .u64 tl) ∧ Calls Tryz.prog 127 #[.pointer (some ⟨x, 0, none⟩), .int .i64 (wd 20 P 264 p 2), .int .u64 u, .func (.func 178) #[.pointer (some ⟨x, 0, none⟩)] #[]] w4 fun e w' => (∃ v, e = .returned v) ∧ Came w w' x (tkCells who nx cl p most left f o tl) 142 (axSt (wd 20 P 264 p 2) u) (.untold 178)) := by
    intro w4 k
    have h4 : Blk w4 x (tkCells who nx cl p most left f o tl) 142 := h.drew.but (But.of_below (l := []) k) (by simp)
    refine ⟨h4.cell 8 rfl, (came_store w4 x _ 142 h4 (by simp [tkCells]) _ _ _).mono ?_⟩
    rintro e w5 ⟨hv, hC⟩
    exact ⟨hv, hC.before ((But.refl [x] w).drew.trans (But.of_below k))⟩
  generalize wd 20 P 264 p 2 = at' at *
  have hH : Hid (w.drew.cell? ⟨x, 2, none⟩ = some (.pointer (some ⟨cl, 0, none⟩)) ∧ w.drew.cell? ⟨x, 3, none⟩ = some (.int .i64 p) ∧ w.drew.cell? ⟨x, 8, none⟩ = some (.int .u64 tl)) := ⟨c2, c3, c8⟩
  have KB : Hid (∀ w4, Below w.drew.heap.size w.drew w4 → w4.cell? ⟨x, 2, none⟩ = some (.pointer (some ⟨cl, 0, none⟩)) ∧ w4.cell? ⟨x, 3, none⟩ = some (.int .i64 p) ∧ w4.cell? ⟨x, 8, none⟩ = some (.int .u64 tl)) := fun w4 k => by
    have h4 : Blk w4 x (tkCells who nx cl p most left f o tl) 142 := h.drew.but (But.of_below (l := []) k) (by simp)
    exact ⟨h4.cell 2 rfl, h4.cell 3 rfl, h4.cell 8 rfl⟩
  have KC : Hid (∀ w5, Came w w5 x (tkCells who nx cl p most left f o tl) 142 (axSt at' u) (.untold 178) → w5.cell? ⟨x, 2, none⟩ = some (.pointer (some ⟨cl, 0, none⟩)) ∧ w5.cell? ⟨x, 3, none⟩ = some (.int .i64 p) ∧ w5.cell? ⟨x, 8, none⟩ = some (.int .u64 tl)) := fun w5 hC => by
    obtain ⟨q, Lc, h1, -⟩ := hC
    exact ⟨h1.cell 2 rfl, h1.cell 3 rfl, h1.cell 8 rfl⟩
  clear h hl hp htl
  go_enter Tryz.func223, Tryz.ntmps223
  go_wp2_with fail
  go_region_held3 (fun w' => w'.cell? ⟨x, 2, none⟩ = some (.pointer (some ⟨cl, 0, none⟩)) ∧ w'.cell? ⟨x, 3, none⟩ = some (.int .i64 p) ∧ w'.cell? ⟨x, 8, none⟩ = some (.int .u64 tl)) (first | exact hH.out | exact KB.out _ ‹_› | exact KC.out _ ‹_›) (first | (go_at_call 137; refine hPr.mono ?_; rintro e w4 ⟨rfl, k⟩) | (go_at_call 127; refine (HS.out _ ‹_›).2.mono ?_; rintro e w5 ⟨⟨v, rfl⟩, hC⟩))
  all_goals
    clear hPr k HS c2 c3 c8 hH KB KC
    go_wp2_with fail
    go_end0
    exact ⟨⟨_, rfl⟩, hC⟩
omit hl hp in
theorem take_look_none (hg : ∀ Y, Below w.heap.size w Y → Calls Tryz.prog 28 #[.pointer o] Y fun e w' => e = .returned (.int .i64 (-1)) ∧ Y = w') : Calls Tryz.prog 195 #[.pointer (some ⟨x, 0, none⟩)] w fun e w' => (∃ v, e = .returned v) ∧ w = w' := by
  have c7 := h.cell 7 (v := .pointer o) rfl
  have H := hg w (Below.refl _ _)
  clear h hg
  go_enter Tryz.func195, Tryz.ntmps195
  go_wp2_with fail
  go_at_call 28; refine H.mono ?_; rintro e w1 ⟨rfl, rfl⟩
  clear H c7
  go_wp2_with fail
  refine bodyPost_ret (results_none rfl _ _ _) rfl ?_
  exact ⟨⟨_, rfl⟩, rfl⟩
theorem take_look_some (g : Int) (hg1 : g ≠ -1) (hg : ∀ Y, Below w.heap.size w Y → Calls Tryz.prog 28 #[.pointer o] Y fun e w' => e = .returned (.int .i64 g) ∧ Y = w') : Calls Tryz.prog 195 #[.pointer (some ⟨x, 0, none⟩)] w fun e w' => (∃ v, e = .returned v) ∧ Came w w' x (tkCells who nx cl p most left f o tl) 142 (axLd (wd 20 P 264 p 2)) (.told 212) := by
  have c7 := h.cell 7 (v := .pointer o) rfl
  have c2 := h.cell 2 (v := .pointer (some ⟨cl, 0, none⟩)) rfl
  have c3 := h.cell 3 (v := .int .i64 p) rfl
  have H := hg w (Below.refl _ _)
  have hPr := layproc2_any (some ⟨cl, 0, none⟩) P T G p 2 w.drew (.some cl hl) hp (by omega)
  have HS : Hid (∀ w4, Below w.drew.heap.size w.drew w4 → Calls Tryz.prog 114 #[.pointer (some ⟨x, 0, none⟩), .int .i64 (wd 20 P 264 p 2), .func (.func 212) #[.pointer (some ⟨x, 0, none⟩)] #[]] w4 fun e w' => (∃ v, e = .returned v) ∧ Came w w' x (tkCells who nx cl p most left f o tl) 142 (axLd (wd 20 P 264 p 2)) (.told 212)) := by
    intro w4 k
    have h4 : Blk w4 x (tkCells who nx cl p most left f o tl) 142 := h.drew.but (But.of_below (l := []) k) (by simp)
    refine (came_load w4 x _ 142 h4 (by simp [tkCells]) _ _).mono ?_
    rintro e w5 ⟨hv, hC⟩
    exact ⟨hv, hC.before ((But.refl [x] w).drew.trans (But.of_below k))⟩
  have hd : (g == -1) = false := by simpa using hg1
  generalize wd 20 P 264 p 2 = at' at *
  have hH : Hid (w.drew.cell? ⟨x, 2, none⟩ = some (.pointer (some ⟨cl, 0, none⟩)) ∧ w.drew.cell? ⟨x, 3, none⟩ = some (.int .i64 p)) := ⟨c2, c3⟩
  have KB : Hid (∀ w4, Below w.drew.heap.size w.drew w4 → w4.cell? ⟨x, 2, none⟩ = some (.pointer (some ⟨cl, 0, none⟩)) ∧ w4.cell? ⟨x, 3, none⟩ = some (.int .i64 p)) := fun w4 k => by
    have h4 : Blk w4 x (tkCells who nx cl p most left f o tl) 142 := h.drew.but (But.of_below (l := []) k) (by simp)
    exact ⟨h4.cell 2 rfl, h4.cell 3 rfl⟩
  have KC : Hid (∀ w5, Came w w5 x (tkCells who nx cl p most left f o tl) 142 (axLd at') (.told 212) → w5.cell? ⟨x, 2, none⟩ = some (.pointer (some ⟨cl, 0, none⟩)) ∧ w5.cell? ⟨x, 3, none⟩ = some (.int .i64 p)) := fun w5 hC => by
    obtain ⟨q, Lc, h1, -⟩ := hC
    exact ⟨h1.cell 2 rfl, h1.cell 3 rfl⟩
  clear h hl hp hg hg1
  go_enter Tryz.func195, Tryz.ntmps195
  go_wp2_with fail
  go_at_call 28; refine H.mono ?_; rintro e w1 ⟨rfl, rfl⟩
  clear H c7
  go_wp2_with fail
  go_region_held3 (fun w' => w'.cell? ⟨x, 2, none⟩ = some (.pointer (some ⟨cl, 0, none⟩)) ∧ w'.cell? ⟨x, 3, none⟩ = some (.int .i64 p)) (first | exact hH.out | exact KB.out _ ‹_› | exact KC.out _ ‹_›) (first | (go_at_call 137; refine hPr.mono ?_; rintro e w4 ⟨rfl, k⟩) | (go_at_call 114; refine (HS.out _ ‹_›).mono ?_; rintro e w5 ⟨⟨v, rfl⟩, hC⟩))
  all_goals
    clear hPr k HS c2 c3 hH KB KC
    go_wp2_with fail
    go_end0
    exact ⟨⟨_, rfl⟩, hC⟩
theorem take_lay (v0 g : Int) (hv : 0 ≤ v0 ∧ v0 ≤ 18446744073709551615) (hgb : 0 ≤ g ∧ g ≤ 1000000) (hxc : cl ≠ x) (hg : ∀ Y, But [x] w Y → Calls Tryz.prog 28 #[.pointer o] Y fun e w' => e = .returned (.int .i64 g) ∧ Y = w') : Calls Tryz.prog 212 #[.pointer (some ⟨x, 0, none⟩), .int .u64 v0] w fun e w' => (∃ v, e = .returned v) ∧ Came w w' x (tkCells who nx cl p most left f o v0) 142 (axSt (wd 20 P 264 p (8 + v0 % 256)) (g + 1)) (.untold 223) := by
  have c8 := h.cell 8 (v := .int .u64 tl) rfl
  have f8 := h.fro 8
  have hlt := h.lt
  have h' : Blk _ x (tkCells who nx cl p most left f o v0) 142 := h.set 8 (.int .u64 v0)
  have hB : But [x] w (w.setCell ⟨x, 8, none⟩ (.int .u64 v0)) := (But.refl _ w).set (g := x) (.inl (by simp)) 8 _
  have hl' : Lay (w.setCell ⟨x, 8, none⟩ (.int .u64 v0)) cl P T G := (hB.block cl hl.lt (by simpa using hxc)).trans hl
  generalize hV : w.setCell ⟨x, 8, none⟩ (.int .u64 v0) = V at h' hB hl'
  have c2 := h'.cell 2 (v := .pointer (some ⟨cl, 0, none⟩)) rfl
  have c3 := h'.cell 3 (v := .int .i64 p) rfl
  have c7 := h'.cell 7 (v := .pointer o) rfl
  have HR : Hid (∀ Y, Below V.drew.heap.size V.drew Y → Calls Tryz.prog 95 #[.pointer (some ⟨cl, 0, none⟩), .int .i64 p, .int .u64 v0] Y fun e w' => e = .returned (.int .i64 (wd 20 P 264 p (8 + v0 % 256))) ∧ Below V.drew.heap.size V.drew w') := fun Y k => (layring_any (some ⟨cl, 0, none⟩) P T G p v0 Y (.some cl (Lay.below (w := V.drew) hl' k hl'.lt)) hp hv).mono fun e w' hh => ⟨hh.1, k.trans (hh.2.mono k.size)⟩
  have HG : Hid (∀ Y, Below V.drew.heap.size V.drew Y → Calls Tryz.prog 28 #[.pointer o] Y fun e w' => e = .returned (.int .i64 g) ∧ Y = w') := fun Y k => hg Y (hB.drew.trans (But.of_below k))
  have HQ : Hid (∀ Y, Calls Tryz.prog 126 #[.int .i64 g] Y fun e w' => e = .returned (.int .u64 (g + 1)) ∧ Y = w') := fun Y => q_word Y g hgb
  have HS : Hid (∀ w4, Below V.drew.heap.size V.drew w4 → Calls Tryz.prog 127 #[.pointer (some ⟨x, 0, none⟩), .int .i64 (wd 20 P 264 p (8 + v0 % 256)), .int .u64 (g + 1), .func (.func 223) #[.pointer (some ⟨x, 0, none⟩)] #[]] w4 fun e w' => (∃ v, e = .returned v) ∧ Came w w' x (tkCells who nx cl p most left f o v0) 142 (axSt (wd 20 P 264 p (8 + v0 % 256)) (g + 1)) (.untold 223)) := by
    intro w4 k
    have h4 : Blk w4 x (tkCells who nx cl p most left f o v0) 142 := h'.drew.but (But.of_below (l := []) k) (by simp)
    refine (came_store w4 x _ 142 h4 (by simp [tkCells]) _ _ _).mono ?_
    rintro e w5 ⟨hv, hC⟩
    exact ⟨hv, hC.before (hB.drew.trans (But.of_below k))⟩
  generalize wd 20 P 264 p (8 + v0 % 256) = at' at *
  have hD : Hid (Below V.drew.heap.size V.drew V.drew) := Below.refl _ _
  have hH : Hid (V.drew.cell? ⟨x, 2, none⟩ = some (.pointer (some ⟨cl, 0, none⟩)) ∧ V.drew.cell? ⟨x, 3, none⟩ = some (.int .i64 p) ∧ V.drew.cell? ⟨x, 7, none⟩ = some (.pointer o)) := ⟨c2, c3, c7⟩
  have KB : Hid (∀ w4, Below V.drew.heap.size V.drew w4 → w4.cell? ⟨x, 2, none⟩ = some (.pointer (some ⟨cl, 0, none⟩)) ∧ w4.cell? ⟨x, 3, none⟩ = some (.int .i64 p) ∧ w4.cell? ⟨x, 7, none⟩ = some (.pointer o)) := fun w4 k => by
    have h4 : Blk w4 x (tkCells who nx cl p most left f o v0) 142 := h'.drew.but (But.of_below (l := []) k) (by simp)
    exact ⟨h4.cell 2 rfl, h4.cell 3 rfl, h4.cell 7 rfl⟩
  have KC : Hid (∀ w5, Came w w5 x (tkCells who nx cl p most left f o v0) 142 (axSt at' (g + 1)) (.untold 223) → w5.cell? ⟨x, 2, none⟩ = some (.pointer (some ⟨cl, 0, none⟩)) ∧ w5.cell? ⟨x, 3, none⟩ = some (.int .i64 p) ∧ w5.cell? ⟨x, 7, none⟩ = some (.pointer o)) := fun w5 hC => by
    obtain ⟨q, Lc, h1, -⟩ := hC
    exact ⟨h1.cell 2 rfl, h1.cell 3 rfl, h1.cell 7 rfl⟩
  clear h h' hB hl hl' hp hv hg hgb hxc
  go_enter Tryz.func212, Tryz.ntmps212
  go_wp2_with fail
  try rw [hV]
  clear hV c8 f8
  go_region_held3 (fun w' => w'.cell? ⟨x, 2, none⟩ = some (.pointer (some ⟨cl, 0, none⟩)) ∧ w'.cell? ⟨x, 3, none⟩ = some (.int .i64 p) ∧ w'.cell? ⟨x, 7, none⟩ = some (.pointer o)) (first | exact hH.out | exact KB.out _ ‹_› | exact KC.out _ ‹_›) (first | (go_at_call 95; refine (HR.out _ hD.out).mono ?_; rintro e w4 ⟨rfl, k⟩) | (go_at_call 28; refine (HG.out _ ‹_›).mono ?_; rintro e w5 ⟨rfl, rfl⟩) | (go_at_call 126; refine (HQ.out _).mono ?_; rintro e w6 ⟨rfl, rfl⟩) | (go_at_call 127; refine (HS.out _ ‹_›).mono ?_; rintro e w7 ⟨⟨v, rfl⟩, hC⟩))
  all_goals
    clear HR HG HQ HS c2 c3 c7 hH KB KC hD
    go_wp2_with fail
    go_end0
    exact ⟨⟨_, rfl⟩, hC⟩
end
end Go.Proofs.YthhlklfioipmgaaGreat
