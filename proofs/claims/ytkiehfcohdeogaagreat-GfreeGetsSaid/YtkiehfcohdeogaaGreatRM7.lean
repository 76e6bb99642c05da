/- The machine that gets a goroutine: how it chooses. -/
import Derived.Test.YtkiehfcohdeogaaGreatRM6
namespace Go.Proofs.YtkiehfcohdeogaaGreat
open Go Go.RowKit
set_option linter.unusedVariables false
set_option maxRecDepth 100000
set_option linter.unusedSimpArgs false


set_option maxHeartbeats 4000000 in
theorem get_some (w : World) (x c : Nat) (who g P T G f z y : Int) (got : Bool) (nx : Option Addr) (h : Blk w x (getCells who nx c g got) 110) (hl : Lay w c P T G) (hxc : c ≠ x) (hp : 0 ≤ P ∧ P ≤ 64) (hT : 0 ≤ T ∧ T ≤ 65536) (hG : G ≤ 65536) (hf : f ≠ 0) (hz : IntKind.u64.wrap (f - 1) = z) (hy : IntKind.i64.wrap z = y) :
    Calls Tryz.prog 112 #[.pointer (some ⟨x, 0, none⟩), .int .u64 f] w fun e w' => (∃ v, e = .returned v) ∧ ∃ q, CameAt w w' x (getCells who nx c y got) 110 (comCells 1 0 (wd (20 + P * 264 + T * 3) G 2 y 1) 0 0 false .nilIface (.func (.func 148) #[.pointer (some ⟨x, 0, none⟩)] #[]) false false) q := by
  have c3 := h.cell 3 (v := .int .i64 g) rfl
  have f3 := h.fro 3
  have hlt := h.lt
  have h' : Blk _ x (getCells who nx c y got) 110 := h.set 3 (.int .i64 y)
  have hB : But [x] w (w.setCell ⟨x, 3, none⟩ (.int .i64 y)) := (But.refl _ w).set (g := x) (.inl (by simp)) 3 _
  have hl' : Lay (w.setCell ⟨x, 3, none⟩ (.int .i64 y)) c P T G := (hB.block c hl.lt (by simpa using hxc)).trans hl
  have hd : (f == 0) = false := by simpa using hf
  generalize hV : w.setCell ⟨x, 3, none⟩ (.int .i64 y) = V at h' hB hl'
  have d2 := h'.cell 2 (v := .pointer (some ⟨c, 0, none⟩)) rfl
  have d3 := h'.cell 3 (v := .int .i64 y) rfl
  have hW := g_word c P T G y 1 V.drew (hl'.below ((Below.refl _ _).drew) hl'.lt) hp hT hG
  have HS : Hid (∀ w4, Below V.drew.heap.size V.drew w4 → Calls Tryz.prog 129 #[.pointer (some ⟨x, 0, none⟩), .int .i64 (wd (20 + P * 264 + T * 3) G 2 y 1), .func (.func 148) #[.pointer (some ⟨x, 0, none⟩)] #[]] w4 fun e w' => (∃ v, e = .returned v) ∧ ∃ q, CameAt w w' x (getCells who nx c y got) 110 (comCells 1 0 (wd (20 + P * 264 + T * 3) G 2 y 1) 0 0 false .nilIface (.func (.func 148) #[.pointer (some ⟨x, 0, none⟩)] #[]) false false) q) := by
    intro w4 k
    have hB4 : But [x] w w4 := hB.trans (((But.refl [x] V).drew).trans (But.of_below k))
    have h4 : Blk w4 x (getCells who nx c y got) 110 := h'.drew.but (But.of_below (l := []) k) (by simp)
    refine (load_come w4 x _ 110 _ h4 (by simp [getCells]) 148 #[.pointer (some ⟨x, 0, none⟩)] #[]).mono ?_
    rintro e w5 ⟨hv, q, hC⟩
    exact ⟨hv, q, Nat.le_trans hB4.size hC.fresh, hC.own, hC.com, hB4.trans hC.but⟩
  generalize wd (20 + P * 264 + T * 3) G 2 y 1 = at' at *
  clear h h' hB hl hl' hp hT hG hxc hf
  go_enter Tryz.func112, Tryz.ntmps112
  go_wp2_with fail
  try rw [hV]
  clear hV c3 f3
  go_region_with (first | (go_at_call 83; refine hW.mono ?_; rintro e w4 ⟨rfl, k⟩) | (go_at_call 129; refine (HS.out _ k).mono ?_; rintro e w5 ⟨⟨v, rfl⟩, q, hC⟩))
  all_goals
    clear hW k HS d2 d3
    go_wp2_with fail
    go_end0
    exact ⟨⟨_, rfl⟩, q, hC⟩

end Go.Proofs.YtkiehfcohdeogaaGreat
