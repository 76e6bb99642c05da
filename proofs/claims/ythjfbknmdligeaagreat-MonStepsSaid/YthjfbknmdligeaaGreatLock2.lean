/- The making of the machines of locks. -/
import Derived.Test.YthjfbknmdligeaaGreatLock1
namespace Go.Proofs.YthjfbknmdligeaaGreat
open Go Go.RowKit
set_option linter.unusedVariables false
set_option maxRecDepth 100000
set_option linter.unusedSimpArgs false

theorem lock_new (w : World) (c : Nat) (lk who : Int) :
    Calls Tryz.prog 129 #[.pointer (some ⟨c, 0, none⟩), .int .i64 lk, .int .i64 who] w fun e w' => ∃ x q, e = .returned (.pointer (some ⟨x, 0, none⟩)) ∧ Blk w' x (acqCells who (some ⟨q, 0, none⟩) (wd 0 2 3 lk 1) (wd 0 2 3 lk 2) 0 false) 188 ∧ Blk w' q (comCells 4 0 (wd 0 2 3 lk 0) 0 1 false .nilIface (.func (.func 137) #[.pointer (some ⟨x, 0, none⟩)] #[]) false false) 148 ∧ Below w.heap.size w w' ∧ w.heap.size ≤ x ∧ w.heap.size ≤ q ∧ x < q := by
  have hS := serving_some c lk w
  have hO := fun w => owner_some c lk w
  have hT := fun w => ticket_some c lk w
  generalize wd 0 2 3 lk 1 = sv at *
  generalize wd 0 2 3 lk 2 = ow at *
  generalize wd 0 2 3 lk 0 = tk at *
  go_enter Tryz.func129, Tryz.ntmps129
  go_wp2_with fail
  go_at_call 133; refine hS.mono ?_; rintro e w1 ⟨rfl, h1⟩
  go_wp2_with fail
  go_at_call 134; refine (hO w1).mono ?_; rintro e w2 ⟨rfl, h2⟩
  have hb2 := seq h1 h2
  clear h1 h2 hS hO
  have hB := Blk.new w2 (acqCells 0 none sv ow 0 false) 188
  have hF := fof_any _ w2.heap.size _ 188 who hB (by simp [acqCells])
  go_wp2_with fail
  go_at_call 38; refine hF.mono ?_; rintro e w3 ⟨⟨v, rfl⟩, hw3⟩
  have h3 : Blk w3 w2.heap.size (acqCells who none sv ow 0 false) 188 := by rw [hw3]; exact hB.set 0 _
  have hb3 : Below w.heap.size w w3 := by rw [hw3]; exact (hb2.alloc hb2.size _).setCell (p := ⟨w2.heap.size, 0, none⟩) hb2.size _
  have hs2 := hb2.size
  have hlt := h3.lt
  generalize w2.heap.size = x at *
  clear hF hB hw3 hb2
  have hT3 := hT w3.drew
  clear hT
  go_wp2_with fail
  go_region_with (first | (go_at_call 136; refine hT3.mono ?_; rintro e w4 ⟨rfl, h4⟩; have h5 : Blk w4 x (acqCells who none sv ow 0 false) 188 := h3.drew.but (But.of_below (l := []) h4) (by simp)) | (go_at_call 135; refine (add_come w4 x _ 188 tk 1 h5 (by simp [acqCells]) 137 #[.pointer (some ⟨x, 0, none⟩)] #[]).mono ?_; rintro e w5 ⟨⟨v2, rfl⟩, q, hC⟩))
  all_goals
    have hb4 : Below w.heap.size w w4 := hb3.drew.trans (h4.mono hb3.size)
    have hq : x < q := Nat.lt_of_lt_of_le h5.lt hC.fresh
    have hb5 : Below w.heap.size w w5 := hb4.trans (hC.but.below (by simpa using hs2) hb4.size)
    have hc1 := hC.own
    have hc2 := hC.com
    clear h3 hT3 h4 h5 hC hb4 hb3
    go_wp2_with fail
    go_ret
    exact ⟨x, q, rfl, hc1, hc2, hb5, hs2, by omega, hq⟩

theorem rel_new (w : World) (c : Nat) (lk who : Int) :
    Calls Tryz.prog 147 #[.pointer (some ⟨c, 0, none⟩), .int .i64 lk, .int .i64 who] w fun e w' => ∃ x q g, e = .returned (.pointer (some ⟨x, 0, none⟩)) ∧ Blk w' x (relCells who (some ⟨q, 0, none⟩) (wd 0 2 3 lk 1)) 196 ∧ Blk w' q (comCells 2 0 (wd 0 2 3 lk 2) 0 0 false .nilIface (.func (.func 110) #[] #[.pointer (some ⟨g, 0, none⟩)]) false false) 148 ∧ Blk w' g #[.func (.func 150) #[.pointer (some ⟨x, 0, none⟩)] #[]] 1 ∧ Below w.heap.size w w' ∧ w.heap.size ≤ x ∧ w.heap.size ≤ q ∧ x < q ∧ x < g ∧ g ≠ q := by
  have hS := serving_some c lk w
  have hO := fun w => owner_some c lk w
  generalize wd 0 2 3 lk 1 = sv at *
  generalize wd 0 2 3 lk 2 = ow at *
  go_enter Tryz.func147, Tryz.ntmps147
  go_wp2_with fail
  go_at_call 133; refine hS.mono ?_; rintro e w2 ⟨rfl, hb2⟩
  clear hS
  have hB := Blk.new w2 (relCells 0 none sv) 196
  have hF := fof_any _ w2.heap.size _ 196 who hB (by simp [relCells])
  go_wp2_with fail
  go_at_call 38; refine hF.mono ?_; rintro e w3 ⟨⟨v, rfl⟩, hw3⟩
  have h3 : Blk w3 w2.heap.size (relCells who none sv) 196 := by rw [hw3]; exact hB.set 0 _
  have hb3 : Below w.heap.size w w3 := by rw [hw3]; exact (hb2.alloc hb2.size _).setCell (p := ⟨w2.heap.size, 0, none⟩) hb2.size _
  have hs2 := hb2.size
  have hlt := h3.lt
  generalize w2.heap.size = x at *
  clear hF hB hw3 hb2
  have hT3 := hO w3.drew
  clear hO
  go_wp2_with fail
  go_region_with (first | (go_at_call 134; refine hT3.mono ?_; rintro e w4 ⟨rfl, h4⟩; have h5 : Blk w4 x (relCells who none sv) 196 := h3.drew.but (But.of_below (l := []) h4) (by simp)) | (go_at_call 114; refine (store_come w4 x _ 196 ow 0 h5 (by simp [relCells]) (.func (.func 150) #[.pointer (some ⟨x, 0, none⟩)] #[]) (.some _ _ _)).mono ?_; rintro e w5 ⟨⟨v2, rfl⟩, q, g, hC⟩))
  all_goals
    have hb4 : Below w.heap.size w w4 := hb3.drew.trans (h4.mono hb3.size)
    have hq : x < q := Nat.lt_of_lt_of_le h5.lt hC.at'.fresh
    have hg : x < g := Nat.lt_of_lt_of_le h5.lt hC.fresh
    have hb5 : Below w.heap.size w w5 := hb4.trans (hC.at'.but.below (by simpa using hs2) hb4.size)
    have hc1 := hC.at'.own
    have hc2 := hC.at'.com
    have hc3 := hC.box
    have hc4 := hC.ne
    clear h3 hT3 h4 h5 hC hb4 hb3
    go_wp2_with fail
    go_ret
    exact ⟨x, q, g, rfl, hc1, hc2, hc3, hb5, hs2, by omega, hq, hg, hc4⟩
end Go.Proofs.YthjfbknmdligeaaGreat
