/- The machine that gets a goroutine. -/
import Derived.Test.YtkiehfcohdeogaaGreatRM4
namespace Go.Proofs.YtkiehfcohdeogaaGreat
open Go Go.RowKit
set_option linter.unusedVariables false
set_option maxRecDepth 100000
set_option linter.unusedSimpArgs false


def getCells (who : Int) (nx : Option Addr) (c : Nat) (g : Int) (got : Bool) : Array Value := #[.int .i64 who, .pointer nx, .pointer (some ⟨c, 0, none⟩), .int .i64 g, .bool got]

theorem glob_word17 (w : World) (c : Nat) : Calls Tryz.prog 80 #[.pointer (some ⟨c, 0, none⟩), .int .i64 17] w fun e w' => e = .returned (.int .i64 17) ∧ w = w' := by
  go_enter Tryz.func80, Tryz.ntmps80
  go_wp2_with fail
  go_ret
  exact ⟨rfl, rfl⟩

theorem get_look (w : World) (x c : Nat) (who g : Int) (got : Bool) (nx : Option Addr) (h : Blk w x (getCells who nx c g got) 110) :
    Calls Tryz.prog 62 #[.pointer (some ⟨x, 0, none⟩)] w fun e w' => (∃ v, e = .returned v) ∧ ∃ q, CameAt w w' x (getCells who nx c g got) 110 (comCells 1 0 16 0 0 false .nilIface (.func (.func 112) #[.pointer (some ⟨x, 0, none⟩)] #[]) false false) q := by
  have H := load_free w x c 112 _ #[.pointer (some ⟨x, 0, none⟩)] #[] 110 h (by simp [getCells]) rfl
  clear h
  go_enter Tryz.func62, Tryz.ntmps62
  go_wp2_with fail
  go_at_call 111; refine H.mono ?_; rintro e w1 ⟨⟨v, rfl⟩, q, hC⟩
  clear H
  go_wp2_with fail
  go_end0
  exact ⟨⟨_, rfl⟩, q, hC⟩

theorem get_unlink (w : World) (x c : Nat) (who g u : Int) (got : Bool) (nx : Option Addr) (h : Blk w x (getCells who nx c g got) 110) :
    Calls Tryz.prog 148 #[.pointer (some ⟨x, 0, none⟩), .int .u64 u] w fun e w' => (∃ v, e = .returned v) ∧ ∃ q b, CameBox w w' x (getCells who nx c g got) 110 (fun v => comCells 2 0 16 0 u false .nilIface v false false) (.func (.func 170) #[.pointer (some ⟨x, 0, none⟩)] #[]) q b := by
  have H := store_free w x c _ 110 u (.func (.func 170) #[.pointer (some ⟨x, 0, none⟩)] #[]) (.some _ _ _) h (by simp [getCells]) rfl
  clear h
  go_enter Tryz.func148, Tryz.ntmps148
  go_wp2_with fail
  go_at_call 171; refine H.mono ?_; rintro e w1 ⟨⟨v, rfl⟩, q, b, hC⟩
  clear H
  go_wp2_with fail
  go_end0
  exact ⟨⟨_, rfl⟩, q, b, hC⟩

theorem get_have (w : World) (x c : Nat) (who g : Int) (got : Bool) (nx : Option Addr) (h : Blk w x (getCells who nx c g got) 110) :
    Calls Tryz.prog 170 #[.pointer (some ⟨x, 0, none⟩)] w fun e w' => (∃ v, e = .returned v) ∧ ∃ x2 q2 g2 q b, CameBox w w' x (getCells who nx c g true) 110 (fun v => comCells 0 0 0 0 0 false (.iface 201 (.pointer (some ⟨x2, 0, none⟩))) v false false) .nilFunc q b ∧ RelM w' x2 q2 g2 who (wd 0 2 3 1 1) (wd 0 2 3 1 2) ∧ w.heap.size ≤ x2 ∧ q2 < q ∧ q2 < b ∧ g2 < q ∧ g2 < b := by
  have c4 := h.cell 4 (v := .bool got) rfl
  have f4 := h.fro 4
  have hlt := h.lt
  have h' : Blk _ x (getCells who nx c g true) 110 := h.set 4 (.bool true)
  have hB : But [x] w (w.setCell ⟨x, 4, none⟩ (.bool true)) := (But.refl _ w).set (g := x) (.inl (by simp)) 4 _
  have H := release_any _ x c who _ 110 h' (by simp [getCells]) rfl rfl
  rw [size_set] at H
  generalize wd 0 2 3 1 1 = sv at *
  generalize wd 0 2 3 1 2 = ow at *
  clear h h'
  go_enter Tryz.func170, Tryz.ntmps170
  go_wp2_with fail
  go_at_call 169; refine H.mono ?_; rintro e w1 ⟨⟨v, rfl⟩, x2, q2, g2, q, b, hC, hM, h1, h2, h3, h4, h5⟩
  have hC5 := hC.before hB
  clear H hC hB c4 f4
  go_wp2_with fail
  go_end0
  exact ⟨⟨_, rfl⟩, x2, q2, g2, q, b, hC5, hM, h1, h2, h3, h4, h5⟩

theorem get_none (w : World) (x c : Nat) (who g : Int) (got : Bool) (nx : Option Addr) (h : Blk w x (getCells who nx c g got) 110) :
    Calls Tryz.prog 112 #[.pointer (some ⟨x, 0, none⟩), .int .u64 0] w fun e w' => (∃ v, e = .returned v) ∧ ∃ q, CameAt w w' x (getCells who nx c g got) 110 (comCells 1 0 17 0 0 false .nilIface (.func (.func 147) #[.pointer (some ⟨x, 0, none⟩)] #[]) false false) q := by
  have H := load_come w.drew x _ 110 17 h.drew (by simp [getCells]) 147 #[.pointer (some ⟨x, 0, none⟩)] #[]
  have c2 := h.cell 2 (v := .pointer (some ⟨c, 0, none⟩)) rfl
  have hW := glob_word17 w.drew c
  clear h
  go_enter Tryz.func112, Tryz.ntmps112
  go_wp2_with fail
  go_region_with (first | (go_at_call 80; refine hW.mono ?_; rintro e w3 ⟨rfl, rfl⟩) | (go_at_call 129; refine H.mono ?_; rintro e w1 ⟨⟨v, rfl⟩, q, hC⟩))
  all_goals
    clear hW H c2
    go_wp2_with fail
    refine bodyPost_ret (results_none rfl _ _ _) rfl ?_
    exact ⟨⟨_, rfl⟩, q, hC.undrew⟩

end Go.Proofs.YtkiehfcohdeogaaGreat
