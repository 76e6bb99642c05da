/- The machine that gets a goroutine: one that was never had; and how the machine is made. -/
import Derived.Test.YtkiehfcohdeogaaGreatRM6
namespace Go.Proofs.YtkiehfcohdeogaaGreat
open Go Go.RowKit
set_option linter.unusedVariables false
set_option maxRecDepth 100000
set_option linter.unusedSimpArgs false


theorem get_full (w : World) (x c : Nat) (who g P T G u : Int) (got : Bool) (nx : Option Addr) (h : Blk w x (getCells who nx c g got) 110) (hl : Lay w c P T G) (hG : 0 ≤ G ∧ G ≤ 65536) (hu : G ≤ u) :
    Calls Tryz.prog 147 #[.pointer (some ⟨x, 0, none⟩), .int .u64 u] w fun e w' => (∃ v, e = .returned v) ∧ ∃ x2 q2 g2 q b, CameBox w w' x (getCells who nx c g got) 110 (fun v => comCells 0 0 0 0 0 false (.iface 201 (.pointer (some ⟨x2, 0, none⟩))) v false false) .nilFunc q b ∧ RelM w' x2 q2 g2 who (wd 0 2 3 1 1) (wd 0 2 3 1 2) ∧ w.heap.size ≤ x2 ∧ q2 < q ∧ q2 < b ∧ g2 < q ∧ g2 < b := by
  have c2 := h.cell 2 (v := .pointer (some ⟨c, 0, none⟩)) rfl
  have hC := config_any _ P T G w (.some c hl)
  have hfc := field_c2
  have w1 : IntKind.u64.wrap G = G := wrap_u64 (by omega)
  have hd : decide (G ≤ u) = true := by simpa using hu
  have HH : Hid (Blk w x (getCells who nx c g got) 110) := h
  have HR : Hid (∀ W, Blk W x (getCells who nx c g got) 110 → Calls Tryz.prog 169 #[.pointer (some ⟨x, 0, none⟩)] W fun e w' => (∃ v, e = .returned v) ∧ ∃ x2 q2 g2 q b, CameBox W w' x (getCells who nx c g got) 110 (fun v => comCells 0 0 0 0 0 false (.iface 201 (.pointer (some ⟨x2, 0, none⟩))) v false false) .nilFunc q b ∧ RelM w' x2 q2 g2 who (wd 0 2 3 1 1) (wd 0 2 3 1 2) ∧ W.heap.size ≤ x2 ∧ q2 < q ∧ q2 < b ∧ g2 < q ∧ g2 < b) := fun W hW => release_any W x c who _ 110 hW (by simp [getCells]) rfl rfl
  generalize wd 0 2 3 1 1 = sv at *
  generalize wd 0 2 3 1 2 = ow at *
  clear h hl
  go_enter Tryz.func147, Tryz.ntmps147
  go_wp2_with fail
  go_at_call 81; refine hC.mono ?_; rintro e w1 ⟨rfl, k⟩
  have hB : But [x] w w1 := But.of_below k
  have hk := k.size
  have H := HR.out w1 (HH.out.but (But.of_below (l := []) k) (by simp))
  clear HR HH k hC
  go_wp2_with fail
  go_at_call 169; refine H.mono ?_; rintro e w2 ⟨⟨v, rfl⟩, x2, q2, g2, q, b, hC, hM, h1, h2, h3, h4, h5⟩
  have hC5 := hC.before hB
  clear H hC hB c2
  go_wp2_with fail
  refine bodyPost_ret (results_none rfl _ _ _) rfl ?_
  exact ⟨⟨_, rfl⟩, x2, q2, g2, q, b, hC5, hM, by omega, h2, h3, h4, h5⟩

set_option maxHeartbeats 4000000 in
theorem get_fresh (w : World) (x c : Nat) (who g P T G u : Int) (got : Bool) (nx : Option Addr) (h : Blk w x (getCells who nx c g got) 110) (hl : Lay w c P T G) (hG : 0 ≤ G ∧ G ≤ 65536) (hu : u < G) (hu0 : 0 ≤ u) :
    Calls Tryz.prog 147 #[.pointer (some ⟨x, 0, none⟩), .int .u64 u] w fun e w' => (∃ v, e = .returned v) ∧ ∃ q b, CameBox w w' x (getCells who nx c u got) 110 (fun v => comCells 2 0 17 0 (u + 1) false .nilIface v false false) (.func (.func 170) #[.pointer (some ⟨x, 0, none⟩)] #[]) q b := by
  have c2 := h.cell 2 (v := .pointer (some ⟨c, 0, none⟩)) rfl
  have hC := config_any _ P T G w (.some c hl)
  have hfc := field_c2
  have w1 : IntKind.u64.wrap G = G := wrap_u64 (by omega)
  have w2 : IntKind.u64.wrap (u + 1) = u + 1 := wrap_u64 (by omega)
  have w3 : IntKind.i64.wrap u = u := by simp [IntKind.wrap, IntKind.bits, IntKind.signed]; omega
  have hd : decide (G ≤ u) = false := by simpa using hu
  have HH : Hid (Blk w x (getCells who nx c g got) 110) := h
  have hlt := h.lt
  have HS : Hid (∀ W V, But [x] w W → Blk W x (getCells who nx c g got) 110 → V = W.setCell ⟨x, 3, none⟩ (.int .i64 u) → V.cell? ⟨x, 2, none⟩ = some (.pointer (some ⟨c, 0, none⟩)) ∧ Calls Tryz.prog 127 #[.pointer (some ⟨x, 0, none⟩), .int .i64 17, .int .u64 (u + 1), .func (.func 170) #[.pointer (some ⟨x, 0, none⟩)] #[]] V.drew fun e w' => (∃ v, e = .returned v) ∧ ∃ q b, CameBox w w' x (getCells who nx c u got) 110 (fun v => comCells 2 0 17 0 (u + 1) false .nilIface v false false) (.func (.func 170) #[.pointer (some ⟨x, 0, none⟩)] #[]) q b) := by
    rintro W V hB hW rfl
    have h3 : Blk _ x (getCells who nx c u got) 110 := hW.set 3 (.int .i64 u)
    have hB3 : But [x] w (W.setCell ⟨x, 3, none⟩ (.int .i64 u)) := hB.set (g := x) (.inl (by simp)) 3 _
    refine ⟨h3.cell 2 rfl, (store_come _ x _ 110 17 (u + 1) h3.drew (by simp [getCells]) (.func (.func 170) #[.pointer (some ⟨x, 0, none⟩)] #[]) (.some _ _ _)).mono ?_⟩
    rintro e w5 ⟨hv, q, b, hC⟩
    exact ⟨hv, q, b, hC.before hB3.drew⟩
  clear h hl hu
  go_enter Tryz.func147, Tryz.ntmps147
  go_wp2_with fail
  go_at_call 81; refine hC.mono ?_; rintro e w1 ⟨rfl, k⟩
  have hB : But [x] w w1 := But.of_below k
  have hk := k.size
  have h1 := HH.out.but (But.of_below (l := []) k) (by simp)
  have c3 := h1.cell 3 (v := .int .i64 g) rfl
  have f3 := h1.fro 3
  obtain ⟨d2, H⟩ := HS.out w1 _ hB h1 rfl
  have hW := glob_word17 (w1.setCell ⟨x, 3, none⟩ (.int .i64 u)).drew c
  generalize hV : w1.setCell ⟨x, 3, none⟩ (.int .i64 u) = V at d2 H hW
  clear HS HH k hC hB h1 c2
  go_wp2_with fail
  try rw [hV]
  clear hV c3 f3
  go_region_with (first | (go_at_call 80; refine hW.mono ?_; rintro e w3 ⟨rfl, rfl⟩) | (go_at_call 127; refine H.mono ?_; rintro e w1 ⟨⟨v, rfl⟩, q, b, hC⟩))
  all_goals
    clear hW H d2 w2 w3
    go_wp2_with fail
    go_end0
    exact ⟨⟨_, rfl⟩, q, b, hC⟩

end Go.Proofs.YtkiehfcohdeogaaGreat
