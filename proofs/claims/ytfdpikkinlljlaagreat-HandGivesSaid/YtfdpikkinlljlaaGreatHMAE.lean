/- Starting a thread: the functions that run machines, and its making. -/
import Derived.Test.YtfdpikkinlljlaaGreatHMAA
namespace Go.Proofs.YtfdpikkinlljlaaGreat
open Go Go.RowKit
set_option linter.unusedVariables false
set_option maxRecDepth 100000
set_option linter.unusedSimpArgs false

section
variable (w : World) (x cl th : Nat) (who p : Int) (sp lf has : Bool) (bk nx : Option Addr) (h : Blk w x (wsCells who nx cl p sp lf has th bk) 218)
include h
set_option maxHeartbeats 2000000 in
theorem ws_wake (v P T G : Int) (hG : ∀ Y, But [x] w Y → Calls Tryz.prog 256 #[.pointer (some ⟨th, 0, none⟩)] Y fun e w' => e = .returned (.int .i64 v) ∧ Y = w') (hl : Lay w cl P T G) (hp : 0 ≤ P ∧ P ≤ 64) (hTT : 0 ≤ T ∧ T ≤ 65536) (hxc : cl ≠ x) :
    Calls Tryz.prog 261 #[.pointer (some ⟨x, 0, none⟩)] w fun e w' => (∃ v, e = .returned v) ∧ RunNew (nwSub (wd (20 + P * 264) T 3 v 0) who) NwT.fresh w w' x (wsCells who nx cl p sp lf false th bk) 218 .nilFunc := by
  have c6 := h.cell 6 (v := .bool has) rfl
  have f6 := h.fro 6
  have h' : Blk (w.setCell ⟨x, 6, none⟩ (.bool false)) x (wsCells who nx cl p sp lf false th bk) 218 := h.set 6 (.bool false)
  have hB : But [x] w (w.setCell ⟨x, 6, none⟩ (.bool false)) := (But.refl _ w).set (g := x) (.inl (by simp)) 6 _
  have hl' : Lay (w.setCell ⟨x, 6, none⟩ (.bool false)) cl P T G := (hB.block cl hl.lt (by simpa using hxc)).trans hl
  generalize hV : (w.setCell ⟨x, 6, none⟩ (.bool false)) = V at h' hB hl'
  have hlt : x < V.heap.size := h'.lt
  have c2 := h'.cell 2 (v := .pointer (some ⟨cl, 0, none⟩)) rfl
  have hO := who_any V.drew x who (h'.drew.cell 0 rfl)
  have hT1 := ws_T V.drew x cl th who p sp lf false bk nx h'.drew v (hG V.drew hB.drew)
  have hR := nw_new V.drew cl who v P T G (hl'.below ((Below.refl _ _).drew) hl'.lt) hp hTT
  have HG : Hid ((nwSub (wd (20 + P * 264) T 3 v 0) who).I.Good (nwSub (wd (20 + P * 264) T 3 v 0) who).M) := Fl.good (nw_laws who _)
  have HH : Hid (Blk V x (wsCells who nx cl p sp lf false th bk) 218) := h'
  generalize wd (20 + P * 264) T 3 v 0 = nt at *
  clear h h' hl hl' hp hTT hxc hG
  go_enter Tryz.func261, Tryz.ntmps261
  go_wp2_with fail
  try rw [hV]
  clear hV c6 f6
  go_region_with (first | (go_at_call 144; refine hO.mono ?_; rintro e w3 ⟨rfl, rfl⟩) | (go_at_call 239; refine hT1.mono ?_; rintro e w3 ⟨rfl, rfl⟩) | (go_at_call 276; refine hR.mono ?_; rintro e w4 ⟨y, L, rfl, k1, k4, k5, k6, a, k7⟩; have hB4 : But [x] V w4 := ((But.refl [x] V).drew).trans (But.of_below k4); have hf := frun_nwk w4 x y _ 218 .nilFunc a (HH.out.but (But.of_below (l := []) (show Below V.heap.size V w4 from (Below.refl _ _).drew.trans k4)) (by simp)) (by simp [wsCells]) .none (by have : V.heap.size ≤ y := k5; omega) k7) | (go_at_call 98; refine hf.mono ?_; rintro e w5 ⟨⟨v, rfl⟩, q, g, hC⟩))
  all_goals
    have k6' : ∀ k ∈ L, V.heap.size ≤ k := k6
    have hR5 := (RunNew.mk (S := nwSub nt who) (W := V) HG.out k1 k6' hlt hB4 hC).before hB
    clear hO hT1 hR c2 hf k1 k4 k5 k6 k6' k7 hC hB4 HH HG
    go_wp2_with fail
    go_end0
    exact ⟨⟨_, rfl⟩, hR5⟩
set_option maxHeartbeats 2000000 in
theorem ws_putBack_new (P T G : Int) (hp : 0 ≤ P ∧ P ≤ 64) (hTT : 0 ≤ T ∧ T ≤ 65536) (hf : lf = false) :
    Calls Tryz.prog 259 #[.pointer (some ⟨x, 0, none⟩)] w fun e w' => (∃ v, e = .returned v) ∧ ∃ y q b L, CameBox w w' x (wsCells who nx cl p sp lf has th (some ⟨y, 0, none⟩)) 218 (fun v => comCells 0 0 0 0 0 false (.iface 154 (.pointer (some ⟨y, 0, none⟩))) v false false) (.func (.func 275) #[.pointer (some ⟨x, 0, none⟩)] #[]) q b ∧ (ipFl who p cl).I (ipPM P p) w' y .m0 L ∧ (∀ k ∈ L, w.heap.size ≤ k) ∧ q ∉ L ∧ b ∉ L := by
  have c5 := h.cell 5 (v := .bool lf) rfl
  have c2 := h.cell 2 (v := .pointer (some ⟨cl, 0, none⟩)) rfl
  have c3 := h.cell 3 (v := .int .i64 p) rfl
  have hlt := h.lt
  have hO := who_any w.drew x who (h.drew.cell 0 rfl)
  have hN := ip_new w.drew cl who p P
  have HG : Hid (((ipFl who p cl).I (ipPM P p)).Good (ipPM P p)) := Fl.good (ip_laws who P T G p cl hp hTT)
  have HH : Hid (Blk w x (wsCells who nx cl p sp lf has th bk) 218) := h
  subst hf
  clear h hp hTT
  go_enter Tryz.func259, Tryz.ntmps259
  go_wp2_with fail
  clear c5
  go_region_with (first | (go_at_call 144; refine hO.mono ?_; rintro e w3 ⟨rfl, rfl⟩) | (go_at_call 274; refine hN.mono ?_; rintro e w4 ⟨y, L, rfl, k1, k2, k3, k4⟩; have h4 : Blk w4 x (wsCells who nx cl p sp false has th bk) 218 := HH.out.but (But.of_below (l := []) (show Below w.heap.size w w4 from (Below.refl _ _).drew.trans k2)) (by simp); have c8 := h4.cell 8 (v := .pointer bk) rfl; have f8 := h4.fro 8))
  all_goals
    have k3' : ∀ k ∈ L, w.heap.size ≤ k := k3
    have k4' : w.heap.size ≤ y := k4
    have hB4 : But [x] w (w4.setCell ⟨x, 8, none⟩ (.pointer (some ⟨y, 0, none⟩))) := (((But.refl [x] w).drew).trans (But.of_below k2)).set (g := x) (.inl (by simp)) 8 _
    have h5 : Blk (w4.setCell ⟨x, 8, none⟩ (.pointer (some ⟨y, 0, none⟩))) x (wsCells who nx cl p sp false has th (some ⟨y, 0, none⟩)) 218 := h4.set 8 _
    have hI5 : (ipFl who p cl).I (ipPM P p) (w4.setCell ⟨x, 8, none⟩ (.pointer (some ⟨y, 0, none⟩))) y .m0 L := HG.out.keep k1 ((But.refl [x] w4).set (g := x) (.inl (by simp)) 8 _) (fun k hk => by have := k3' k hk; simp; omega)
    generalize (w4.setCell ⟨x, 8, none⟩ (.pointer (some ⟨y, 0, none⟩))) = V at *
    obtain ⟨a, ha⟩ : ∃ a, V.cell? ⟨y, 1, none⟩ = some (.pointer (some a)) := by
      obtain ⟨nx, q1, q2⟩ := HG.out.next hI5
      cases nx with
      | none => cases q2
      | some a => exact ⟨a, q1⟩
    have c8' := h5.cell 8 (v := .pointer (some ⟨y, 0, none⟩)) rfl
    have hf := frun_ipp V.drew x y _ 218 (.func (.func 275) #[.pointer (some ⟨x, 0, none⟩)] #[]) a h5.drew (by simp [wsCells]) (.some _ _ _) (by omega) (by simpa using ha)
    clear hO hN c2 c3 k1 k2 k3 k4 h4 c8 f8 HH
    go_wp2_with fail
    go_region_with (first | (go_at_call 98; refine hf.mono ?_; rintro e w5 ⟨⟨v, rfl⟩, q, g, hC⟩))
    all_goals
      have hlL := HG.out.lt hI5
      have f1 : V.heap.size ≤ q := hC.at'.fresh
      have f2 : V.heap.size ≤ g := hC.fresh
      have hI6 := HG.out.keep hI5 (((But.refl [x] V).drew).trans hC.at'.but) (fun k hk => by have := k3' k hk; simp; omega)
      have hC6 := hC.before ((But.refl [x] V).drew |> hB4.trans)
      have hq : q ∉ L ∧ g ∉ L := ⟨fun hm => by have := hlL q hm; omega, fun hm => by have := hlL g hm; omega⟩
      clear hf hC c8' hB4 h5 hI5 HG
      go_wp2_with fail
      go_end0
      exact ⟨⟨_, rfl⟩, y, q, g, L, hC6, hI6, k3', hq.1, hq.2⟩
end
end Go.Proofs.YtfdpikkinlljlaaGreat
