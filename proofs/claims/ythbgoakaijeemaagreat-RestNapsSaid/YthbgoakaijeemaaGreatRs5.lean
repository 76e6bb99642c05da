/- Coming to rest: Rest's functions, two. -/
import Derived.Test.YthbgoakaijeemaaGreatRs4
namespace Go.Proofs.YthbgoakaijeemaaGreat
open Go Go.RowKit
set_option linter.unusedVariables false
set_option maxRecDepth 100000
set_option linter.unusedSimpArgs false

section
variable (w : World) (x cl : Nat) (who : Int) (pr sp na nx : Option Addr) (h : Blk w x (reCells who nx cl pr sp na) 160)
include h
set_option maxHeartbeats 2000000 in
theorem re_choose_get (u P T G : Int) (hu : u ≠ 0) (hp : 0 ≤ P ∧ P ≤ 64) (hTT : 0 ≤ T ∧ T ≤ 65536) :
    Calls Tryz.prog 158 #[.pointer (some ⟨x, 0, none⟩), .int .u64 u] w fun e w' => (∃ v, e = .returned v) ∧ RunHeld (reIg who P T G cl) IgT.ld w w' x (fun y => (reCells who nx cl (some ⟨y, 0, none⟩) sp na)) 160 (.func (.func 183) #[.pointer (some ⟨x, 0, none⟩)] #[]) := by
  have hd : (u == 0) = false := by simpa using hu
  have c2 := h.cell 2 (v := .pointer (some ⟨cl, 0, none⟩)) rfl
  have hlt := h.lt
  have hO := who_any w.drew x who (h.drew.cell 0 rfl)
  have hN := ig_new w.drew cl who P
  have HG : Hid ((reIg who P T G cl).I.Good (reIg who P T G cl).M) := Fl.good (ig_laws who P T G cl hp hTT)
  have HH : Hid (Blk w x (reCells who nx cl pr sp na) 160) := h
  clear h hu hp hTT
  go_enter Tryz.func158, Tryz.ntmps158
  go_wp2_with fail
  go_region_with (first | (go_at_call 168; refine hO.mono ?_; rintro e w3 ⟨rfl, rfl⟩) | (go_at_call 182; refine hN.mono ?_; rintro e w4 ⟨y, L, rfl, k1, k2, k3, k4⟩; have h4 : Blk w4 x (reCells who nx cl pr sp na) 160 := HH.out.but (But.of_below (l := []) (show Below w.heap.size w w4 from (Below.refl _ _).drew.trans k2)) (by simp); have c8 := h4.cell 3 (v := .pointer pr) rfl; have f8 := h4.fro 3))
  all_goals
    have k3' : ∀ k ∈ L, w.heap.size ≤ k := k3
    have k4' : w.heap.size ≤ y := k4
    have k1' : ((reIg who P T G cl)).I w4 y IgT.ld L := k1
    have hB4 : But [x] w (w4.setCell ⟨x, 3, none⟩ (.pointer (some ⟨y, 0, none⟩))) := (((But.refl [x] w).drew).trans (But.of_below k2)).set (g := x) (.inl (by simp)) 3 _
    have h5 : Blk (w4.setCell ⟨x, 3, none⟩ (.pointer (some ⟨y, 0, none⟩))) x (reCells who nx cl (some ⟨y, 0, none⟩) sp na) 160 := h4.set 3 _
    have hI5 : ((reIg who P T G cl)).I (w4.setCell ⟨x, 3, none⟩ (.pointer (some ⟨y, 0, none⟩))) y IgT.ld L := HG.out.keep k1' ((But.refl [x] w4).set (g := x) (.inl (by simp)) 3 _) (fun k hk => by have := k3' k hk; simp; omega)
    generalize (w4.setCell ⟨x, 3, none⟩ (.pointer (some ⟨y, 0, none⟩))) = V at *
    obtain ⟨a, ha⟩ : ∃ a, V.cell? ⟨y, 1, none⟩ = some (.pointer (some a)) := by
      obtain ⟨nx, q1, q2⟩ := HG.out.next hI5
      cases nx with
      | none => cases q2
      | some a => exact ⟨a, q1⟩
    have c8' := h5.cell 3 (v := .pointer (some ⟨y, 0, none⟩)) rfl
    have hf := frun_ipg V.drew x y _ 160 (.func (.func 183) #[.pointer (some ⟨x, 0, none⟩)] #[]) a h5.drew (by simp [reCells]) (.some _ _ _) (by omega) (by simpa using ha)
    clear hO hN c2 k1 k1' k2 k3 k4 h4 c8 f8 HH
    go_wp2_with fail
    go_region_with (first | (go_at_call 70; refine hf.mono ?_; rintro e w5 ⟨⟨v, rfl⟩, q, g, hC⟩))
    all_goals
      have hlL := HG.out.lt hI5
      have f1 : V.heap.size ≤ q := hC.at'.fresh
      have f2 : V.heap.size ≤ g := hC.fresh
      have hI6 := HG.out.keep hI5 (((But.refl [x] V).drew).trans hC.at'.but) (fun k hk => by have := k3' k hk; simp; omega)
      have hC6 := hC.before ((But.refl [x] V).drew |> hB4.trans)
      have hq : q ∉ L ∧ g ∉ L := ⟨fun hm => by have := hlL q hm; omega, fun hm => by have := hlL g hm; omega⟩
      clear hf hC c8' hB4 h5 hI5 HG
      go_wp2_with fail
      go_end0
      exact ⟨⟨_, rfl⟩, y, q, g, L, hC6, hI6, k3', hq.1, hq.2⟩
set_option maxHeartbeats 2000000 in
theorem re_serve_spin (z : Nat) (v : Int) (hz : pr = some ⟨z, 0, none⟩) (hv : v ≠ -1) (hT : Calls Tryz.prog 98 #[.pointer (some ⟨z, 0, none⟩)] w fun e w' => e = .returned (.int .i64 v) ∧ w = w') :
    Calls Tryz.prog 183 #[.pointer (some ⟨x, 0, none⟩)] w fun e w' => (∃ v, e = .returned v) ∧ RunHeld (spSub who cl) SpT.ad w w' x (fun y => (reCells who nx cl pr (some ⟨y, 0, none⟩) na)) 160 (.func (.func 200) #[.pointer (some ⟨x, 0, none⟩)] #[]) := by
  have hd : (v == -1) = false := by simpa using hv
  subst hz
  have c3 := h.cell 3 (v := .pointer (some ⟨z, 0, none⟩)) rfl
  have c2 := h.cell 2 (v := .pointer (some ⟨cl, 0, none⟩)) rfl
  have hlt := h.lt
  have hO := who_any w.drew x who (h.drew.cell 0 rfl)
  have hN := sp_new w.drew cl who
  have HG : Hid ((spSub who cl).I.Good (spSub who cl).M) := Fl.good (sp_laws who cl Rd.nil)
  have HH : Hid (Blk w x (reCells who nx cl (some ⟨z, 0, none⟩) sp na) 160) := h
  clear h hv
  go_enter Tryz.func183, Tryz.ntmps183
  go_wp2_with fail
  go_at_call 98; refine hT.mono ?_; rintro e w1 ⟨rfl, rfl⟩
  clear hT c3
  go_wp2_with fail
  go_region_with (first | (go_at_call 168; refine hO.mono ?_; rintro e w3 ⟨rfl, rfl⟩) | (go_at_call 60; refine hN.mono ?_; rintro e w4 ⟨y, L, rfl, k1, k2, k3, k4⟩; have h4 : Blk w4 x (reCells who nx cl (some ⟨z, 0, none⟩) sp na) 160 := HH.out.but (But.of_below (l := []) (show Below w.heap.size w w4 from (Below.refl _ _).drew.trans k2)) (by simp); have c8 := h4.cell 4 (v := .pointer sp) rfl; have f8 := h4.fro 4))
  all_goals
    have k3' : ∀ k ∈ L, w.heap.size ≤ k := k3
    have k4' : w.heap.size ≤ y := k4
    have k1' : ((spSub who cl)).I w4 y SpT.ad L := k1
    have hB4 : But [x] w (w4.setCell ⟨x, 4, none⟩ (.pointer (some ⟨y, 0, none⟩))) := (((But.refl [x] w).drew).trans (But.of_below k2)).set (g := x) (.inl (by simp)) 4 _
    have h5 : Blk (w4.setCell ⟨x, 4, none⟩ (.pointer (some ⟨y, 0, none⟩))) x (reCells who nx cl (some ⟨z, 0, none⟩) (some ⟨y, 0, none⟩) na) 160 := h4.set 4 _
    have hI5 : ((spSub who cl)).I (w4.setCell ⟨x, 4, none⟩ (.pointer (some ⟨y, 0, none⟩))) y SpT.ad L := HG.out.keep k1' ((But.refl [x] w4).set (g := x) (.inl (by simp)) 4 _) (fun k hk => by have := k3' k hk; simp; omega)
    generalize (w4.setCell ⟨x, 4, none⟩ (.pointer (some ⟨y, 0, none⟩))) = V at *
    obtain ⟨a, ha⟩ : ∃ a, V.cell? ⟨y, 1, none⟩ = some (.pointer (some a)) := by
      obtain ⟨nx, q1, q2⟩ := HG.out.next hI5
      cases nx with
      | none => cases q2
      | some a => exact ⟨a, q1⟩
    have c8' := h5.cell 4 (v := .pointer (some ⟨y, 0, none⟩)) rfl
    have hf := frun_rspn V.drew x y _ 160 (.func (.func 200) #[.pointer (some ⟨x, 0, none⟩)] #[]) a h5.drew (by simp [reCells]) (.some _ _ _) (by omega) (by simpa using ha)
    clear hO hN c2 k1 k1' k2 k3 k4 h4 c8 f8 HH
    go_wp2_with fail
    go_region_with (first | (go_at_call 70; refine hf.mono ?_; rintro e w5 ⟨⟨v, rfl⟩, q, g, hC⟩))
    all_goals
      have hlL := HG.out.lt hI5
      have f1 : V.heap.size ≤ q := hC.at'.fresh
      have f2 : V.heap.size ≤ g := hC.fresh
      have hI6 := HG.out.keep hI5 (((But.refl [x] V).drew).trans hC.at'.but) (fun k hk => by have := k3' k hk; simp; omega)
      have hC6 := hC.before ((But.refl [x] V).drew |> hB4.trans)
      have hq : q ∉ L ∧ g ∉ L := ⟨fun hm => by have := hlL q hm; omega, fun hm => by have := hlL g hm; omega⟩
      clear hf hC c8' hB4 h5 hI5 HG
      go_wp2_with fail
      go_end0
      exact ⟨⟨_, rfl⟩, y, q, g, L, hC6, hI6, k3', hq.1, hq.2⟩
set_option maxHeartbeats 2000000 in
theorem re_begin (P T G : Int) (hl : Lay w cl P T G) (hp : 0 ≤ P ∧ P ≤ 64) (hTT : 0 ≤ T ∧ T ≤ 65536) :
    Calls Tryz.prog 206 #[.pointer (some ⟨x, 0, none⟩)] w fun e w' => (∃ v, e = .returned v) ∧ RunHeld (naSub P T G who cl) (NaT.slp .s1) w w' x (fun y => (reCells who nx cl pr sp (some ⟨y, 0, none⟩))) 160 .nilFunc := by
  have c2 := h.cell 2 (v := .pointer (some ⟨cl, 0, none⟩)) rfl
  have hlt := h.lt
  have hO := who_any w.drew x who (h.drew.cell 0 rfl)
  have hN := na_new_at w.drew cl who P T G (hl.below (Below.refl _ _).drew hl.lt) hp hTT
  have HG : Hid ((naSub P T G who cl).I.Good (naSub P T G who cl).M) := Cp.good (na_laws hp hTT)
  have HH : Hid (Blk w x (reCells who nx cl pr sp na) 160) := h
  clear h hl hp hTT
  go_enter Tryz.func206, Tryz.ntmps206
  go_wp2_with fail
  go_region_with (first | (go_at_call 168; refine hO.mono ?_; rintro e w3 ⟨rfl, rfl⟩) | (go_at_call 41; refine hN.mono ?_; rintro e w4 ⟨y, L, rfl, k1, k2, k3, k4⟩; have h4 : Blk w4 x (reCells who nx cl pr sp na) 160 := HH.out.but (But.of_below (l := []) (show Below w.heap.size w w4 from (Below.refl _ _).drew.trans k2)) (by simp); have c8 := h4.cell 5 (v := .pointer na) rfl; have f8 := h4.fro 5))
  all_goals
    have k3' : ∀ k ∈ L, w.heap.size ≤ k := k3
    have k4' : w.heap.size ≤ y := k4
    have k1' : ((naSub P T G who cl)).I w4 y (NaT.slp .s1) L := k1
    have hB4 : But [x] w (w4.setCell ⟨x, 5, none⟩ (.pointer (some ⟨y, 0, none⟩))) := (((But.refl [x] w).drew).trans (But.of_below k2)).set (g := x) (.inl (by simp)) 5 _
    have h5 : Blk (w4.setCell ⟨x, 5, none⟩ (.pointer (some ⟨y, 0, none⟩))) x (reCells who nx cl pr sp (some ⟨y, 0, none⟩)) 160 := h4.set 5 _
    have hI5 : ((naSub P T G who cl)).I (w4.setCell ⟨x, 5, none⟩ (.pointer (some ⟨y, 0, none⟩))) y (NaT.slp .s1) L := HG.out.keep k1' ((But.refl [x] w4).set (g := x) (.inl (by simp)) 5 _) (fun k hk => by have := k3' k hk; simp; omega)
    generalize (w4.setCell ⟨x, 5, none⟩ (.pointer (some ⟨y, 0, none⟩))) = V at *
    obtain ⟨a, ha⟩ : ∃ a, V.cell? ⟨y, 1, none⟩ = some (.pointer (some a)) := by
      obtain ⟨nx, q1, q2⟩ := HG.out.next hI5
      cases nx with
      | none => cases q2
      | some a => exact ⟨a, q1⟩
    have c8' := h5.cell 5 (v := .pointer (some ⟨y, 0, none⟩)) rfl
    have hf := frun_rnap V.drew x y _ 160 .nilFunc a h5.drew (by simp [reCells]) .none (by omega) (by simpa using ha)
    clear hO hN c2 k1 k1' k2 k3 k4 h4 c8 f8 HH
    go_wp2_with fail
    go_region_with (first | (go_at_call 70; refine hf.mono ?_; rintro e w5 ⟨⟨v, rfl⟩, q, g, hC⟩))
    all_goals
      have hlL := HG.out.lt hI5
      have f1 : V.heap.size ≤ q := hC.at'.fresh
      have f2 : V.heap.size ≤ g := hC.fresh
      have hI6 := HG.out.keep hI5 (((But.refl [x] V).drew).trans hC.at'.but) (fun k hk => by have := k3' k hk; simp; omega)
      have hC6 := hC.before ((But.refl [x] V).drew |> hB4.trans)
      have hq : q ∉ L ∧ g ∉ L := ⟨fun hm => by have := hlL q hm; omega, fun hm => by have := hlL g hm; omega⟩
      clear hf hC c8' hB4 h5 hI5 HG
      go_wp2_with fail
      go_end0
      exact ⟨⟨_, rfl⟩, y, q, g, L, hC6, hI6, k3', hq.1, hq.2⟩
end
end Go.Proofs.YthbgoakaijeemaaGreat
