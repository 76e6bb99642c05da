/- Waking some thread: the functions that run machines, and its making. -/
import Derived.Test.YtfdpikkinlljlaaGreatHMAI
import Derived.Test.YtfdpikkinlljlaaGreatHMAF
import Derived.Test.YtfdpikkinlljlaaGreatHMAA
import Derived.Test.YtfdpikkinlljlaaGreatHMAB
namespace Go.Proofs.YtfdpikkinlljlaaGreat
open Go Go.RowKit
set_option linter.unusedVariables false
set_option maxRecDepth 100000
set_option linter.unusedSimpArgs false

section
variable (w : World) (x cl : Nat) (who : Int) (ct : Bool) (pr st nx : Option Addr) (h : Blk w x (wwCells who nx cl ct pr st) 200)
include h
set_option maxHeartbeats 2000000 in
theorem ww_get (P T G : Int) (hp : 0 ≤ P ∧ P ≤ 64) (hTT : 0 ≤ T ∧ T ≤ 65536) :
    Calls Tryz.prog 251 #[.pointer (some ⟨x, 0, none⟩)] w fun e w' => (∃ v, e = .returned v) ∧ ∃ y q b L, CameBox w w' x (wwCells who nx cl ct (some ⟨y, 0, none⟩) st) 200 (fun v => comCells 0 0 0 0 0 false (.iface 198 (.pointer (some ⟨y, 0, none⟩))) v false false) (.func (.func 269) #[.pointer (some ⟨x, 0, none⟩)] #[]) q b ∧ (igFl who cl).I (igPM P) w' y .ld L ∧ (∀ k ∈ L, w.heap.size ≤ k) ∧ q ∉ L ∧ b ∉ L := by
  have c2 := h.cell 2 (v := .pointer (some ⟨cl, 0, none⟩)) rfl
  have hlt := h.lt
  have hO := who_any w.drew x who (h.drew.cell 0 rfl)
  have hN := ig_new w.drew cl who P
  have HG : Hid (((igFl who cl).I (igPM P)).Good (igPM P)) := Fl.good (ig_laws who P T G cl hp hTT)
  have HH : Hid (Blk w x (wwCells who nx cl ct pr st) 200) := h
  clear h hp hTT
  go_enter Tryz.func251, Tryz.ntmps251
  go_wp2_with fail
  go_region_with (first | (go_at_call 144; refine hO.mono ?_; rintro e w3 ⟨rfl, rfl⟩) | (go_at_call 268; refine hN.mono ?_; rintro e w4 ⟨y, L, rfl, k1, k2, k3, k4⟩; have h4 : Blk w4 x (wwCells who nx cl ct pr st) 200 := HH.out.but (But.of_below (l := []) (show Below w.heap.size w w4 from (Below.refl _ _).drew.trans k2)) (by simp); have c8 := h4.cell 4 (v := .pointer pr) rfl; have f8 := h4.fro 4))
  all_goals
    have k3' : ∀ k ∈ L, w.heap.size ≤ k := k3
    have k4' : w.heap.size ≤ y := k4
    have hB4 : But [x] w (w4.setCell ⟨x, 4, none⟩ (.pointer (some ⟨y, 0, none⟩))) := (((But.refl [x] w).drew).trans (But.of_below k2)).set (g := x) (.inl (by simp)) 4 _
    have h5 : Blk (w4.setCell ⟨x, 4, none⟩ (.pointer (some ⟨y, 0, none⟩))) x (wwCells who nx cl ct (some ⟨y, 0, none⟩) st) 200 := h4.set 4 _
    have hI5 : (igFl who cl).I (igPM P) (w4.setCell ⟨x, 4, none⟩ (.pointer (some ⟨y, 0, none⟩))) y .ld L := HG.out.keep k1 ((But.refl [x] w4).set (g := x) (.inl (by simp)) 4 _) (fun k hk => by have := k3' k hk; simp; omega)
    generalize (w4.setCell ⟨x, 4, none⟩ (.pointer (some ⟨y, 0, none⟩))) = V at *
    obtain ⟨a, ha⟩ : ∃ a, V.cell? ⟨y, 1, none⟩ = some (.pointer (some a)) := by
      obtain ⟨nx, q1, q2⟩ := HG.out.next hI5
      cases nx with
      | none => cases q2
      | some a => exact ⟨a, q1⟩
    have c8' := h5.cell 4 (v := .pointer (some ⟨y, 0, none⟩)) rfl
    have hf := frun_ipg V.drew x y _ 200 (.func (.func 269) #[.pointer (some ⟨x, 0, none⟩)] #[]) a h5.drew (by simp [wwCells]) (.some _ _ _) (by omega) (by simpa using ha)
    clear hO hN c2 k1 k2 k3 k4 h4 c8 f8 HH
    go_wp2_with fail
    go_region_with (first | (go_at_call 98; refine hf.mono ?_; rintro e w5 ⟨⟨v, rfl⟩, q, g, hC⟩))
    all_goals
      have hlL := HG.out.lt hI5
      have f1 : V.heap.size ≤ q := hC.at'.fresh
      have f2 : V.heap.size ≤ g := hC.fresh
      have hI6 := HG.out.keep hI5 (((But.refl [x] V).drew).trans hC.at'.but) (fun k hk => by have := k3' k hk; simp; omega)
      have hC6 := hC.before ((But.refl [x] V).drew |> hB4.trans)
      have hq : q ∉ L ∧ g ∉ L := ⟨fun hm => by have := hlL q hm; omega, fun hm => by have := hlL g hm; omega⟩
      clear hf hC c8' hB4 h5 hI5 HG
      go_wp2_with fail
      go_end0
      exact ⟨⟨_, rfl⟩, y, q, g, L, hC6, hI6, k3', hq.1, hq.2⟩
theorem ww_begin_none (z : Nat) (hz : pr = some ⟨z, 0, none⟩) (hT : Calls Tryz.prog 138 #[.pointer (some ⟨z, 0, none⟩)] w fun e w' => e = .returned (.int .i64 (-1)) ∧ w = w') :
    Calls Tryz.prog 269 #[.pointer (some ⟨x, 0, none⟩)] w fun e w' => (∃ v, e = .returned v) ∧ Came w w' x (wwCells who nx cl ct pr st) 200 (axSt 14 1) (.untold 284) := by
  have H := wk_need w x cl _ 200 h (by simp [wwCells]) rfl 284
  subst hz
  have c4 := h.cell 4 (v := .pointer (some ⟨z, 0, none⟩)) rfl
  clear h
  go_enter Tryz.func269, Tryz.ntmps269
  go_wp2_with fail
  go_at_call 138; refine hT.mono ?_; rintro e w1 ⟨rfl, rfl⟩
  clear hT
  go_wp2_with fail
  go_at_call 240; refine H.mono ?_; rintro e w1 ⟨⟨u, rfl⟩, hC⟩
  clear H
  go_wp2_with fail
  refine bodyPost_ret (results_none rfl _ _ _) rfl ?_
  exact ⟨⟨_, rfl⟩, hC⟩
set_option maxHeartbeats 4000000 in
theorem ww_begin_some (z : Nat) (v P T G : Int) (hz : pr = some ⟨z, 0, none⟩) (hv : v ≠ -1) (hT : ∀ Y, But [x] w Y → Calls Tryz.prog 138 #[.pointer (some ⟨z, 0, none⟩)] Y fun e w' => e = .returned (.int .i64 v) ∧ Y = w') (hw : 0 ≤ who ∧ who ≤ 1000000) (hp : 0 ≤ P ∧ P ≤ 64) (hTT : 0 ≤ T ∧ T ≤ 65536) :
    Calls Tryz.prog 269 #[.pointer (some ⟨x, 0, none⟩)] w fun e w' => (∃ v, e = .returned v) ∧ ∃ y q b L, CameBox w w' x (wwCells who nx cl false pr (some ⟨y, 0, none⟩)) 200 (fun v => comCells 0 0 0 0 0 false (.iface 153 (.pointer (some ⟨y, 0, none⟩))) v false false) .nilFunc q b ∧ (wsCp who P T G v true false cl).I w' y (.get .ld) L ∧ (∀ k ∈ L, w.heap.size ≤ k) ∧ q ∉ L ∧ b ∉ L := by
  have hd : (v == -1) = false := by simpa using hv
  subst hz
  have c4 := h.cell 4 (v := .pointer (some ⟨z, 0, none⟩)) rfl
  have c3 := h.cell 3 (v := .bool ct) rfl
  have f3 := h.fro 3
  have h' : Blk (w.setCell ⟨x, 3, none⟩ (.bool false)) x (wwCells who nx cl false (some ⟨z, 0, none⟩) st) 200 := h.set 3 (.bool false)
  have hB : But [x] w (w.setCell ⟨x, 3, none⟩ (.bool false)) := (But.refl _ w).set (g := x) (.inl (by simp)) 3 _
  have hT0 := hT w (But.refl _ _)
  generalize hV : (w.setCell ⟨x, 3, none⟩ (.bool false)) = V at h' hB
  have hlt : x < V.heap.size := h'.lt
  have c2 := h'.cell 2 (v := .pointer (some ⟨cl, 0, none⟩)) rfl
  have c4' := h'.cell 4 (v := .pointer (some ⟨z, 0, none⟩)) rfl
  have hO := who_any V.drew x who (h'.drew.cell 0 rfl)
  have hT1 := hT V.drew hB.drew
  have hN := ws_new_at V.drew cl who v P T G true false hp hTT
  have HG : Hid (((wsCp who P T G v true false cl).I).Good (wsPM P T v true false)) := Cp.good (ws_laws hw hp hTT)
  have HH : Hid (Blk V x (wwCells who nx cl false (some ⟨z, 0, none⟩) st) 200) := h'
  have HB : Hid (But [x] w V) := hB
  generalize wsCp who P T G v true false cl = C at *
  have HM : Hid ((wsPM P T v true false).ax (.get .ld) = some (axLd 11)) := rfl
  generalize wsPM P T v true false = M at *
  clear h h' hB hT hv hw hp hTT
  go_enter Tryz.func269, Tryz.ntmps269
  go_wp2_with fail
  go_at_call 138; refine hT0.mono ?_; rintro e w1 ⟨rfl, rfl⟩
  clear hT0
  go_wp2_with fail
  try rw [hV]
  clear hV c3 f3 c4
  go_region_with (first | (go_at_call 144; refine hO.mono ?_; rintro e w3 ⟨rfl, rfl⟩) | (go_at_call 138; refine hT1.mono ?_; rintro e w3 ⟨rfl, rfl⟩) | (go_at_call 207; refine hN.mono ?_; rintro e w4 ⟨y, L, rfl, k1, k2, k3, k4⟩; have h4 : Blk w4 x (wwCells who nx cl false (some ⟨z, 0, none⟩) st) 200 := HH.out.but (But.of_below (l := []) (show Below V.heap.size V w4 from (Below.refl _ _).drew.trans k2)) (by simp); have c8 := h4.cell 5 (v := .pointer st) rfl; have f8 := h4.fro 5))
  all_goals
    have k3' : ∀ k ∈ L, V.heap.size ≤ k := k3
    have k4' : V.heap.size ≤ y := k4
    have hB4 : But [x] V (w4.setCell ⟨x, 5, none⟩ (.pointer (some ⟨y, 0, none⟩))) := (((But.refl [x] V).drew).trans (But.of_below k2)).set (g := x) (.inl (by simp)) 5 _
    have h5 : Blk (w4.setCell ⟨x, 5, none⟩ (.pointer (some ⟨y, 0, none⟩))) x (wwCells who nx cl false (some ⟨z, 0, none⟩) (some ⟨y, 0, none⟩)) 200 := h4.set 5 _
    have hI5 : C.I (w4.setCell ⟨x, 5, none⟩ (.pointer (some ⟨y, 0, none⟩))) y (.get .ld) L := HG.out.keep k1 ((But.refl [x] w4).set (g := x) (.inl (by simp)) 5 _) (fun k hk => by have := k3' k hk; simp; omega)
    generalize (w4.setCell ⟨x, 5, none⟩ (.pointer (some ⟨y, 0, none⟩))) = U at *
    obtain ⟨a, ha⟩ : ∃ a, U.cell? ⟨y, 1, none⟩ = some (.pointer (some a)) := by
      obtain ⟨nx, q1, q2⟩ := HG.out.next hI5
      rw [HM.out] at q2
      cases nx with
      | none => cases q2
      | some a => exact ⟨a, q1⟩
    have c8' := h5.cell 5 (v := .pointer (some ⟨y, 0, none⟩)) rfl
    have hf := frun_wst U.drew x y _ 200 .nilFunc a h5.drew (by simp [wwCells]) .none (by omega) (by simpa using ha)
    clear hO hT1 hN c2 c4' k1 k2 k3 k4 h4 c8 f8 HH
    go_wp2_with fail
    go_region_with (first | (go_at_call 98; refine hf.mono ?_; rintro e w5 ⟨⟨v, rfl⟩, q, g, hC⟩))
    all_goals
      have hlL := HG.out.lt hI5
      have f1 : U.heap.size ≤ q := hC.at'.fresh
      have f2 : U.heap.size ≤ g := hC.fresh
      have hVw : w.heap.size ≤ V.heap.size := HB.out.size
      have hI6 := HG.out.keep hI5 (((But.refl [x] U).drew).trans hC.at'.but) (fun k hk => by have := k3' k hk; simp; omega)
      have hC6 := (hC.before ((But.refl [x] U).drew |> hB4.trans)).before HB.out
      have hq : q ∉ L ∧ g ∉ L := ⟨fun hm => by have := hlL q hm; omega, fun hm => by have := hlL g hm; omega⟩
      have k5 : ∀ k ∈ L, w.heap.size ≤ k := fun k hk => Nat.le_trans hVw (k3' k hk)
      clear hf hC c8' hB4 h5 hI5 HG HB
      go_wp2_with fail
      go_end0
      exact ⟨⟨_, rfl⟩, y, q, g, L, hC6, hI6, k5, hq.1, hq.2⟩
end
set_option maxHeartbeats 2000000 in
theorem ww_new (w : World) (cl : Nat) (who : Int) :
    Calls Tryz.prog 198 #[.pointer (some ⟨cl, 0, none⟩), .int .i64 who] w fun e w' => ∃ x q L, e = .returned (.pointer (some ⟨x, 0, none⟩)) ∧ Blk w' x (wwCells who (some ⟨q, 0, none⟩) cl false none none) 200 ∧ Com w' x q (axLd 13) (.told 218) L ∧ x ∉ L ∧ (∀ k ∈ L, w.heap.size ≤ k) ∧ Below w.heap.size w w' ∧ w.heap.size ≤ x := by
  have hB := Blk.new w #[.int .i64 0, .pointer none, .pointer none, .bool false, .pointer none, .pointer none] 200
  have hb : Below w.heap.size w (w.alloc (.cells #[.int .i64 0, .pointer none, .pointer none, .bool false, .pointer none, .pointer none] 200)) := (Below.refl _ _).alloc (Nat.le_refl _) _
  have hO := wk_of _ w.heap.size cl who _ (wwCells who none cl false none none) 200 hB (by simp) rfl
  have HH : Hid (Below w.heap.size w (w.alloc (.cells #[.int .i64 0, .pointer none, .pointer none, .bool false, .pointer none, .pointer none] 200))) := hb
  have hsz := World.size_alloc w (.cells #[.int .i64 0, .pointer none, .pointer none, .bool false, .pointer none, .pointer none] 200)
  clear hB hb
  go_enter Tryz.func198, Tryz.ntmps198
  go_wp2_with fail
  go_at_call 217; refine hO.mono ?_; rintro e w1 ⟨⟨v, rfl⟩, h1, h2, h3⟩
  have hb1 : Hid (Below w.heap.size w w1) := HH.out.trans (h2.below (by simp) (by rw [hsz]; omega))
  have hlt := h1.lt
  have hW1 := il_word w1.drew cl 13 (by omega)
  have hL := came_load w1.drew w.heap.size _ 200 h1.drew (by simp [wwCells]) 13 218
  have h3' : w1.heap.size = w.heap.size + 1 := by rw [h3, hsz]
  clear hO h2 HH h1 h3 hsz
  go_wp2_with fail
  go_region_with (first | (go_at_call 68; refine hW1.mono ?_; rintro e w2 ⟨rfl, rfl⟩) | (go_at_call 67; refine hL.mono ?_; rintro e w2 ⟨⟨v2, rfl⟩, hC⟩))
  all_goals
    obtain ⟨q, Lc, c1, c2, c3, c4⟩ := hC.undrew
    have hF : Hid (Blk w2 w.heap.size (wwCells who (some ⟨q, 0, none⟩) cl false none none) 200 ∧ Com w2 w.heap.size q (axLd 13) (.told 218) Lc ∧ w.heap.size ∉ Lc ∧ (∀ k ∈ Lc, w.heap.size ≤ k) ∧ Below w.heap.size w w2) := by
      refine ⟨c1, c2, fun hm => by have := c4 _ hm; omega, fun k hk => by have := c4 k hk; omega, hb1.out.trans (c3.below (by simp) hb1.out.size)⟩
    clear hL hW1 hC c1 c2 c3 c4 hb1
    go_wp2_with fail
    go_ret
    exact ⟨w.heap.size, q, Lc, rfl, hF.out.1, hF.out.2.1, hF.out.2.2.1, hF.out.2.2.2.1, hF.out.2.2.2.2, Nat.le_refl _⟩
end Go.Proofs.YtfdpikkinlljlaaGreat
