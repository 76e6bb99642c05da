/- Readying, and giving way: what the functions of both machines do. -/
import Derived.Test.YtfdpikkinlljlaaGreatHMAA
import Derived.Test.YtfdpikkinlljlaaGreatHNAJ
import Derived.Test.YtfdpikkinlljlaaGreatHNAN
import Derived.Test.YtfdpikkinlljlaaGreatHNAC
import Derived.Laws.EntriesVeiled
namespace Go.Proofs.YtfdpikkinlljlaaGreat
open Go Go.RowKit
set_option linter.unusedVariables false
set_option maxRecDepth 100000
set_option linter.unusedSimpArgs false
set_option linter.unusedSectionVars false

theorem ryEqIn58 (w : World) (fuel : Nat) (f : Fn) (a b : Array Value) : (Op.equalIn (fuel + 1) 58 (.func f a b) .nilFunc).run Tryz.prog w = .ok false w := by
  simp only [Op.equalIn, Sem.run_bind, run_underlying Tryz.underlying58, Result.andThen_ok]
  rfl
theorem ry_eq (w : World) (f : Fn) (a b : Array Value) : (binOp .eql 58 (.func f a b) .nilFunc).run Tryz.prog w = .ok (.bool false) w := by
  have h := ryEqIn58 w 9999 f a b
  simp only [binOp]
  simp [Op.equal, Op.maxDepth, h]
theorem ryNilEqIn (w : World) (fuel : Nat) : (Op.equalIn (fuel + 1) 58 .nilFunc .nilFunc).run Tryz.prog w = .ok true w := by
  simp only [Op.equalIn, Sem.run_bind, run_underlying Tryz.underlying58, Result.andThen_ok]
  rfl
theorem ry_nilEq (w : World) : (binOp .eql 58 .nilFunc .nilFunc).run Tryz.prog w = .ok (.bool true) w := by
  have h := ryNilEqIn w 9999
  simp only [binOp]
  simp [Op.equal, Op.maxDepth, h]
def ryPSub (who P T G p : Int) (cl : Nat) : Sub := ⟨RpT, rpPM who P p (fun y => wd (20 + P * 264 + T * 3) G 2 y 1), (rpCp who (fun y => wd (20 + P * 264 + T * 3) G 2 y 1) P T G p cl).I, Rd.lay cl P T G, 233, 350⟩
def ryWSub (who P T G : Int) (cl : Nat) : Sub := ⟨WwT, wwPM P T who, (wwCp who P T G cl).I, Rd.lay cl P T G, 117, 333⟩
/-- A machine was made, is held, and runs. -/
def RyHeld (S : Sub) (pt : S.τ) (W w' : World) (x : Nat) (cs : Nat → Array Value) (T : TypeId) (fv : Value) : Prop := ∃ y q b L, CameBox W w' x (cs y) T (fun v => comCells 0 0 0 0 0 false (.iface S.D (.pointer (some ⟨y, 0, none⟩))) v false false) fv q b ∧ S.I w' y pt L ∧ (∀ k ∈ L, W.heap.size ≤ k) ∧ q ∉ L ∧ b ∉ L
theorem RyHeld.before {S : Sub} {pt : S.τ} {W W0 w' : World} {x : Nat} {cs : Nat → Array Value} {T : TypeId} {fv : Value} (h : RyHeld S pt W w' x cs T fv) (hB : But [x] W0 W) : RyHeld S pt W0 w' x cs T fv := by
  obtain ⟨y, q, b, L, h1, h2, h3, h4⟩ := h
  exact ⟨y, q, b, L, h1.before hB, h2, fun k hk => Nat.le_trans hB.size (h3 k hk), h4⟩
theorem ry_of (w : World) (x c : Nat) (who p : Int) (cs cs' : Array Value) (T : TypeId) (h : Blk w x cs T) (hs : 5 ≤ cs.size) (hcs : ((cs.setIfInBounds 2 (.pointer (some ⟨c, 0, none⟩))).setIfInBounds 3 (.int .i64 p)).setIfInBounds 0 (.int .i64 who) = cs') :
    Calls Tryz.prog 66 #[.pointer (some ⟨x, 0, none⟩), .pointer (some ⟨c, 0, none⟩), .int .i64 who, .int .i64 p] w fun e w' => (∃ v, e = .returned v) ∧ Blk w' x cs' T ∧ But [x] w w' ∧ w'.heap.size = w.heap.size := by
  have f2 := h.fro 2
  have f3 := h.fro 3
  have hh2 := (h.set 2 (.pointer (some ⟨c, 0, none⟩))).set 3 (.int .i64 p)
  obtain ⟨V, hV⟩ : ∃ V, (w.setCell ⟨x, 2, none⟩ (.pointer (some ⟨c, 0, none⟩))).setCell ⟨x, 3, none⟩ (.int .i64 p) = V := ⟨_, rfl⟩
  have hB0 : But [x] w V := by rw [← hV]; exact ((But.refl _ w).set (g := x) (.inl (by simp)) 2 _).set (g := x) (.inl (by simp)) 3 _
  have hsz : V.heap.size = w.heap.size := by rw [← hV, size_set, size_set]
  rw [hV] at hh2
  have hF := fof_any V x _ T who hh2 (by simp; omega)
  obtain ⟨u2, hu2⟩ : ∃ u, w.cell? ⟨x, 2, none⟩ = some u := ⟨_, h.cell 2 (Array.getElem?_eq_getElem (by omega))⟩
  obtain ⟨u3, hu3⟩ : ∃ u, w.cell? ⟨x, 3, none⟩ = some u := ⟨_, h.cell 3 (Array.getElem?_eq_getElem (by omega))⟩
  have HH : Hid (Blk V x _ T ∧ But [x] w V ∧ V.heap.size = w.heap.size) := ⟨hh2, hB0, hsz⟩
  clear h hh2 hB0 hs hsz
  go_enter Tryz.func66, Tryz.ntmps66
  go_wp2_with fail
  try rw [hV]
  go_at_call 97; refine hF.mono ?_; rintro e w3 ⟨⟨v, rfl⟩, hw3⟩
  have h3 : Blk w3 x cs' T := by rw [hw3, ← hcs]; exact HH.out.1.set 0 _
  have hB3 : But [x] w w3 := by rw [hw3]; exact HH.out.2.1.set (g := x) (.inl (by simp)) 0 _
  have hs3 : w3.heap.size = w.heap.size := by rw [hw3, size_set]; exact HH.out.2.2
  clear hF hw3 HH hcs hu2 hu3 f2 f3 hV
  go_wp2_with fail
  go_end0
  exact ⟨⟨_, rfl⟩, h3, hB3, hs3⟩
section
variable (w : World) (x cl : Nat) (who p g : Int) (cs : Array Value) (T : TypeId) (h : Blk w x cs T)
include h
theorem ry_status (h2 : cs[2]? = some (.pointer (some ⟨cl, 0, none⟩))) (h4 : cs[4]? = some (.int .i64 g)) (P T' G : Int) (hl : Lay w cl P T' G) (hp : 0 ≤ P ∧ P ≤ 64) (hT : 0 ≤ T' ∧ T' ≤ 65536) (hG : 0 ≤ G ∧ G ≤ 65536) :
    Calls Tryz.prog 89 #[.pointer (some ⟨x, 0, none⟩)] w fun e w' => e = .returned (.int .i64 (wd (20 + P * 264 + T' * 3) G 2 g 0)) ∧ Below w.heap.size w w' := by
  have hD : Hid (Below w.heap.size w w.drew) := (Below.refl _ _).drew
  have hGw := g_word cl P T' G g 0 w.drew (hl.below hD.out hl.lt) hp hT hG.2
  have hH : Hid (w.drew.cell? ⟨x, 2, none⟩ = some (.pointer (some ⟨cl, 0, none⟩)) ∧ w.drew.cell? ⟨x, 4, none⟩ = some (.int .i64 g)) := ⟨h.drew.cell 2 h2, h.drew.cell 4 h4⟩
  have KB : Hid (∀ w4, Below w.drew.heap.size w.drew w4 → w4.cell? ⟨x, 2, none⟩ = some (.pointer (some ⟨cl, 0, none⟩)) ∧ w4.cell? ⟨x, 4, none⟩ = some (.int .i64 g)) := fun w4 k => ⟨(h.drew.but (But.of_below (l := []) k) (by simp)).cell 2 h2, (h.drew.but (But.of_below (l := []) k) (by simp)).cell 4 h4⟩
  clear h hl hp hT hG h2 h4
  go_enter Tryz.func89, Tryz.ntmps89
  go_wp2_with fail
  go_region_held3 (fun w' => w'.cell? ⟨x, 2, none⟩ = some (.pointer (some ⟨cl, 0, none⟩)) ∧ w'.cell? ⟨x, 4, none⟩ = some (.int .i64 g)) (first | exact hH.out | exact KB.out _ ‹_›) (first | (go_at_call 141; refine hGw.mono ?_; rintro e x3 ⟨rfl, g3⟩))
  all_goals
    have h9 : Below w.heap.size w x3 := hD.out.trans g3
    clear hGw hH KB hD g3
    go_wp2_with fail
    go_ret
    exact ⟨rfl, h9⟩
set_option maxHeartbeats 4000000 in
theorem ry_lay (hs : 7 ≤ cs.size) (h0 : cs[0]? = some (.int .i64 who)) (h2 : cs[2]? = some (.pointer (some ⟨cl, 0, none⟩))) (h3 : cs[3]? = some (.int .i64 p)) (h4 : cs[4]? = some (.int .i64 g)) (next : Bool) (P T' G : Int) (hw : 0 ≤ who ∧ who ≤ 1000000) (hl : Lay w cl P T' G) (hp : 0 ≤ P ∧ P ≤ 64) (hT : 0 ≤ T' ∧ T' ≤ 65536) (hG : 0 ≤ G ∧ G ≤ 65536) :
    Calls Tryz.prog 142 #[.pointer (some ⟨x, 0, none⟩), .bool next] w fun e w' => (∃ v, e = .returned v) ∧ RyHeld (ryPSub who P T' G p cl) (rpStart g next) w w' x (fun y => cs.setIfInBounds 5 (.func (.func 178) #[.pointer (some ⟨y, 0, none⟩)] #[])) T (.func (.func 179) #[.pointer (some ⟨x, 0, none⟩)] #[]) := by
  have hD : Hid (Below w.heap.size w w.drew) := (Below.refl _ _).drew
  have hlt := h.lt
  have hO := who_any w.drew x who (h.drew.cell 0 h0)
  have hN := rp_new_at w.drew cl who p g P T' G (fun y => wd (20 + P * 264 + T' * 3) G 2 y 1) next (hl.below hD.out hl.lt) hp
  have HG : Hid ((rpCp who (fun y => wd (20 + P * 264 + T' * 3) G 2 y 1) P T' G p cl).I.Good (rpPM who P p (fun y => wd (20 + P * 264 + T' * 3) G 2 y 1))) := rp_good hw hp hT hG
  obtain ⟨gl, hgl⟩ : ∃ gl, (fun y => wd (20 + P * 264 + T' * 3) G 2 y 1) = gl := ⟨_, rfl⟩
  rw [hgl] at hN HG
  have HGL : Hid ((fun y => wd (20 + P * 264 + T' * 3) G 2 y 1) = gl) := hgl
  clear hgl
  have hH : Hid (w.drew.cell? ⟨x, 2, none⟩ = some (.pointer (some ⟨cl, 0, none⟩)) ∧ w.drew.cell? ⟨x, 3, none⟩ = some (.int .i64 p) ∧ w.drew.cell? ⟨x, 4, none⟩ = some (.int .i64 g)) := ⟨h.drew.cell 2 h2, h.drew.cell 3 h3, h.drew.cell 4 h4⟩
  have HB : Hid (∀ w4, Below w.drew.heap.size w.drew w4 → Blk w4 x cs T) := fun w4 k => h.drew.but (But.of_below (l := []) k) (by simp)
  have KB : Hid (∀ w4, Below w.drew.heap.size w.drew w4 → w4.cell? ⟨x, 2, none⟩ = some (.pointer (some ⟨cl, 0, none⟩)) ∧ w4.cell? ⟨x, 3, none⟩ = some (.int .i64 p) ∧ w4.cell? ⟨x, 4, none⟩ = some (.int .i64 g)) := fun w4 k => ⟨(HB.out w4 k).cell 2 h2, (HB.out w4 k).cell 3 h3, (HB.out w4 k).cell 4 h4⟩
  have H5 : Hid (∃ u, cs[5]? = some u) := ⟨_, Array.getElem?_eq_getElem (by omega)⟩
  have HS : Hid (2 ≤ (cs.setIfInBounds 5 (.bool true)).size ∧ 7 ≤ cs.size) := ⟨by simp; omega, hs⟩
  clear h hl hp hT hG hw h0 h2 h3 h4 hs
  go_enter Tryz.func142, Tryz.ntmps142
  go_wp2_with fail
  go_region_held3 (fun w' => w'.cell? ⟨x, 2, none⟩ = some (.pointer (some ⟨cl, 0, none⟩)) ∧ w'.cell? ⟨x, 3, none⟩ = some (.int .i64 p) ∧ w'.cell? ⟨x, 4, none⟩ = some (.int .i64 g)) (first | exact hH.out | exact KB.out _ ‹_›) (first | (go_at_call 144; refine hO.mono ?_; rintro e w3 ⟨rfl, rfl⟩) | (go_at_call 177; refine hN.mono ?_; rintro e w4 ⟨y, L, rfl, k1, k2, k3, k4⟩))
  all_goals
    have h4 := HB.out _ k2
    have k3' : ∀ k ∈ L, w.heap.size ≤ k := fun k hk => k3 k hk
    have k4' : w.heap.size ≤ y := k4
    obtain ⟨u5, hu5⟩ := H5.out
    have c5 := h4.cell 5 hu5
    have f5 := h4.fro 5
    have hB4 : But [x] w (w4.setCell ⟨x, 5, none⟩ (.func (.func 178) #[.pointer (some ⟨y, 0, none⟩)] #[])) := (((But.refl [x] w).drew).trans (But.of_below k2)).set (g := x) (.inl (by simp)) 5 _
    have h5 : Blk (w4.setCell ⟨x, 5, none⟩ (.func (.func 178) #[.pointer (some ⟨y, 0, none⟩)] #[])) x (cs.setIfInBounds 5 (.func (.func 178) #[.pointer (some ⟨y, 0, none⟩)] #[])) T := h4.set 5 _
    have hI5 : (rpCp who gl P T' G p cl).I (w4.setCell ⟨x, 5, none⟩ (.func (.func 178) #[.pointer (some ⟨y, 0, none⟩)] #[])) y (rpStart g next) L := HG.out.keep k1 ((But.refl [x] w4).set (g := x) (.inl (by simp)) 5 _) (fun k hk => by have := k3' k hk; simp; omega)
    obtain ⟨V, hV⟩ : ∃ V, (w4.setCell ⟨x, 5, none⟩ (.func (.func 178) #[.pointer (some ⟨y, 0, none⟩)] #[])) = V := ⟨_, rfl⟩
    rw [hV] at hB4 h5 hI5
    obtain ⟨a, ha⟩ : ∃ a, V.cell? ⟨y, 1, none⟩ = some (.pointer (some a)) := by
      obtain ⟨nx, q1, q2⟩ := HG.out.next hI5
      cases nx with
      | none => cases next <;> cases q2
      | some a => exact ⟨a, q1⟩
    have hf := frun_rput V x y _ T (.func (.func 179) #[.pointer (some ⟨x, 0, none⟩)] #[]) a h5 (by have := HS.out.2; rw [Array.size_setIfInBounds]; omega) (.some _ _ _) (by omega) ha
    clear hO hN k1 k2 k3 k4 h4 hu5 H5 hH KB HB
    go_wp2_with fail
    try rw [hV]
    clear hV c5 f5
    go_at_call 98; refine hf.mono ?_; rintro e w5 ⟨⟨v, rfl⟩, q, b, hC⟩
    have hlL := HG.out.lt hI5
    have f1 : V.heap.size ≤ q := hC.at'.fresh
    have f2 : V.heap.size ≤ b := hC.fresh
    have hI6 := HG.out.keep hI5 hC.at'.but (fun k hk => by have := k3' k hk; simp; omega)
    have hC6 := hC.before hB4
    have hq : q ∉ L ∧ b ∉ L := ⟨fun hm => by have := hlL q hm; omega, fun hm => by have := hlL b hm; omega⟩
    clear hf hC hB4 h5 hI5 HG
    go_wp2_with fail
    go_end0
    have egl := HGL.out
    subst egl
    exact ⟨⟨_, rfl⟩, y, q, b, L, hC6, hI6, k3', hq.1, hq.2⟩
set_option maxHeartbeats 4000000 in
theorem ry_wakeSome (hs : 7 ≤ cs.size) (h0 : cs[0]? = some (.int .i64 who)) (h2 : cs[2]? = some (.pointer (some ⟨cl, 0, none⟩))) (P T' G : Int) (hw : 0 ≤ who ∧ who ≤ 1000000) (hp : 0 ≤ P ∧ P ≤ 64) (hT : 0 ≤ T' ∧ T' ≤ 65536) :
    Calls Tryz.prog 179 #[.pointer (some ⟨x, 0, none⟩)] w fun e w' => (∃ v, e = .returned v) ∧ RyHeld (ryWSub who P T' G cl) WwT.ld w w' x (fun y => cs.setIfInBounds 6 (.pointer (some ⟨y, 0, none⟩))) T .nilFunc := by
  have c2 := h.cell 2 h2
  have hlt := h.lt
  have hO := who_any w.drew x who (h.drew.cell 0 h0)
  have hN := ww_new_at w.drew cl who P T' G
  have HG : Hid ((wwCp who P T' G cl).I.Good (wwPM P T' who)) := Cp.good (ww_laws hw hp hT)
  have HH : Hid (Blk w x cs T) := h
  obtain ⟨u6, hu6⟩ : ∃ u, cs[6]? = some u := ⟨_, Array.getElem?_eq_getElem (by omega)⟩
  have HS : Hid (7 ≤ cs.size ∧ cs[6]? = some u6) := ⟨hs, hu6⟩
  clear h hw hp hT h0 h2 hs hu6
  go_enter Tryz.func179, Tryz.ntmps179
  go_wp2_with fail
  go_region_with (first | (go_at_call 144; refine hO.mono ?_; rintro e w3 ⟨rfl, rfl⟩) | (go_at_call 198; refine hN.mono ?_; rintro e w4 ⟨y, L, rfl, k1, k2, k3, k4⟩; have h4 : Blk w4 x cs T := HH.out.but (But.of_below (l := []) (show Below w.heap.size w w4 from (Below.refl _ _).drew.trans k2)) (by simp); have c8 := h4.cell 6 HS.out.2; have f8 := h4.fro 6))
  all_goals
    have k3' : ∀ k ∈ L, w.heap.size ≤ k := k3
    have k4' : w.heap.size ≤ y := k4
    have hB4 : But [x] w (w4.setCell ⟨x, 6, none⟩ (.pointer (some ⟨y, 0, none⟩))) := (((But.refl [x] w).drew).trans (But.of_below k2)).set (g := x) (.inl (by simp)) 6 _
    have h5 : Blk (w4.setCell ⟨x, 6, none⟩ (.pointer (some ⟨y, 0, none⟩))) x (cs.setIfInBounds 6 (.pointer (some ⟨y, 0, none⟩))) T := h4.set 6 _
    have hI5 : (wwCp who P T' G cl).I (w4.setCell ⟨x, 6, none⟩ (.pointer (some ⟨y, 0, none⟩))) y .ld L := HG.out.keep k1 ((But.refl [x] w4).set (g := x) (.inl (by simp)) 6 _) (fun k hk => by have := k3' k hk; simp; omega)
    generalize (w4.setCell ⟨x, 6, none⟩ (.pointer (some ⟨y, 0, none⟩))) = V at *
    obtain ⟨a, ha⟩ : ∃ a, V.cell? ⟨y, 1, none⟩ = some (.pointer (some a)) := by
      obtain ⟨nx, q1, q2⟩ := HG.out.next hI5
      cases nx with
      | none => cases q2
      | some a => exact ⟨a, q1⟩
    have c8' := h5.cell 6 (v := .pointer (some ⟨y, 0, none⟩)) (by rw [Array.getElem?_setIfInBounds, if_pos rfl, if_pos (by have := HS.out.1; omega)])
    have hf := frun_wwk V.drew x y _ T .nilFunc a h5.drew (by have := HS.out.1; rw [Array.size_setIfInBounds]; omega) .none (by omega) (by simpa using ha)
    clear hO hN c2 k1 k2 k3 k4 h4 c8 f8 HH
    go_wp2_with fail
    go_region_with (first | (go_at_call 98; refine hf.mono ?_; rintro e w5 ⟨⟨v, rfl⟩, q, b, hC⟩))
    all_goals
      have hlL := HG.out.lt hI5
      have f1 : V.heap.size ≤ q := hC.at'.fresh
      have f2 : V.heap.size ≤ b := hC.fresh
      have hI6 := HG.out.keep hI5 (((But.refl [x] V).drew).trans hC.at'.but) (fun k hk => by have := k3' k hk; simp; omega)
      have hC6 := hC.before ((But.refl [x] V).drew |> hB4.trans)
      have hq : q ∉ L ∧ b ∉ L := ⟨fun hm => by have := hlL q hm; omega, fun hm => by have := hlL b hm; omega⟩
      clear hf hC c8' hB4 h5 hI5 HG
      go_wp2_with fail
      go_end0
      exact ⟨⟨_, rfl⟩, y, q, b, L, hC6, hI6, k3', hq.1, hq.2⟩
theorem ry_held_nil (h5 : cs[5]? = some .nilFunc) : Calls Tryz.prog 81 #[.pointer (some ⟨x, 0, none⟩)] w fun e w' => e = .returned (.slice none 0 0) ∧ w = w' := by
  have c5 := h.cell 5 h5
  have hq := ry_nilEq
  clear h h5
  go_enter Tryz.func81, Tryz.ntmps81
  go_wp2_with fail
  go_ret
  exact ⟨rfl, rfl⟩
theorem ry_held_rput (y : Nat) (l : List Int) (h5 : cs[5]? = some (.func (.func 178) #[.pointer (some ⟨y, 0, none⟩)] #[])) (hH : Calls Tryz.prog 178 #[.pointer (some ⟨y, 0, none⟩)] w fun e w' => ∃ v, e = .returned v ∧ SeesL w' v l ∧ Below w.heap.size w w') : Calls Tryz.prog 81 #[.pointer (some ⟨x, 0, none⟩)] w fun e w' => ∃ v, e = .returned v ∧ SeesL w' v l ∧ Below w.heap.size w w' := by
  have c5 := h.cell 5 h5
  have hq := ry_eq
  clear h h5
  go_enter Tryz.func81, Tryz.ntmps81
  go_wp2_with fail
  go_at_call 178; refine hH.mono ?_; rintro e w1 ⟨v, rfl, h1, h2⟩
  clear hH
  go_wp2_with fail
  go_ret
  exact ⟨_, rfl, h1, h2⟩
theorem ry_held_globq (y : Nat) (l : List Int) (h5 : cs[5]? = some (.func (.func 145) #[.pointer (some ⟨y, 0, none⟩)] #[])) (hH : Calls Tryz.prog 145 #[.pointer (some ⟨y, 0, none⟩)] w fun e w' => ∃ v, e = .returned v ∧ SeesL w' v l ∧ Below w.heap.size w w') : Calls Tryz.prog 81 #[.pointer (some ⟨x, 0, none⟩)] w fun e w' => ∃ v, e = .returned v ∧ SeesL w' v l ∧ Below w.heap.size w w' := by
  have c5 := h.cell 5 h5
  have hq := ry_eq
  clear h h5
  go_enter Tryz.func81, Tryz.ntmps81
  go_wp2_with fail
  go_at_call 145; refine hH.mono ?_; rintro e w1 ⟨v, rfl, h1, h2⟩
  clear hH
  go_wp2_with fail
  go_ret
  exact ⟨_, rfl, h1, h2⟩
end
end Go.Proofs.YtfdpikkinlljlaaGreat
