/- The machines that get a goroutine and give one back: how the lock is had and given back, and the machine that gives one back. -/
import Derived.Test.YtkiehfcohdeogaaGreatRM3
namespace Go.Proofs.YtkiehfcohdeogaaGreat
open Go Go.RowKit
set_option linter.unusedVariables false
set_option maxRecDepth 100000
set_option linter.unusedSimpArgs false


/-- A release that is to be run. -/
structure RelM (w : World) (x q g : Nat) (who sv ow : Int) : Prop where
  m : Blk w x (relCells who (some ⟨q, 0, none⟩) sv) 205
  com : Blk w q (comCells 2 0 ow 0 0 false .nilIface (.func (.func 166) #[] #[.pointer (some ⟨g, 0, none⟩)]) false false) 177
  box : Blk w g #[.func (.func 188) #[.pointer (some ⟨x, 0, none⟩)] #[]] 1
  o1 : x < q
  o2 : x < g
  ne : g ≠ q
/-- An acquire that is to be run. -/
structure AcqM (w : World) (x q : Nat) (who tk sv ow : Int) : Prop where
  m : Blk w x (acqCells who (some ⟨q, 0, none⟩) sv ow 0 false) 189
  com : Blk w q (comCells 4 0 tk 0 1 false .nilIface (.func (.func 146) #[.pointer (some ⟨x, 0, none⟩)] #[]) false false) 177
  o1 : x < q
theorem RelM.but {w w' : World} {x q g c : Nat} {who sv ow : Int} (h : RelM w x q g who sv ow) (hb : But [c] w w') (h1 : c < x) : RelM w' x q g who sv ow :=
  ⟨h.m.but hb (by simp; omega), h.com.but hb (by have := h.o1; simp; omega), h.box.but hb (by have := h.o2; simp; omega), h.o1, h.o2, h.ne⟩
theorem AcqM.but {w w' : World} {x q c : Nat} {who tk sv ow : Int} (h : AcqM w x q who tk sv ow) (hb : But [c] w w') (h1 : c < x) : AcqM w' x q who tk sv ow :=
  ⟨h.m.but hb (by simp; omega), h.com.but hb (by have := h.o1; simp; omega), h.o1⟩
theorem CameBox.before {a w w' : World} {c q g : Nat} {cs : Array Value} {com : Value → Array Value} {fv : Value} {T : TypeId} (h : CameBox w w' c cs T com fv q g) (hb : But [c] a w) : CameBox a w' c cs T com fv q g :=
  ⟨⟨Nat.le_trans hb.size h.at'.fresh, h.at'.own, h.at'.com, hb.trans h.at'.but⟩, Nat.le_trans hb.size h.fresh, h.box, h.ne⟩

theorem release_any (w : World) (x c : Nat) (who : Int) (cs : Array Value) (T : TypeId) (h : Blk w x cs T) (hs : 2 ≤ cs.size) (h0 : cs[0]? = some (.int .i64 who)) (h2 : cs[2]? = some (.pointer (some ⟨c, 0, none⟩))) :
    Calls Tryz.prog 169 #[.pointer (some ⟨x, 0, none⟩)] w fun e w' => (∃ v, e = .returned v) ∧ ∃ x2 q2 g2 q g, CameBox w w' x cs T (fun v => comCells 0 0 0 0 0 false (.iface 201 (.pointer (some ⟨x2, 0, none⟩))) v false false) .nilFunc q g ∧ RelM w' x2 q2 g2 who (wd 0 2 3 1 1) (wd 0 2 3 1 2) ∧ w.heap.size ≤ x2 ∧ q2 < q ∧ q2 < g ∧ g2 < q ∧ g2 < g := by
  have hlt := h.lt
  have c2 := h.cell 2 h2
  have hO := who_any w.drew x who (h.drew.cell 0 h0)
  have hR := rel_new w.drew c 1 who
  generalize wd 0 2 3 1 1 = sv at *
  generalize wd 0 2 3 1 2 = ow at *
  have HH : Hid (Blk w x cs T ∧ 2 ≤ cs.size) := ⟨h, hs⟩
  clear h hs h0 h2
  go_enter Tryz.func169, Tryz.ntmps169
  go_wp2_with fail
  go_region_with (first | (go_at_call 156; refine hO.mono ?_; rintro e w3 ⟨rfl, rfl⟩) | (go_at_call 180; refine hR.mono ?_; rintro e w4 ⟨x2, q2, g2, rfl, k1, k2, k3, k4, k5, k6, k7, k8, k9⟩; have hB4 : But [x] w w4 := ((But.refl [x] w).drew).trans (But.of_below k4); have hf := frun_rel w4 x x2 cs T .nilFunc ⟨q2, 0, none⟩ (HH.out.1.but (But.of_below (l := []) (show Below w.heap.size w w4 from (Below.refl _ _).drew.trans k4)) (by simp)) HH.out.2 .none (by have : w.heap.size ≤ x2 := k5; omega) (k1.cell 1 rfl)) | (go_at_call 109; refine hf.mono ?_; rintro e w5 ⟨⟨v, rfl⟩, q, g, hC⟩))
  all_goals
    have k5' : w.heap.size ≤ x2 := k5
    have hM : RelM w4 x2 q2 g2 who sv ow := ⟨k1, k2, k3, k7, k8, k9⟩
    have hM5 := hM.but hC.at'.but (by omega)
    have hq2 := hM.com.lt
    have hg2 := hM.box.lt
    have hC5 := hC.before hB4
    have f1 := hC.at'.fresh
    have f2 := hC.fresh
    clear hO hR c2 hf k1 k2 k3 k4 k5 k6 k7 k8 k9 hC hB4 hM HH
    go_wp2_with fail
    go_end0
    exact ⟨⟨_, rfl⟩, x2, q2, g2, q, g, hC5, hM5, k5', by omega, by omega, by omega, by omega⟩

theorem acquire_any (w : World) (x c K : Nat) (who : Int) (cs cs0 first cap : Array Value) (T : TypeId) (h : Blk w x cs0 T) (hs : 3 ≤ cs0.size) (hcs : (cs0.setIfInBounds 2 (.pointer (some ⟨c, 0, none⟩))).setIfInBounds 0 (.int .i64 who) = cs) :
    Calls Tryz.prog 61 #[.pointer (some ⟨x, 0, none⟩), .pointer (some ⟨c, 0, none⟩), .int .i64 who, .func (.func K) first cap] w fun e w' => (∃ v, e = .returned v) ∧ ∃ x2 q2 q g, CameBox w w' x cs T (fun v => comCells 0 0 0 0 0 false (.iface 164 (.pointer (some ⟨x2, 0, none⟩))) v false false) (.func (.func K) first cap) q g ∧ AcqM w' x2 q2 who (wd 0 2 3 1 0) (wd 0 2 3 1 1) (wd 0 2 3 1 2) ∧ w.heap.size ≤ x2 ∧ q2 < q ∧ q2 < g := by
  have hlt := h.lt
  have f2 := h.fro 2
  have c2 : w.cell? ⟨x, 2, none⟩ = w.cell? ⟨x, 2, none⟩ := rfl
  have hh2 := h.set 2 (.pointer (some ⟨c, 0, none⟩))
  have hF := fof_any _ x _ T who hh2 (by simp; omega)
  have hB0 : But [x] w (w.setCell ⟨x, 2, none⟩ (.pointer (some ⟨c, 0, none⟩))) := (But.refl _ w).set (g := x) (.inl (by simp)) 2 _
  obtain ⟨u, hu⟩ : ∃ u, w.cell? ⟨x, 2, none⟩ = some u := ⟨_, h.cell 2 (Array.getElem?_eq_getElem hs)⟩
  have HH : Hid (Blk _ x _ T ∧ But [x] w _ ∧ 3 ≤ cs0.size) := ⟨hh2, hB0, hs⟩
  have hR := fun w => lock_new w c 1 who
  generalize wd 0 2 3 1 0 = tk at *
  generalize wd 0 2 3 1 1 = sv at *
  generalize wd 0 2 3 1 2 = ow at *
  clear h hh2 hB0 c2 hs
  go_enter Tryz.func61, Tryz.ntmps61
  go_wp2_with fail
  generalize w.setCell ⟨x, 2, none⟩ (.pointer (some ⟨c, 0, none⟩)) = W at *
  go_at_call 96; refine hF.mono ?_; rintro e w3 ⟨⟨v, rfl⟩, hw3⟩
  have h3 : Blk w3 x cs T := by rw [hw3, ← hcs]; exact HH.out.1.set 0 _
  have hB3 : But [x] w w3 := by rw [hw3]; exact HH.out.2.1.set (g := x) (.inl (by simp)) 0 _
  have hs3 : 2 ≤ cs.size := by rw [← hcs]; have := HH.out.2.2; simp; omega
  have hle := hB3.size
  have H3 : Hid (Blk w3 x cs T ∧ But [x] w w3 ∧ 2 ≤ cs.size) := ⟨h3, hB3, hs3⟩
  clear hF hw3 h3 hB3 hs3 HH hcs hu f2
  have hR := hR w3.drew
  go_wp2_with fail
  go_region_with (first | (go_at_call 110; refine hR.mono ?_; rintro e w4 ⟨x2, q2, rfl, k1, k2, k4, k5, k6, k7⟩; have hB4 : But [x] w w4 := H3.out.2.1.trans (((But.refl [x] w3).drew).trans (But.of_below k4)); have hf := frun_acq w4 x x2 cs T (.func (.func K) first cap) ⟨q2, 0, none⟩ (H3.out.1.but (But.of_below (l := []) (show Below w3.heap.size w3 w4 from (Below.refl _ _).drew.trans k4)) (by simp)) H3.out.2.2 (.some _ _ _) (by have : w3.heap.size ≤ x2 := k5; omega) (k1.cell 1 rfl)) | (go_at_call 109; refine hf.mono ?_; rintro e w5 ⟨⟨v, rfl⟩, q, g, hC⟩))
  all_goals
    have k5' : w3.heap.size ≤ x2 := k5
    have hM : AcqM w4 x2 q2 who tk sv ow := ⟨k1, k2, k7⟩
    have hM5 := hM.but hC.at'.but (by omega)
    have hq2 := hM.com.lt
    have hC5 := hC.before hB4
    have f1 := hC.at'.fresh
    have f2 := hC.fresh
    clear hR hf k1 k2 k4 k5 k6 k7 hC hB4 hM H3
    go_wp2_with fail
    go_end0
    exact ⟨⟨_, rfl⟩, x2, q2, q, g, hC5, hM5, by omega, by omega, by omega⟩

end Go.Proofs.YtkiehfcohdeogaaGreat
