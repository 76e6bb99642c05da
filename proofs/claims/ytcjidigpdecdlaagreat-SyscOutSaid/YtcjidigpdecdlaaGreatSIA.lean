/- The machine that gets a goroutine. -/
import Derived.Test.YtcjidigpdecdlaaGreatLkFl
import Derived.Test.YtcjidigpdecdlaaGreatRM3
namespace Go.Proofs.YtcjidigpdecdlaaGreat
open Go Go.RowKit
set_option linter.unusedVariables false
set_option maxRecDepth 100000
set_option linter.unusedSimpArgs false

theorem But.lowk {w w1 w2 : World} {x k : Nat} (h : But [x] w w1) (h2 : But [k] w1 w2) (hk : w.heap.size ≤ k) : But [x] w w2 :=
  ⟨h2.os.trans h.os, h2.tape.trans h.tape, h2.output.trans h.output, Nat.le_trans h.size h2.size, fun i hi hc => (h2.block i (Nat.lt_of_lt_of_le hi h.size) (by simp; omega)).trans (h.block i hi hc)⟩
/-- Behind j accesses: the run, the config, the result's block, and the hand's. -/
structure HdAt {σ : Type} (w y : World) (x : Nat) (A : Option Addr) (cap m : Nat) (g : Nat → Int) (M : PM σ) (s0 : σ) (j0 j : Nat) (t : σ) (Q : σ → Prop) (cf : Array Value) (HT : TypeId) (z : Array Value) (o : Nat) (oc : Array Value) : Prop where
  run : RunOn y x A cap m g (M.rj s0 g m j)
  syn : Syn M s0 g m j t Q
  but : But [x] w y
  cfg : Blk y w.heap.size cf 23
  res : Blk y (w.heap.size + 1) z HT
  out : Blk y o oc HT
  lo : w.heap.size + 1 < o
  x : x < w.heap.size
  far : GotFar A [w.heap.size + 1, o]
  le : j0 ≤ j
section
variable {σ : Type} {w y : World} {x : Nat} {A : Option Addr} {cap m : Nat} {g : Nat → Int} {M : PM σ} {s0 : σ} {j0 j : Nat} {t : σ} {Q : σ → Prop} {cf : Array Value} {HT : TypeId} {z : Array Value} {o : Nat} {oc : Array Value} (h : HdAt w y x A cap m g M s0 j0 j t Q cf HT z o oc)
include h
theorem HdAt.go {y2 : World} {j2 : Nat} {t2 : σ} {Q2 : σ → Prop} (hR : RunOn y2 x A cap m g (M.rj s0 g m j2)) (hS : Syn M s0 g m j2 t2 Q2) (hB : But [x] y y2) (hj : j ≤ j2) : HdAt w y2 x A cap m g M s0 j0 j2 t2 Q2 cf HT z o oc := by
  have hx := h.x
  have hl := h.lo
  exact ⟨hR, hS, h.but.trans hB, h.cfg.but hB (by simp; omega), h.res.but hB (by simp; omega), h.out.but hB (by simp; omega), hl, hx, h.far, Nat.le_trans h.le hj⟩
theorem HdAt.low {Y : World} (hY : Below y.heap.size y Y) : HdAt w Y x A cap m g M s0 j0 j t Q cf HT z o oc :=
  ⟨h.run.below hY, h.syn, h.but.trans (But.of_below hY), h.cfg.but (But.of_below (l := []) hY) (by simp), h.res.but (But.of_below (l := []) hY) (by simp), h.out.but (But.of_below (l := []) hY) (by simp), h.lo, h.x, h.far, h.le⟩
theorem HdAt.as {t2 : σ} {Q2 : σ → Prop} (hS : Syn M s0 g m j t2 Q2) : HdAt w y x A cap m g M s0 j0 j t2 Q2 cf HT z o oc :=
  ⟨h.run, hS, h.but, h.cfg, h.res, h.out, h.lo, h.x, h.far, h.le⟩
theorem HdAt.set (i : Nat) (v : Value) : HdAt w (y.setCell ⟨o, i, none⟩ v) x A cap m g M s0 j0 j t Q cf HT z o (oc.setIfInBounds i v) := by
  have hx := h.x
  have hl := h.lo
  have hU : But [o] y (y.setCell ⟨o, i, none⟩ v) := (But.refl _ y).set (g := o) (.inl (by simp)) i _
  exact ⟨h.run.but hU (by simp; omega) (h.far.of (by intro k hk; simp at hk ⊢; omega)), h.syn, But.lowk h.but hU (by omega), h.cfg.but hU (by simp; omega), h.res.but hU (by simp; omega), h.out.set i v, hl, hx, h.far, h.le⟩
/-- An access: what is so behind it. -/
theorem HdAt.step {y2 : World} {v : Int} (hK : Kept' y y2 x A cap m g M s0 j t Q v) : HdAt w y2 x A cap m g M s0 j0 (j + 1) (M.nx t v) (fun r => r = t ∨ Q r) cf HT z o oc :=
  h.go hK.run hK.syn hK.but (Nat.le_succ _)
theorem HdAt.stop : y.cell? ⟨x, 2, none⟩ = some (.bool (decide (m < j))) := by
  have := h.run.blk.cell 2 (v := .bool (M.rj s0 g m j).stop) rfl
  rw [rj_stop h.syn] at this
  exact this
/-- The result is laid. -/
theorem HdAt.ret {a b c : Value} {z0 z1 z2 : Value} (hz : z = #[z0, z1, z2]) : RunOn (((y.setCell ⟨w.heap.size + 1, 0, none⟩ a).setCell ⟨w.heap.size + 1, 1, none⟩ b).setCell ⟨w.heap.size + 1, 2, none⟩ c) x A cap m g (M.rj s0 g m j) ∧ But [x] w (((y.setCell ⟨w.heap.size + 1, 0, none⟩ a).setCell ⟨w.heap.size + 1, 1, none⟩ b).setCell ⟨w.heap.size + 1, 2, none⟩ c) ∧ (((y.setCell ⟨w.heap.size + 1, 0, none⟩ a).setCell ⟨w.heap.size + 1, 1, none⟩ b).setCell ⟨w.heap.size + 1, 2, none⟩ c).heap[w.heap.size + 1]? = some (.cells #[a, b, c] HT (0, 0)) := by
  subst hz
  have hx := h.x
  have hU : But [w.heap.size + 1] y (((y.setCell ⟨w.heap.size + 1, 0, none⟩ a).setCell ⟨w.heap.size + 1, 1, none⟩ b).setCell ⟨w.heap.size + 1, 2, none⟩ c) := (((But.refl _ y).set (g := w.heap.size + 1) (.inl (by simp)) 0 _).set (g := w.heap.size + 1) (.inl (by simp)) 1 _).set (g := w.heap.size + 1) (.inl (by simp)) 2 _
  have hZ := ((h.res.set 0 a).set 1 b).set 2 c
  exact ⟨h.run.but hU (by simp; omega) (h.far.of (by intro k hk; simp at hk ⊢; omega)), But.lowk h.but hU (by omega), hZ.heap⟩
end
end Go.Proofs.YtcjidigpdecdlaaGreat

namespace Go.Proofs.YtcjidigpdecdlaaGreat
open Go Go.RowKit
set_option linter.unusedVariables false
set_option maxRecDepth 100000
set_option linter.unusedSimpArgs false

/-- A machine N within another. -/
structure PmIn {σ τ : Type} (M : PM σ) (N : PM τ) (emb : τ → σ) : Prop where
  ax : ∀ t a, N.ax t = some a → M.ax (emb t) = some a
  nx : ∀ t a v, N.ax t = some a → M.nx (emb t) v = emb (N.nx t v)
theorem pm_in {σ : Type} (M : PM σ) : PmIn M M (fun t => t) := ⟨fun _ _ h => h, fun _ _ _ _ => rfl⟩
/-- Where it stopped within N. -/
def PmQ {σ τ : Type} (Q : σ → Prop) (N : PM τ) (emb : τ → σ) (q : σ) : Prop := Q q ∨ ∃ t a, N.ax t = some a ∧ q = emb t
theorem PmQ.next {σ τ : Type} {Q : σ → Prop} {N : PM τ} {emb : τ → σ} {t : τ} {a : Ax} {q : σ} (ha : N.ax t = some a) (h : q = emb t ∨ PmQ Q N emb q) : PmQ Q N emb q := h.elim (fun h => .inr ⟨t, a, ha, h⟩) id
end Go.Proofs.YtcjidigpdecdlaaGreat

namespace Go.Proofs.YtcjidigpdecdlaaGreat
open Go Go.RowKit
set_option linter.unusedVariables false
set_option maxRecDepth 100000
set_option linter.unusedSimpArgs false


/-- A release that is to be run. -/
structure RelM (w : World) (x q g : Nat) (who sv ow : Int) : Prop where
  m : Blk w x (relCells who (some ⟨q, 0, none⟩) sv) 305
  com : Blk w q (comCells 2 0 ow 0 0 false .nilIface (.func (.func 197) #[] #[.pointer (some ⟨g, 0, none⟩)]) false false) 231
  box : Blk w g #[.func (.func 262) #[.pointer (some ⟨x, 0, none⟩)] #[]] 1
  o1 : x < q
  o2 : x < g
  ne : g ≠ q
/-- An acquire that is to be run. -/
structure AcqM (w : World) (x q : Nat) (who tk sv ow : Int) : Prop where
  m : Blk w x (acqCells who (some ⟨q, 0, none⟩) sv ow 0 false) 294
  com : Blk w q (comCells 4 0 tk 0 1 false .nilIface (.func (.func 222) #[.pointer (some ⟨x, 0, none⟩)] #[]) false false) 231
  o1 : x < q
theorem RelM.but {w w' : World} {x q g c : Nat} {who sv ow : Int} (h : RelM w x q g who sv ow) (hb : But [c] w w') (h1 : c < x) : RelM w' x q g who sv ow :=
  ⟨h.m.but hb (by simp; omega), h.com.but hb (by have := h.o1; simp; omega), h.box.but hb (by have := h.o2; simp; omega), h.o1, h.o2, h.ne⟩
theorem AcqM.but {w w' : World} {x q c : Nat} {who tk sv ow : Int} (h : AcqM w x q who tk sv ow) (hb : But [c] w w') (h1 : c < x) : AcqM w' x q who tk sv ow :=
  ⟨h.m.but hb (by simp; omega), h.com.but hb (by have := h.o1; simp; omega), h.o1⟩
theorem CameBox.before {a w w' : World} {c q g : Nat} {cs : Array Value} {com : Value → Array Value} {fv : Value} {T : TypeId} (h : CameBox w w' c cs T com fv q g) (hb : But [c] a w) : CameBox a w' c cs T com fv q g :=
  ⟨⟨Nat.le_trans hb.size h.at'.fresh, h.at'.own, h.at'.com, hb.trans h.at'.but⟩, Nat.le_trans hb.size h.fresh, h.box, h.ne⟩

theorem release_any (w : World) (x c : Nat) (who : Int) (cs : Array Value) (T : TypeId) (h : Blk w x cs T) (hs : 2 ≤ cs.size) (h0 : cs[0]? = some (.int .i64 who)) (h2 : cs[2]? = some (.pointer (some ⟨c, 0, none⟩))) :
    Calls Tryz.prog 249 #[.pointer (some ⟨x, 0, none⟩)] w fun e w' => (∃ v, e = .returned v) ∧ ∃ x2 q2 g2 q g, CameBox w w' x cs T (fun v => comCells 0 0 0 0 0 false (.iface 301 (.pointer (some ⟨x2, 0, none⟩))) v false false) .nilFunc q g ∧ RelM w' x2 q2 g2 who (wd 0 2 3 1 1) (wd 0 2 3 1 2) ∧ w.heap.size ≤ x2 ∧ q2 < q ∧ q2 < g ∧ g2 < q ∧ g2 < g := by
  have hlt := h.lt
  have c2 := h.cell 2 h2
  have hO := who_any w.drew x who (h.drew.cell 0 h0)
  have hR := rel_new w.drew c 1 who
  generalize wd 0 2 3 1 1 = sv at *
  generalize wd 0 2 3 1 2 = ow at *
  have HH : Hid (Blk w x cs T ∧ 2 ≤ cs.size) := ⟨h, hs⟩
  clear h hs h0 h2
  go_enter Tryz.func249, Tryz.ntmps249
  go_wp2_with fail
  go_region_with (first | (go_at_call 172; refine hO.mono ?_; rintro e w3 ⟨rfl, rfl⟩) | (go_at_call 244; refine hR.mono ?_; rintro e w4 ⟨x2, q2, g2, rfl, k1, k2, k3, k4, k5, k6, k7, k8, k9⟩; have hB4 : But [x] w w4 := ((But.refl [x] w).drew).trans (But.of_below k4); have hf := frun_rel w4 x x2 cs T .nilFunc ⟨q2, 0, none⟩ (HH.out.1.but (But.of_below (l := []) (show Below w.heap.size w w4 from (Below.refl _ _).drew.trans k4)) (by simp)) HH.out.2 .none (by have : w.heap.size ≤ x2 := k5; omega) (k1.cell 1 rfl)) | (go_at_call 88; refine hf.mono ?_; rintro e w5 ⟨⟨v, rfl⟩, q, g, hC⟩))
  all_goals
    have k5' : w.heap.size ≤ x2 := k5
    have hM : RelM w4 x2 q2 g2 who sv ow := ⟨k1, k2, k3, k7, k8, k9⟩
    have hM5 := hM.but hC.at'.but (by omega)
    have hq2 := hM.com.lt
    have hg2 := hM.box.lt
    have hC5 := hC.before hB4
    have f1 := hC.at'.fresh
    have f2 := hC.fresh
    clear hO hR c2 hf k1 k2 k3 k4 k5 k6 k7 k8 k9 hC hB4 hM HH
    go_wp2_with fail
    go_end0
    exact ⟨⟨_, rfl⟩, x2, q2, g2, q, g, hC5, hM5, k5', by omega, by omega, by omega, by omega⟩

theorem acquire_any (w : World) (x c K : Nat) (who : Int) (cs cs0 first cap : Array Value) (T : TypeId) (h : Blk w x cs0 T) (hs : 3 ≤ cs0.size) (hcs : (cs0.setIfInBounds 2 (.pointer (some ⟨c, 0, none⟩))).setIfInBounds 0 (.int .i64 who) = cs) :
    Calls Tryz.prog 151 #[.pointer (some ⟨x, 0, none⟩), .pointer (some ⟨c, 0, none⟩), .int .i64 who, .func (.func K) first cap] w fun e w' => (∃ v, e = .returned v) ∧ ∃ x2 q2 q g, CameBox w w' x cs T (fun v => comCells 0 0 0 0 0 false (.iface 257 (.pointer (some ⟨x2, 0, none⟩))) v false false) (.func (.func K) first cap) q g ∧ AcqM w' x2 q2 who (wd 0 2 3 1 0) (wd 0 2 3 1 1) (wd 0 2 3 1 2) ∧ w.heap.size ≤ x2 ∧ q2 < q ∧ q2 < g := by
  have hlt := h.lt
  have f2 := h.fro 2
  have c2 : w.cell? ⟨x, 2, none⟩ = w.cell? ⟨x, 2, none⟩ := rfl
  have hh2 := h.set 2 (.pointer (some ⟨c, 0, none⟩))
  have hF := fof_any _ x _ T who hh2 (by simp; omega)
  have hB0 : But [x] w (w.setCell ⟨x, 2, none⟩ (.pointer (some ⟨c, 0, none⟩))) := (But.refl _ w).set (g := x) (.inl (by simp)) 2 _
  obtain ⟨u, hu⟩ : ∃ u, w.cell? ⟨x, 2, none⟩ = some u := ⟨_, h.cell 2 (Array.getElem?_eq_getElem hs)⟩
  have HH : Hid (Blk _ x _ T ∧ But [x] w _ ∧ 3 ≤ cs0.size) := ⟨hh2, hB0, hs⟩
  have hR := fun w => lock_new w c 1 who
  generalize wd 0 2 3 1 0 = tk at *
  generalize wd 0 2 3 1 1 = sv at *
  generalize wd 0 2 3 1 2 = ow at *
  clear h hh2 hB0 c2 hs
  go_enter Tryz.func151, Tryz.ntmps151
  go_wp2_with fail
  generalize w.setCell ⟨x, 2, none⟩ (.pointer (some ⟨c, 0, none⟩)) = W at *
  go_at_call 153; refine hF.mono ?_; rintro e w3 ⟨⟨v, rfl⟩, hw3⟩
  have h3 : Blk w3 x cs T := by rw [hw3, ← hcs]; exact HH.out.1.set 0 _
  have hB3 : But [x] w w3 := by rw [hw3]; exact HH.out.2.1.set (g := x) (.inl (by simp)) 0 _
  have hs3 : 2 ≤ cs.size := by rw [← hcs]; have := HH.out.2.2; simp; omega
  have hle := hB3.size
  have H3 : Hid (Blk w3 x cs T ∧ But [x] w w3 ∧ 2 ≤ cs.size) := ⟨h3, hB3, hs3⟩
  clear hF hw3 h3 hB3 hs3 HH hcs hu f2
  have hR := hR w3.drew
  go_wp2_with fail
  go_region_with (first | (go_at_call 182; refine hR.mono ?_; rintro e w4 ⟨x2, q2, rfl, k1, k2, k4, k5, k6, k7⟩; have hB4 : But [x] w w4 := H3.out.2.1.trans (((But.refl [x] w3).drew).trans (But.of_below k4)); have hf := frun_acq w4 x x2 cs T (.func (.func K) first cap) ⟨q2, 0, none⟩ (H3.out.1.but (But.of_below (l := []) (show Below w3.heap.size w3 w4 from (Below.refl _ _).drew.trans k4)) (by simp)) H3.out.2.2 (.some _ _ _) (by have : w3.heap.size ≤ x2 := k5; omega) (k1.cell 1 rfl)) | (go_at_call 88; refine hf.mono ?_; rintro e w5 ⟨⟨v, rfl⟩, q, g, hC⟩))
  all_goals
    have k5' : w3.heap.size ≤ x2 := k5
    have hM : AcqM w4 x2 q2 who tk sv ow := ⟨k1, k2, k7⟩
    have hM5 := hM.but hC.at'.but (by omega)
    have hq2 := hM.com.lt
    have hC5 := hC.before hB4
    have f1 := hC.at'.fresh
    have f2 := hC.fresh
    clear hR hf k1 k2 k4 k5 k6 k7 hC hB4 hM H3
    go_wp2_with fail
    go_end0
    exact ⟨⟨_, rfl⟩, x2, q2, q, g, hC5, hM5, by omega, by omega, by omega⟩

end Go.Proofs.YtcjidigpdecdlaaGreat

namespace Go.Proofs.YtcjidigpdecdlaaGreat
open Go Go.RowKit
set_option linter.unusedVariables false
set_option maxRecDepth 100000
set_option linter.unusedSimpArgs false


def putCells (who : Int) (nx : Option Addr) (c : Nat) (g : Int) : Array Value := #[.int .i64 who, .pointer nx, .pointer (some ⟨c, 0, none⟩), .int .i64 g]

theorem put_look (w : World) (x c : Nat) (who g : Int) (nx : Option Addr) (h : Blk w x (putCells who nx c g) 292) :
    Calls Tryz.prog 212 #[.pointer (some ⟨x, 0, none⟩)] w fun e w' => (∃ v, e = .returned v) ∧ ∃ q, CameAt w w' x (putCells who nx c g) 292 (comCells 1 0 16 0 0 false .nilIface (.func (.func 237) #[.pointer (some ⟨x, 0, none⟩)] #[]) false false) q := by
  have H := load_free w x c 237 _ #[.pointer (some ⟨x, 0, none⟩)] #[] 292 h (by simp [putCells]) rfl
  clear h
  go_enter Tryz.func212, Tryz.ntmps212
  go_wp2_with fail
  go_at_call 195; refine H.mono ?_; rintro e w1 ⟨⟨v, rfl⟩, q, hC⟩
  clear H
  go_wp2_with fail
  go_end0
  exact ⟨⟨_, rfl⟩, q, hC⟩

set_option maxHeartbeats 4000000 in
theorem put_link (w : World) (x c : Nat) (who g P T G f : Int) (nx : Option Addr) (h : Blk w x (putCells who nx c g) 292) (hl : Lay w c P T G) (hp : 0 ≤ P ∧ P ≤ 64) (hT : 0 ≤ T ∧ T ≤ 65536) (hG : G ≤ 65536) :
    Calls Tryz.prog 237 #[.pointer (some ⟨x, 0, none⟩), .int .u64 f] w fun e w' => (∃ v, e = .returned v) ∧ ∃ q b, CameBox w w' x (putCells who nx c g) 292 (fun v => comCells 2 0 (wd (20 + P * 264 + T * 3) G 2 g 1) 0 f false .nilIface v false false) (.func (.func 259) #[.pointer (some ⟨x, 0, none⟩)] #[]) q b := by
  have hW := g_word c P T G g 1 w.drew (hl.below ((Below.refl _ _).drew) hl.lt) hp hT hG
  have c2 := h.cell 2 (v := .pointer (some ⟨c, 0, none⟩)) rfl
  have c3 := h.cell 3 (v := .int .i64 g) rfl
  have HS : Hid (∀ w4, Below w.drew.heap.size w.drew w4 → But [x] w w4 ∧ Calls Tryz.prog 125 #[.pointer (some ⟨x, 0, none⟩), .int .i64 (wd (20 + P * 264 + T * 3) G 2 g 1), .int .u64 f, .func (.func 259) #[.pointer (some ⟨x, 0, none⟩)] #[]] w4 fun e w' => (∃ v, e = .returned v) ∧ ∃ q b, CameBox w w' x (putCells who nx c g) 292 (fun v => comCells 2 0 (wd (20 + P * 264 + T * 3) G 2 g 1) 0 f false .nilIface v false false) (.func (.func 259) #[.pointer (some ⟨x, 0, none⟩)] #[]) q b) := by
    intro w4 k
    have hB4 : But [x] w w4 := ((But.refl [x] w).drew).trans (But.of_below k)
    have h4 : Blk w4 x (putCells who nx c g) 292 := h.drew.but (But.of_below (l := []) k) (by simp)
    refine ⟨hB4, (store_come w4 x _ 292 _ f h4 (by simp [putCells]) _ (.some _ _ _)).mono ?_⟩
    rintro e w5 ⟨hv, q, b, hC⟩
    exact ⟨hv, q, b, hC.before hB4⟩
  generalize wd (20 + P * 264 + T * 3) G 2 g 1 = at' at *
  clear h hl hp hT hG
  go_enter Tryz.func237, Tryz.ntmps237
  go_wp2_with fail
  go_region_with (first | (go_at_call 145; refine hW.mono ?_; rintro e w4 ⟨rfl, k⟩) | (go_at_call 125; refine (HS.out _ k).2.mono ?_; rintro e w5 ⟨⟨v, rfl⟩, q, b, hC⟩))
  all_goals
    clear hW k HS c2 c3
    go_wp2_with fail
    go_end0
    exact ⟨⟨_, rfl⟩, q, b, hC⟩

theorem put_lead (w : World) (x c : Nat) (who g : Int) (nx : Option Addr) (h : Blk w x (putCells who nx c g) 292) (hg : 0 ≤ g ∧ g ≤ 1000000) :
    Calls Tryz.prog 259 #[.pointer (some ⟨x, 0, none⟩)] w fun e w' => (∃ v, e = .returned v) ∧ ∃ q b, CameBox w w' x (putCells who nx c g) 292 (fun v => comCells 2 0 16 0 (g + 1) false .nilIface v false false) (.func (.func 249) #[.pointer (some ⟨x, 0, none⟩)] #[]) q b := by
  have c3 := h.cell 3 (v := .int .i64 g) rfl
  have H := store_free w.drew x c _ 292 (g + 1) (.func (.func 249) #[.pointer (some ⟨x, 0, none⟩)] #[]) (.some _ _ _) h.drew (by simp [putCells]) rfl
  have w1 : IntKind.u64.wrap g = g := wrap_u64 (by omega)
  have w2 : IntKind.u64.wrap (g + 1) = g + 1 := wrap_u64 (by omega)
  clear h
  go_enter Tryz.func259, Tryz.ntmps259
  go_wp2_with fail
  go_region_with (go_at_call 251; refine H.mono ?_; rintro e w5 ⟨⟨v, rfl⟩, q, b, hC⟩)
  all_goals
    have hC5 := hC.undrew
    clear H hC w1 w2 c3
    go_wp2_with fail
    go_end0
    exact ⟨⟨_, rfl⟩, q, b, hC5⟩

theorem put_new (w : World) (c : Nat) (who g : Int) :
    Calls Tryz.prog 171 #[.pointer (some ⟨c, 0, none⟩), .int .i64 who, .int .i64 g] w fun e w' => ∃ x x2 q2 q b, e = .returned (.pointer (some ⟨x, 0, none⟩)) ∧ Below w.heap.size w w' ∧ w.heap.size ≤ x ∧ x < x2 ∧ q2 < q ∧ q2 < b ∧ b ≠ q ∧ Blk w' x (putCells who (some ⟨q, 0, none⟩) c g) 292 ∧ Blk w' q (comCells 0 0 0 0 0 false (.iface 257 (.pointer (some ⟨x2, 0, none⟩))) (.func (.func 197) #[] #[.pointer (some ⟨b, 0, none⟩)]) false false) 231 ∧ Blk w' b #[.func (.func 212) #[.pointer (some ⟨x, 0, none⟩)] #[]] 1 ∧ AcqM w' x2 q2 who (wd 0 2 3 1 0) (wd 0 2 3 1 1) (wd 0 2 3 1 2) := by
  have hB := Blk.new w #[.int .i64 0, .pointer none, .pointer none, .int .i64 g] 292
  have hA := acquire_any _ w.heap.size c 212 who (putCells who none c g) _ #[.pointer (some ⟨w.heap.size, 0, none⟩)] #[] 292 hB (by simp) rfl
  clear hB
  generalize wd 0 2 3 1 0 = tk at *
  generalize wd 0 2 3 1 1 = sv at *
  generalize wd 0 2 3 1 2 = ow at *
  have hs := World.size_alloc w (.cells #[.int .i64 0, .pointer none, .pointer none, .int .i64 g] 292)
  have hb : Below w.heap.size w (w.alloc (.cells #[.int .i64 0, .pointer none, .pointer none, .int .i64 g] 292)) := (Below.refl _ _).alloc (Nat.le_refl _) _
  have HH : Hid (Below w.heap.size w (w.alloc (.cells #[.int .i64 0, .pointer none, .pointer none, .int .i64 g] 292)) ∧ (w.alloc (.cells #[.int .i64 0, .pointer none, .pointer none, .int .i64 g] 292)).heap.size = w.heap.size + 1) := ⟨hb, hs⟩
  clear hb hs
  go_enter Tryz.func171, Tryz.ntmps171
  go_wp2_with fail
  go_at_call 151; refine hA.mono ?_; rintro e w1 ⟨⟨v, rfl⟩, x2, q2, q, b, hC, hM, h1, h2, h3⟩
  have hC1 := hC.at'.own
  have hC2 := hC.at'.com
  have hC3 := hC.box
  have hC4 := hC.ne
  have hb := HH.out.1.trans (hC.at'.but.below (by simp) (by rw [HH.out.2]; omega))
  have hx : w.heap.size < x2 := by rw [HH.out.2] at h1; omega
  clear hA hC HH h1
  go_wp2_with fail
  go_ret
  exact ⟨w.heap.size, x2, q2, q, b, rfl, hb, Nat.le_refl _, hx, h2, h3, hC4, hC1, hC2, hC3, hM⟩

end Go.Proofs.YtcjidigpdecdlaaGreat

namespace Go.Proofs.YtcjidigpdecdlaaGreat
open Go Go.RowKit
set_option linter.unusedVariables false
set_option maxRecDepth 100000
set_option linter.unusedSimpArgs false


def getCells (who : Int) (nx : Option Addr) (c : Nat) (g : Int) (got : Bool) : Array Value := #[.int .i64 who, .pointer nx, .pointer (some ⟨c, 0, none⟩), .int .i64 g, .bool got]

theorem glob_word17 (w : World) (c : Nat) : Calls Tryz.prog 120 #[.pointer (some ⟨c, 0, none⟩), .int .i64 17] w fun e w' => e = .returned (.int .i64 17) ∧ w = w' := by
  go_enter Tryz.func120, Tryz.ntmps120
  go_wp2_with fail
  go_ret
  exact ⟨rfl, rfl⟩

theorem get_look (w : World) (x c : Nat) (who g : Int) (got : Bool) (nx : Option Addr) (h : Blk w x (getCells who nx c g got) 221) :
    Calls Tryz.prog 152 #[.pointer (some ⟨x, 0, none⟩)] w fun e w' => (∃ v, e = .returned v) ∧ ∃ q, CameAt w w' x (getCells who nx c g got) 221 (comCells 1 0 16 0 0 false .nilIface (.func (.func 196) #[.pointer (some ⟨x, 0, none⟩)] #[]) false false) q := by
  have H := load_free w x c 196 _ #[.pointer (some ⟨x, 0, none⟩)] #[] 221 h (by simp [getCells]) rfl
  clear h
  go_enter Tryz.func152, Tryz.ntmps152
  go_wp2_with fail
  go_at_call 195; refine H.mono ?_; rintro e w1 ⟨⟨v, rfl⟩, q, hC⟩
  clear H
  go_wp2_with fail
  go_end0
  exact ⟨⟨_, rfl⟩, q, hC⟩

theorem get_unlink (w : World) (x c : Nat) (who g u : Int) (got : Bool) (nx : Option Addr) (h : Blk w x (getCells who nx c g got) 221) :
    Calls Tryz.prog 231 #[.pointer (some ⟨x, 0, none⟩), .int .u64 u] w fun e w' => (∃ v, e = .returned v) ∧ ∃ q b, CameBox w w' x (getCells who nx c g got) 221 (fun v => comCells 2 0 16 0 u false .nilIface v false false) (.func (.func 250) #[.pointer (some ⟨x, 0, none⟩)] #[]) q b := by
  have H := store_free w x c _ 221 u (.func (.func 250) #[.pointer (some ⟨x, 0, none⟩)] #[]) (.some _ _ _) h (by simp [getCells]) rfl
  clear h
  go_enter Tryz.func231, Tryz.ntmps231
  go_wp2_with fail
  go_at_call 251; refine H.mono ?_; rintro e w1 ⟨⟨v, rfl⟩, q, b, hC⟩
  clear H
  go_wp2_with fail
  go_end0
  exact ⟨⟨_, rfl⟩, q, b, hC⟩

theorem get_have (w : World) (x c : Nat) (who g : Int) (got : Bool) (nx : Option Addr) (h : Blk w x (getCells who nx c g got) 221) :
    Calls Tryz.prog 250 #[.pointer (some ⟨x, 0, none⟩)] w fun e w' => (∃ v, e = .returned v) ∧ ∃ x2 q2 g2 q b, CameBox w w' x (getCells who nx c g true) 221 (fun v => comCells 0 0 0 0 0 false (.iface 301 (.pointer (some ⟨x2, 0, none⟩))) v false false) .nilFunc q b ∧ RelM w' x2 q2 g2 who (wd 0 2 3 1 1) (wd 0 2 3 1 2) ∧ w.heap.size ≤ x2 ∧ q2 < q ∧ q2 < b ∧ g2 < q ∧ g2 < b := by
  have c4 := h.cell 4 (v := .bool got) rfl
  have f4 := h.fro 4
  have hlt := h.lt
  have h' : Blk _ x (getCells who nx c g true) 221 := h.set 4 (.bool true)
  have hB : But [x] w (w.setCell ⟨x, 4, none⟩ (.bool true)) := (But.refl _ w).set (g := x) (.inl (by simp)) 4 _
  have H := release_any _ x c who _ 221 h' (by simp [getCells]) rfl rfl
  rw [size_set] at H
  generalize wd 0 2 3 1 1 = sv at *
  generalize wd 0 2 3 1 2 = ow at *
  clear h h'
  go_enter Tryz.func250, Tryz.ntmps250
  go_wp2_with fail
  go_at_call 249; refine H.mono ?_; rintro e w1 ⟨⟨v, rfl⟩, x2, q2, g2, q, b, hC, hM, h1, h2, h3, h4, h5⟩
  have hC5 := hC.before hB
  clear H hC hB c4 f4
  go_wp2_with fail
  go_end0
  exact ⟨⟨_, rfl⟩, x2, q2, g2, q, b, hC5, hM, h1, h2, h3, h4, h5⟩

theorem get_none (w : World) (x c : Nat) (who g : Int) (got : Bool) (nx : Option Addr) (h : Blk w x (getCells who nx c g got) 221) :
    Calls Tryz.prog 196 #[.pointer (some ⟨x, 0, none⟩), .int .u64 0] w fun e w' => (∃ v, e = .returned v) ∧ ∃ q, CameAt w w' x (getCells who nx c g got) 221 (comCells 1 0 17 0 0 false .nilIface (.func (.func 230) #[.pointer (some ⟨x, 0, none⟩)] #[]) false false) q := by
  have H := load_come w.drew x _ 221 17 h.drew (by simp [getCells]) 230 #[.pointer (some ⟨x, 0, none⟩)] #[]
  have c2 := h.cell 2 (v := .pointer (some ⟨c, 0, none⟩)) rfl
  have hW := glob_word17 w.drew c
  clear h
  go_enter Tryz.func196, Tryz.ntmps196
  go_wp2_with fail
  go_region_with (first | (go_at_call 120; refine hW.mono ?_; rintro e w3 ⟨rfl, rfl⟩) | (go_at_call 119; refine H.mono ?_; rintro e w1 ⟨⟨v, rfl⟩, q, hC⟩))
  all_goals
    clear hW H c2
    go_wp2_with fail
    refine bodyPost_ret (results_none rfl _ _ _) rfl ?_
    exact ⟨⟨_, rfl⟩, q, hC.undrew⟩

end Go.Proofs.YtcjidigpdecdlaaGreat
