/- The document coming out of a system call, within any machine. -/
import Derived.Test.YtcjidigpdecdlaaGreatSIA
import Derived.Test.YtcjidigpdecdlaaGreatSIF
import Derived.Test.YtcjidigpdecdlaaGreatSIC
import Derived.Test.YtcjidigpdecdlaaGreatPm
import Derived.Test.YtcjidigpdecdlaaGreatSIH
import Derived.ProofKit
import Derived.Carry
import Derived.WalkKit
import Derived.OpenShut
namespace Go.Proofs.YtcjidigpdecdlaaGreat
open Go Go.RowKit
set_option linter.unusedVariables false
set_option maxRecDepth 100000
set_option linter.unusedSimpArgs false

/-- The same, without a hand yet. -/
structure RzAt {σ : Type} (w y : World) (x : Nat) (A : Option Addr) (cap m : Nat) (g : Nat → Int) (M : PM σ) (s0 : σ) (j0 j : Nat) (t : σ) (Q : σ → Prop) (cf : Array Value) (HTy : TypeId) (z : Array Value) : Prop where
  run : RunOn y x A cap m g (M.rj s0 g m j)
  syn : Syn M s0 g m j t Q
  but : But [x] w y
  cfg : Blk y w.heap.size cf 23
  res : Blk y (w.heap.size + 1) z HTy
  x : x < w.heap.size
  far : GotFar A [w.heap.size + 1]
  le : j0 ≤ j
section
variable {σ : Type} {w y : World} {x : Nat} {A : Option Addr} {cap m : Nat} {g : Nat → Int} {M : PM σ} {s0 : σ} {j0 j : Nat} {t : σ} {Q : σ → Prop} {cf : Array Value} {HTy : TypeId} {z : Array Value} (h : RzAt w y x A cap m g M s0 j0 j t Q cf HTy z)
include h
theorem RzAt.go {y2 : World} {j2 : Nat} {t2 : σ} {Q2 : σ → Prop} (hR : RunOn y2 x A cap m g (M.rj s0 g m j2)) (hS : Syn M s0 g m j2 t2 Q2) (hB : But [x] y y2) (hj : j ≤ j2) : RzAt w y2 x A cap m g M s0 j0 j2 t2 Q2 cf HTy z := by
  have hx := h.x
  exact ⟨hR, hS, h.but.trans hB, h.cfg.but hB (by simp; omega), h.res.but hB (by simp; omega), hx, h.far, Nat.le_trans h.le hj⟩
theorem RzAt.low {Y : World} (hY : Below y.heap.size y Y) : RzAt w Y x A cap m g M s0 j0 j t Q cf HTy z :=
  ⟨h.run.below hY, h.syn, h.but.trans (But.of_below hY), h.cfg.but (But.of_below (l := []) hY) (by simp), h.res.but (But.of_below (l := []) hY) (by simp), h.x, h.far, h.le⟩
theorem RzAt.as {t2 : σ} {Q2 : σ → Prop} (hS : Syn M s0 g m j t2 Q2) : RzAt w y x A cap m g M s0 j0 j t2 Q2 cf HTy z :=
  ⟨h.run, hS, h.but, h.cfg, h.res, h.x, h.far, h.le⟩
/-- An access: what is so behind it. -/
theorem RzAt.step {y2 : World} {v : Int} (hK : Kept' y y2 x A cap m g M s0 j t Q v) : RzAt w y2 x A cap m g M s0 j0 (j + 1) (M.nx t v) (fun r => r = t ∨ Q r) cf HTy z :=
  h.go hK.run hK.syn hK.but (Nat.le_succ _)
theorem RzAt.stop : y.cell? ⟨x, 2, none⟩ = some (.bool (decide (m < j))) := by
  have := h.run.blk.cell 2 (v := .bool (M.rj s0 g m j).stop) rfl
  rw [rj_stop h.syn] at this
  exact this
/-- The result is laid. -/
theorem RzAt.ret {a b c : Value} {z0 z1 z2 : Value} (hz : z = #[z0, z1, z2]) : RunOn (((y.setCell ⟨w.heap.size + 1, 0, none⟩ a).setCell ⟨w.heap.size + 1, 1, none⟩ b).setCell ⟨w.heap.size + 1, 2, none⟩ c) x A cap m g (M.rj s0 g m j) ∧ But [x] w (((y.setCell ⟨w.heap.size + 1, 0, none⟩ a).setCell ⟨w.heap.size + 1, 1, none⟩ b).setCell ⟨w.heap.size + 1, 2, none⟩ c) ∧ (((y.setCell ⟨w.heap.size + 1, 0, none⟩ a).setCell ⟨w.heap.size + 1, 1, none⟩ b).setCell ⟨w.heap.size + 1, 2, none⟩ c).heap[w.heap.size + 1]? = some (.cells #[a, b, c] HTy (0, 0)) := by
  subst hz
  have hx := h.x
  have hU : But [w.heap.size + 1] y (((y.setCell ⟨w.heap.size + 1, 0, none⟩ a).setCell ⟨w.heap.size + 1, 1, none⟩ b).setCell ⟨w.heap.size + 1, 2, none⟩ c) := (((But.refl _ y).set (g := w.heap.size + 1) (.inl (by simp)) 0 _).set (g := w.heap.size + 1) (.inl (by simp)) 1 _).set (g := w.heap.size + 1) (.inl (by simp)) 2 _
  have hZ := ((h.res.set 0 a).set 1 b).set 2 c
  exact ⟨h.run.but hU (by simp; omega) h.far, But.lowk h.but hU (by omega), hZ.heap⟩
theorem RzAt.hand (oc : Array Value) (hR : Below y.heap.size y (y.alloc (.cells oc HTy))) : HdAt w (y.alloc (.cells oc HTy)) x A cap m g M s0 j0 j t Q cf HTy z y.heap.size oc := by
  have h1 := h.res.lt
  have hx := h.x
  refine ⟨h.run.below hR, h.syn, h.but.trans (But.of_below hR), h.cfg.but (But.of_below (l := []) hR) (by simp), h.res.but (But.of_below (l := []) hR) (by simp), Blk.new _ _ _, h1, hx, fun b e hm => ?_, h.le⟩
  simp at hm
  rcases h.run.got.form with ⟨e0, _⟩ | ⟨gb, e0, hl⟩
  · rw [e0] at e; cases e
  · have := h.far b e
    rw [e0] at e
    cases e
    rcases hm with hm | hm
    · exact this (by simp [hm])
    · omega
end
end Go.Proofs.YtcjidigpdecdlaaGreat

namespace Go.Proofs.YtcjidigpdecdlaaGreat
open Go Go.RowKit
set_option linter.unusedVariables false
set_option maxRecDepth 100000
set_option linter.unusedSimpArgs false

structure IgIn {σ : Type} (M : PM σ) (P : Int) (emb : IgT → σ) : Prop where
  ld : M.ax (emb .ld) = some (axLd 9)
  lk : ∀ y, M.ax (emb (.lk y)) = some (axLd (wd 20 P 264 y 7))
  ms : ∀ y l, M.ax (emb (.ms y l)) = some (axLd 19)
  um : ∀ y l w, M.ax (emb (.um y l w)) = some (axSt 19 (mskOut w y))
  un : ∀ y l, M.ax (emb (.un y l)) = some (axSt 9 l)
  ct : ∀ y l, M.ax (emb (.ct y l)) = some (axAd 10 4294967295)
  n1 : ∀ v, M.nx (emb .ld) v = if v = 0 then emb .none' else emb (.lk (gw v))
  n2 : ∀ y v, M.nx (emb (.lk y)) v = emb (.ms y v)
  n3 : ∀ y l v, M.nx (emb (.ms y l)) v = emb (.um y l v)
  n4 : ∀ y l w v, M.nx (emb (.um y l w)) v = emb (.un y l)
  n5 : ∀ y l v, M.nx (emb (.un y l)) v = emb (.ct y l)
  n6 : ∀ y l v, M.nx (emb (.ct y l)) v = emb (.over y l)
def IgT.live : IgT → Bool
  | .none' => false
  | .over _ _ => false
  | _ => true
/-- Where a get stopped, and what it answered. -/
def IgQ {σ : Type} (Q : σ → Prop) (emb : IgT → σ) (r : Int) (q : σ) : Prop := (Q q ∧ r = -1) ∨ ∃ p', IgT.live p' = true ∧ q = emb p' ∧ r = p'.obs
theorem ig_in (P : Int) : IgIn (igPM P) P (fun t => t) := ⟨rfl, fun _ => rfl, fun _ _ => rfl, fun _ _ _ => rfl, fun _ _ => rfl, fun _ _ => rfl, fun _ => rfl, fun _ _ => rfl, fun _ _ _ => rfl, fun _ _ _ _ => rfl, fun _ _ _ => rfl, fun _ _ _ => rfl⟩

set_option maxHeartbeats 4000000 in
theorem syn_iget {σ : Type} {M : PM σ} {P T G : Int} {emb : IgT → σ} (hE : IgIn M P emb) (hp : 0 ≤ P ∧ P ≤ 64)
    {w : World} {x : Nat} {A : Option Addr} {cap m : Nat} {g : Nat → Int} {s0 : σ} {j : Nat} {Q : σ → Prop} (hR : RunOn w x A cap m g (M.rj s0 g m j)) (hS : Syn M s0 g m j (emb .ld) Q) (hb : ∀ j, j < m → 0 ≤ g j ∧ g j ≤ 18446744073709551615) :
    Calls Tryz.prog 142 #[.pointer (some ⟨x, 0, none⟩), .agg #[.int .i64 P, .int .i64 T, .int .i64 G]] w fun e w' => ∃ r j' p, e = .returned (.int .i64 r) ∧ RunOn w' x A cap m g (M.rj s0 g m j') ∧ Syn M s0 g m j' (emb p) (IgQ Q emb r) ∧ p.live = false ∧ (j' ≤ m → r = p.obs) ∧ But [x] w w' ∧ j ≤ j' := by
  have hb0 : Below w.heap.size w (w.alloc (.cells #[.int .i64 P, .int .i64 T, .int .i64 G] 23)) := (Below.refl _ _).alloc (Nat.le_refl _) _
  have HX : Hid (Blk (w.alloc (.cells #[.int .i64 P, .int .i64 T, .int .i64 G] 23)) w.heap.size #[.int .i64 P, .int .i64 T, .int .i64 G] 23) := Blk.new _ _ _
  have hxw := hR.blk.lt
  have HB0 : Hid (But [x] w (w.alloc (.cells #[.int .i64 P, .int .i64 T, .int .i64 G] 23))) := But.of_below hb0
  have HE : Hid (IgIn M P emb) := hE
  have HBD : Hid (∀ j, j < m → 0 ≤ g j ∧ g j ≤ 18446744073709551615) := hb
  have hPA := fun (y : Int) W => rprcAt_all P T G y 7 W hp.2 (by omega)
  have hL := syn_load (hR.below hb0) hS hb 9 (fun _ => hE.ld)
  clear hR hS hE hb hb0 hp
  go_enter Tryz.func142, Tryz.ntmps142
  go_wp2_with fail
  generalize w.alloc (.cells #[.int .i64 P, .int .i64 T, .int .i64 G] 23) = W at *
  go_at_call 122; refine hL.mono ?_; rintro e y2 ⟨v, rfl, hK⟩
  have HR2 : Hid (RunOn y2 x A cap m g (M.rj s0 g m (j + 1))) := hK.run
  have HV2 : Hid (0 ≤ v ∧ v ≤ 18446744073709551615) := hK.bd
  have HS2 : Hid (Syn M s0 g m (j + 1) ((if v = 0 then emb .none' else emb (.lk (gw v)))) (fun q => Q q ∨ ∃ p', p'.live = true ∧ q = emb p' ∧ p'.obs = -1)) := by
    have := hK.syn
    rw [HE.out.n1] at this
    exact this.weak (fun r hr => by rcases hr with rfl | hr; exact .inr ⟨.ld, rfl, rfl, rfl⟩; exact .inl hr)
  have HB2 : Hid (But [x] w y2) := HB0.out.trans hK.but
  have HX2 : Hid (Blk y2 w.heap.size #[.int .i64 P, .int .i64 T, .int .i64 G] 23) := HX.out.but hK.but (by simp; omega)
  clear hL hK HB0 HX
  by_cases h0 : v = 0
  · subst h0
    clear hPA
    go_wp2_with fail
    go_ret
    refine ⟨-1, j + 1, .none', rfl, HR2.out, (HS2.out.as (t' := emb .none') (fun _ => by simp)).weak ?_, rfl, fun _ => rfl, HB2.out, Nat.le_succ j⟩
    rintro q (hq | ⟨p', h1, h2, h3⟩)
    · exact .inl ⟨hq, rfl⟩
    · exact .inr ⟨p', h1, h2, h3.symm⟩
  · have hd0 : (v == 0) = false := by simpa using h0
    have e1 : wrap64 (IntKind.i64.wrap v - 1) = gw v := gw_eq v HV2.out
    have HS2' : Hid (Syn M s0 g m (j + 1) (emb (.lk (gw v))) (fun q => Q q ∨ ∃ p', p'.live = true ∧ q = emb p' ∧ p'.obs = -1)) := HS2.out.as (fun _ => if_neg h0)
    clear HS2
    have HS2 := HS2'
    clear HS2'
    generalize hyy : gw v = y at *
    generalize hvv : IntKind.i64.wrap v = v' at *
    have hPA2 := hPA y
    clear hPA hyy HV2
    have k0 := HX2.out.cell 0 (v := .int .i64 P) rfl
    have k1 := HX2.out.cell 1 (v := .int .i64 T) rfl
    have k2 := HX2.out.cell 2 (v := .int .i64 G) rfl
    have hPl := hPA2 y2
    have HAc : Hid (∀ Y, Below y2.heap.size y2 Y → _) := fun Y (hY : Below y2.heap.size y2 Y) => syn_load (HR2.out.below hY) HS2.out HBD.out (wd 20 P 264 y 7) (fun _ => HE.out.lk y)
    go_wp2_with fail
    go_at_call 136; refine hPl.mono ?_; rintro e y3 ⟨rfl, h5⟩
    have hA := HAc.out y3 h5
    have HB3 : Hid (But [x] w y3) := HB2.out.trans (But.of_below h5)
    have HX3 : Hid (Blk y3 w.heap.size #[.int .i64 P, .int .i64 T, .int .i64 G] 23) := HX2.out.but (But.of_below (l := []) h5) (by simp)
    clear hPl h5 k0 k1 k2 HX2 HB2 HAc HR2
    go_wp2_with fail
    clear hPA2
    go_at_call 122; refine hA.mono ?_; rintro e y4 ⟨l, rfl, hK⟩
    have HR4 : Hid (RunOn y4 x A cap m g (M.rj s0 g m (j + 1 + 1))) := hK.run
    have HV4 : Hid (0 ≤ l ∧ l ≤ 18446744073709551615) := hK.bd
    have HS4 : Hid (Syn M s0 g m (j + 1 + 1) (emb (.ms y l)) (fun q => Q q ∨ ∃ p', p'.live = true ∧ q = emb p' ∧ p'.obs = -1)) := by
      have := hK.syn
      rw [HE.out.n2] at this
      exact this.weak (fun r hr => by rcases hr with rfl | hr; exact .inr ⟨.lk y, rfl, rfl, rfl⟩; exact hr)
    have HB4 : Hid (But [x] w y4) := HB3.out.trans hK.but
    have HX4 : Hid (Blk y4 w.heap.size #[.int .i64 P, .int .i64 T, .int .i64 G] 23) := HX3.out.but hK.but (by simp; omega)
    clear hA hK HB3 HX3
    have hL4 := syn_load HR4.out HS4.out HBD.out 19 (fun _ => HE.out.ms y l)
    clear HX4 HR4
    go_wp2_with fail
    go_at_call 122; refine hL4.mono ?_; rintro e y5 ⟨v2, rfl, hK⟩
    have HR5 : Hid (RunOn y5 x A cap m g (M.rj s0 g m (j + 1 + 1 + 1))) := hK.run
    have HV5 : Hid (0 ≤ v2 ∧ v2 ≤ 18446744073709551615) := hK.bd
    have HS5 : Hid (Syn M s0 g m (j + 1 + 1 + 1) (emb (.um y l v2)) (fun q => Q q ∨ ∃ p', p'.live = true ∧ q = emb p' ∧ p'.obs = -1)) := by
      have := hK.syn
      rw [HE.out.n3] at this
      exact this.weak (fun r hr => by rcases hr with rfl | hr; exact .inr ⟨.ms y l, rfl, rfl, rfl⟩; exact hr)
    have HB5 : Hid (But [x] w y5) := HB4.out.trans hK.but
    clear hL4 hK HB4
    clear HS4
    have hMk := rmasked_any v2 y y5 HV5.out
    have hBt := rbit_any y y5
    have han := an_bit v2 y HV5.out
    have HSt := syn_store HR5.out HS5.out HBD.out 19 (mskOut v2 y) (fun _ => HE.out.um y l v2)
    clear HR5 HV5
    cases hmb : mskB v2 y
    · rw [hmb] at hMk
      have hmv : mskOut v2 y = v2 := by unfold mskOut; rw [hmb]; rfl
      rw [hmv] at HSt
      clear hmb han hmv hBt
      go_wp2_with fail
      go_at_call 190; refine hMk.mono ?_; rintro e w1 ⟨rfl, rfl⟩
      clear hMk
      go_wp2_with fail
      go_at_call 96; refine HSt.mono ?_; rintro e y6 ⟨⟨u6, rfl⟩, v6, hK⟩
      have HR6 : Hid (RunOn y6 x A cap m g (M.rj s0 g m (j + 1 + 1 + 1 + 1))) := hK.run
      have HS6 : Hid (Syn M s0 g m (j + 1 + 1 + 1 + 1) (emb (.un y l)) (fun q => Q q ∨ ∃ p', p'.live = true ∧ q = emb p' ∧ p'.obs = -1)) := by
        have := hK.syn
        rw [HE.out.n4] at this
        exact this.weak (fun r hr => by rcases hr with rfl | hr; exact .inr ⟨.um y l v2, rfl, rfl, rfl⟩; exact hr)
      have HB6 : Hid (But [x] w y6) := HB5.out.trans hK.but
      clear HSt hK HB5
      have hSt2 := syn_store HR6.out HS6.out HBD.out 9 l (fun _ => HE.out.un y l)
      clear HR6 HS5
      go_wp2_with fail
      go_at_call 96; refine hSt2.mono ?_; rintro e y7 ⟨⟨u7, rfl⟩, v7, hK⟩
      have HR7 : Hid (RunOn y7 x A cap m g (M.rj s0 g m (j + 1 + 1 + 1 + 1 + 1))) := hK.run
      have HS7 : Hid (Syn M s0 g m (j + 1 + 1 + 1 + 1 + 1) (emb (.ct y l)) (fun q => Q q ∨ ∃ p', p'.live = true ∧ q = emb p' ∧ p'.obs = -1)) := by
        have := hK.syn
        rw [HE.out.n5] at this
        exact this.weak (fun r hr => by rcases hr with rfl | hr; exact .inr ⟨.un y l, rfl, rfl, rfl⟩; exact hr)
      have HB7 : Hid (But [x] w y7) := HB6.out.trans hK.but
      clear hSt2 hK HB6
      clear HS6
      have sc := HR7.out.blk.cell 2 (v := .bool (M.rj s0 g m (j + 1 + 1 + 1 + 1 + 1)).stop) rfl
      rw [rj_stop HS7.out] at sc
      by_cases hst : m < j + 1 + 1 + 1 + 1 + 1
      · have HST : Hid (m < j + 1 + 1 + 1 + 1 + 1) := hst
        have HPAST : Hid (IgQ Q emb (-1) (M.run s0 g m)) := by
          rcases (HS7.out.past hst).1 with hq | ⟨p', h1, h2, h3⟩
          · exact .inl ⟨hq, rfl⟩
          · exact .inr ⟨p', h1, h2, h3.symm⟩
        rw [decide_eq_true hst] at sc
        have hA7 := syn_add HR7.out HS7.out HBD.out 10 4294967295 (fun _ => HE.out.ct y l)
        clear hst
        go_wp2_with fail
        go_at_call 135; refine hA7.mono ?_; rintro e y9 ⟨v9, rfl, hK⟩
        have HF : Hid (RunOn y9 x A cap m g (M.rj s0 g m (j + 1 + 1 + 1 + 1 + 1 + 1)) ∧ Syn M s0 g m (j + 1 + 1 + 1 + 1 + 1 + 1) (emb (.over y l)) (IgQ Q emb (-1)) ∧ But [x] w y9) := by
          exact ⟨hK.run, ⟨fun h => absurd h (by have := HST.out; omega), fun h => ⟨HPAST.out, (HS7.out.past HST.out).2⟩⟩, HB7.out.trans hK.but⟩
        clear hA7 hK sc
        go_wp2_with fail
        go_ret
        exact ⟨-1, j + 1 + 1 + 1 + 1 + 1 + 1, .over y l, rfl, HF.out.1, HF.out.2.1, rfl, fun h => absurd h (by have := HST.out; omega), HF.out.2.2, by omega⟩
      · have HST : Hid (j + 1 + 1 + 1 + 1 + 1 ≤ m) := (by omega : j + 1 + 1 + 1 + 1 + 1 ≤ m)
        rw [decide_eq_false hst] at sc
        have hA7 := syn_add HR7.out HS7.out HBD.out 10 4294967295 (fun _ => HE.out.ct y l)
        clear hst
        go_wp2_with fail
        go_at_call 135; refine hA7.mono ?_; rintro e y9 ⟨v9, rfl, hK⟩
        have HF : Hid (RunOn y9 x A cap m g (M.rj s0 g m (j + 1 + 1 + 1 + 1 + 1 + 1)) ∧ Syn M s0 g m (j + 1 + 1 + 1 + 1 + 1 + 1) (emb (.over y l)) (IgQ Q emb y) ∧ But [x] w y9) := by
          have := hK.syn
          rw [HE.out.n6] at this
          refine ⟨hK.run, ⟨this.at', fun h => ⟨?_, (this.past h).2⟩⟩, HB7.out.trans hK.but⟩
          have hm : m = j + 1 + 1 + 1 + 1 + 1 := by have := HST.out; omega
          have h2 := HS7.out.at' HST.out
          rw [← hm] at h2
          exact .inr ⟨.ct y l, rfl, h2, rfl⟩
        clear hA7 hK sc
        go_wp2_with fail
        go_ret
        exact ⟨y, j + 1 + 1 + 1 + 1 + 1 + 1, .over y l, rfl, HF.out.1, HF.out.2.1, rfl, fun _ => rfl, HF.out.2.2, by omega⟩
    · rw [hmb] at hMk
      have hmv : mskOut v2 y = v2 - bitOf y := by unfold mskOut; rw [hmb]; rfl
      have hwv : IntKind.u64.wrap (v2 - bitOf y) = mskOut v2 y := by rw [← hmv]; exact wrap_u64 (by omega)
      clear hmb han hmv
      generalize mskOut v2 y = mv at *
      generalize bitOf y = bp at *
      go_wp2_with fail
      go_at_call 190; refine hMk.mono ?_; rintro e w1 ⟨rfl, rfl⟩
      go_wp2_with fail
      go_at_call 191; refine hBt.mono ?_; rintro e w1 ⟨rfl, rfl⟩
      clear hMk hBt
      go_wp2_with fail
      go_at_call 96; refine HSt.mono ?_; rintro e y6 ⟨⟨u6, rfl⟩, v6, hK⟩
      have HR6 : Hid (RunOn y6 x A cap m g (M.rj s0 g m (j + 1 + 1 + 1 + 1))) := hK.run
      have HS6 : Hid (Syn M s0 g m (j + 1 + 1 + 1 + 1) (emb (.un y l)) (fun q => Q q ∨ ∃ p', p'.live = true ∧ q = emb p' ∧ p'.obs = -1)) := by
        have := hK.syn
        rw [HE.out.n4] at this
        exact this.weak (fun r hr => by rcases hr with rfl | hr; exact .inr ⟨.um y l v2, rfl, rfl, rfl⟩; exact hr)
      have HB6 : Hid (But [x] w y6) := HB5.out.trans hK.but
      clear HSt hK HB5
      have hSt2 := syn_store HR6.out HS6.out HBD.out 9 l (fun _ => HE.out.un y l)
      clear HR6 HS5
      go_wp2_with fail
      go_at_call 96; refine hSt2.mono ?_; rintro e y7 ⟨⟨u7, rfl⟩, v7, hK⟩
      have HR7 : Hid (RunOn y7 x A cap m g (M.rj s0 g m (j + 1 + 1 + 1 + 1 + 1))) := hK.run
      have HS7 : Hid (Syn M s0 g m (j + 1 + 1 + 1 + 1 + 1) (emb (.ct y l)) (fun q => Q q ∨ ∃ p', p'.live = true ∧ q = emb p' ∧ p'.obs = -1)) := by
        have := hK.syn
        rw [HE.out.n5] at this
        exact this.weak (fun r hr => by rcases hr with rfl | hr; exact .inr ⟨.un y l, rfl, rfl, rfl⟩; exact hr)
      have HB7 : Hid (But [x] w y7) := HB6.out.trans hK.but
      clear hSt2 hK HB6
      clear HS6
      have sc := HR7.out.blk.cell 2 (v := .bool (M.rj s0 g m (j + 1 + 1 + 1 + 1 + 1)).stop) rfl
      rw [rj_stop HS7.out] at sc
      by_cases hst : m < j + 1 + 1 + 1 + 1 + 1
      · have HST : Hid (m < j + 1 + 1 + 1 + 1 + 1) := hst
        have HPAST : Hid (IgQ Q emb (-1) (M.run s0 g m)) := by
          rcases (HS7.out.past hst).1 with hq | ⟨p', h1, h2, h3⟩
          · exact .inl ⟨hq, rfl⟩
          · exact .inr ⟨p', h1, h2, h3.symm⟩
        rw [decide_eq_true hst] at sc
        have hA7 := syn_add HR7.out HS7.out HBD.out 10 4294967295 (fun _ => HE.out.ct y l)
        clear hst
        go_wp2_with fail
        go_at_call 135; refine hA7.mono ?_; rintro e y9 ⟨v9, rfl, hK⟩
        have HF : Hid (RunOn y9 x A cap m g (M.rj s0 g m (j + 1 + 1 + 1 + 1 + 1 + 1)) ∧ Syn M s0 g m (j + 1 + 1 + 1 + 1 + 1 + 1) (emb (.over y l)) (IgQ Q emb (-1)) ∧ But [x] w y9) := by
          exact ⟨hK.run, ⟨fun h => absurd h (by have := HST.out; omega), fun h => ⟨HPAST.out, (HS7.out.past HST.out).2⟩⟩, HB7.out.trans hK.but⟩
        clear hA7 hK sc
        go_wp2_with fail
        go_ret
        exact ⟨-1, j + 1 + 1 + 1 + 1 + 1 + 1, .over y l, rfl, HF.out.1, HF.out.2.1, rfl, fun h => absurd h (by have := HST.out; omega), HF.out.2.2, by omega⟩
      · have HST : Hid (j + 1 + 1 + 1 + 1 + 1 ≤ m) := (by omega : j + 1 + 1 + 1 + 1 + 1 ≤ m)
        rw [decide_eq_false hst] at sc
        have hA7 := syn_add HR7.out HS7.out HBD.out 10 4294967295 (fun _ => HE.out.ct y l)
        clear hst
        go_wp2_with fail
        go_at_call 135; refine hA7.mono ?_; rintro e y9 ⟨v9, rfl, hK⟩
        have HF : Hid (RunOn y9 x A cap m g (M.rj s0 g m (j + 1 + 1 + 1 + 1 + 1 + 1)) ∧ Syn M s0 g m (j + 1 + 1 + 1 + 1 + 1 + 1) (emb (.over y l)) (IgQ Q emb y) ∧ But [x] w y9) := by
          have := hK.syn
          rw [HE.out.n6] at this
          refine ⟨hK.run, ⟨this.at', fun h => ⟨?_, (this.past h).2⟩⟩, HB7.out.trans hK.but⟩
          have hm : m = j + 1 + 1 + 1 + 1 + 1 := by have := HST.out; omega
          have h2 := HS7.out.at' HST.out
          rw [← hm] at h2
          exact .inr ⟨.ct y l, rfl, h2, rfl⟩
        clear hA7 hK sc
        go_wp2_with fail
        go_ret
        exact ⟨y, j + 1 + 1 + 1 + 1 + 1 + 1, .over y l, rfl, HF.out.1, HF.out.2.1, rfl, fun _ => rfl, HF.out.2.2, by omega⟩

theorem rgiget_on (w : World) (x : Nat) (A : Option Addr) (cap m : Nat) (gf : Nat → Int) (P T G : Int) (t : IgT) (h : RunOn w x A cap m gf rn0) (hh : Hist (igPM P) IgT.ld gf m t) (hp : 0 ≤ P ∧ P ≤ 64) :
    Calls Tryz.prog 142 #[.pointer (some ⟨x, 0, none⟩), .agg #[.int .i64 P, .int .i64 T, .int .i64 G]] w fun e w' => e = .returned (.int .i64 t.obs) ∧ RunOn w' x A cap m gf ((igPM P).rn t m) ∧ But [x] w w' := by
  rw [← rj_start (M := igPM P) (s0 := IgT.ld) (g := gf) (m := m)] at h
  refine (syn_iget (ig_in P) hp h (Syn.start _ _ _ _) hh.bd).mono ?_
  rintro e w' ⟨r, j', p, rfl, h1, h2, h3, h4, h5, -⟩
  have hn : (igPM P).ax p = none := by cases p <;> first | rfl | cases h3
  have hr : r = t.obs := by
    rcases h2.fin hh (fun _ => hn) with ⟨e1, e2⟩ | ⟨-, (⟨hf, -⟩ | ⟨p', -, e1, e2⟩)⟩
    · rw [e1]; exact h4 (by omega)
    · exact hf.elim
    · rw [e1]; exact e2
  rw [hr]
  refine ⟨rfl, ?_, h5⟩
  rw [← rj_end h2 hh (fun _ => hn)]
  exact h1
end Go.Proofs.YtcjidigpdecdlaaGreat

namespace Go.Proofs.YtcjidigpdecdlaaGreat
open Go Go.RowKit
set_option linter.unusedVariables false
set_option maxRecDepth 100000
set_option linter.unusedSimpArgs false

/-- The answers of swaps. -/
def SwOk {σ : Type} (M : PM σ) (s0 : σ) (g : Nat → Int) (m : Nat) : Prop := ∀ j, j < m → ∀ a, M.ax (M.run s0 g j) = some a → a.k = 3 → g j ≤ 1
theorem SwOk.one {σ : Type} {M : PM σ} {s0 t : σ} {g : Nat → Int} {m j : Nat} {Q : σ → Prop} {v : Int} {a : Ax} (h : SwOk M s0 g m) (hS : Syn M s0 g m j t Q) (ha : M.ax t = some a) (hk : a.k = 3) (hv : j < m → v = g j) (hz : m ≤ j → v = 0) (hb : 0 ≤ v) : v = 0 ∨ v = 1 := by
  by_cases hj : j < m
  · have := h j hj a (by rw [hS.at' (by omega)]; exact ha) hk
    rw [hv hj] at hb ⊢
    omega
  · exact .inl (hz (by omega))

end Go.Proofs.YtcjidigpdecdlaaGreat

namespace Go.Proofs.YtcjidigpdecdlaaGreat
open Go Go.RowKit
set_option linter.unusedVariables false
set_option maxRecDepth 100000
set_option linter.unusedSimpArgs false

def siaM : PM SiT := siPM 1 1 1 0 0
def siaS0 : St := fresh (fun _ => 0)
def siaS : St := (siaM.steps 0 289 3 (.a, siaS0)).2
def siaT : SiT := (siaM.steps 0 289 3 (.a, siaS0)).1
def soaM : PM SoT := soPM 1 1 1 0 0 0
def soaT : SoT := (soaM.steps 0 289 3 (.sw, siaS)).1
theorem sia_ax : (siaM.ax (siaM.steps 0 289 1 (.a, siaS0)).1).isNone = false ∧ (siaM.ax (siaM.steps 0 289 2 (.a, siaS0)).1).isNone = false ∧ (siaM.ax (siaM.steps 0 289 3 (.a, siaS0)).1).isNone = true ∧ siaT.went = true := by decide +kernel
theorem soa_ax : (soaM.ax (soaM.steps 0 289 1 (.sw, siaS)).1).isNone = false ∧ (soaM.ax (soaM.steps 0 289 2 (.sw, siaS)).1).isNone = false ∧ (soaM.ax (soaM.steps 0 289 3 (.sw, siaS)).1).isNone = true := by decide +kernel
theorem soa_tells : soaT.came = true ∧ soaT.runs = true ∧ soaT.p 0 = 0 ∧ soaT.holds 0 = [] := by decide +kernel
theorem sia_low : Low siaS 3 := (PM.steps_low siaM 0 289 3 (.a, siaS0) (low_fresh _)).more (by omega)
set_option maxHeartbeats 8000000 in
theorem sysc_awake (w : World) : Calls Tryz.prog 62 #[] w fun e w' => e = .returned (.bool true) ∧ Below w.heap.size w w' := by
  have hL := lay_some 1 1 1 none 0 0 289 (fun _ => 0) (fun _ => 0) w (by omega) ⟨⟨by omega⟩, by omega, by omega, by omega⟩ (by omega) (fun h => absurd h (by omega)) (fun i h => absurd h (by omega))
  go_enter Tryz.func62, Tryz.ntmps62
  go_wp2_with fail
  go_at_call 14; refine hL.mono ?_; rintro e w1 ⟨cl, A, A', cap, cap', c, b, c', b', rfl, hLd⟩
  have HI1 : Hid (Is w1 168 A cap c b 289 siaS0) := hLd.two.m
  have HY1 : Hid (Lay w1 cl 1 1 1) := hLd.lay
  have HB1 : Hid (Below w.heap.size w w1) := hLd.below
  have hne : Hid (cl ≠ c ∧ cl ≠ b) := lay_ne hLd.lay (by decide) hLd.two.m (by omega)
  have hup : Hid (w.heap.size ≤ c ∧ w.heap.size ≤ b) := ⟨hLd.up.2.1, hLd.up.2.2.1⟩
  have hLA := si_laws 0 1 1 1 0 0 cl (by omega)
  have hGA : ((siFl 0 0 0 cl).I siaM).Good siaM := Fl.good hLA
  have hLB : (soCp 1 1 1 0 0 0 cl).Laws (soPM 1 1 1 0 0 0) (Rd.lay cl 1 1 1) 0 := so_laws (by omega) (by omega) (by omega) (by omega)
  have hGB : ((soCp 1 1 1 0 0 0 cl).I).Good soaM := Cp.good hLB
  have HST : Hid (Steps siaM ((siFl 0 0 0 cl).I siaM) (Rd.lay cl 1 1 1) 67 0 ∧ Steps soaM ((soCp 1 1 1 0 0 0 cl).I) (Rd.lay cl 1 1 1) 69 0) := ⟨Fl.steps hLA stepby_sin, Cp.steps hLB stepby_sout⟩
  have HRF : Hid (c ∉ (Rd.lay cl 1 1 1).B ∧ b ∉ (Rd.lay cl 1 1 1).B) := ⟨fun h => hne.out.1 (List.mem_singleton.1 h).symm, fun h => hne.out.2 (List.mem_singleton.1 h).symm⟩
  have hN := si_new w1 cl 0 1 1 1 0 0 hLd.lay (by omega) (by omega) (by omega)
  clear hL hLd hLA hLB
  go_wp2_with fail
  go_at_call 63; refine hN.mono ?_; rintro e w2 ⟨x, L0, rfl, ha1, ha2, ha3, -⟩
  have HS0 : Hid (Solo ((siFl 0 0 0 cl).I siaM) (Rd.lay cl 1 1 1) w w2 A cap c b 289 siaS0 x SiT.a L0) := Solo.begin HI1.out ha2 HB1.out hup.out ha1 ha3 HY1.out (fun k hk => by obtain rfl : k = cl := List.mem_singleton.1 hk; exact HY1.out.lt) HRF.out
  clear hN ha1 ha2 ha3 HI1 HY1 HB1
  have hS0 := HS0.out.step hGA HST.out.1 (fun Y h => h) (fun k hk => hk) (by omega) ((PM.steps_low siaM 0 289 0 (.a, siaS0) (low_fresh _)).more (by omega))
  rw [show (siaM.ax (siaM.goT 289 SiT.a siaS0)).isNone = false from sia_ax.1] at hS0
  go_wp2_with fail
  go_at_call 67; refine hS0.mono ?_; rintro e v0 ⟨rfl, L1, hs⟩
  have HS1 : Hid (Solo ((siFl 0 0 0 cl).I siaM) (Rd.lay cl 1 1 1) w v0 A cap c b 289 (siaM.steps 0 289 1 (.a, siaS0)).2 x (siaM.steps 0 289 1 (.a, siaS0)).1 L1) := hs
  clear hS0 hs HS0
  have hS1 := HS1.out.step hGA HST.out.1 (fun Y h => h) (fun k hk => hk) (by omega) ((PM.steps_low siaM 0 289 1 (.a, siaS0) (low_fresh _)).more (by omega))
  rw [show (siaM.ax (siaM.goT 289 (siaM.steps 0 289 1 (.a, siaS0)).1 (siaM.steps 0 289 1 (.a, siaS0)).2)).isNone = false from sia_ax.2.1] at hS1
  go_wp2_with fail
  go_at_call 67; refine hS1.mono ?_; rintro e v1 ⟨rfl, L2, hs⟩
  have HS2 : Hid (Solo ((siFl 0 0 0 cl).I siaM) (Rd.lay cl 1 1 1) w v1 A cap c b 289 (siaM.steps 0 289 2 (.a, siaS0)).2 x (siaM.steps 0 289 2 (.a, siaS0)).1 L2) := hs
  clear hS1 hs HS1
  have hS2 := HS2.out.step hGA HST.out.1 (fun Y h => h) (fun k hk => hk) (by omega) ((PM.steps_low siaM 0 289 2 (.a, siaS0) (low_fresh _)).more (by omega))
  rw [show (siaM.ax (siaM.goT 289 (siaM.steps 0 289 2 (.a, siaS0)).1 (siaM.steps 0 289 2 (.a, siaS0)).2)).isNone = true from sia_ax.2.2.1] at hS2
  go_wp2_with fail
  go_at_call 67; refine hS2.mono ?_; rintro e v2 ⟨rfl, L3, hs⟩
  have HS3 : Hid (Solo ((siFl 0 0 0 cl).I siaM) (Rd.lay cl 1 1 1) w v2 A cap c b 289 (siaM.steps 0 289 3 (.a, siaS0)).2 x (siaM.steps 0 289 3 (.a, siaS0)).1 L3) := hs
  clear hS2 hs HS2
  have HAM : Hid (∀ Y, But [c, b] v2 Y → ((siFl 0 0 0 cl).I siaM) Y x siaT L3) := fun Y hY => hGA.keep HS3.out.mach hY (fun k hk => by have := HS3.out.far k hk; simp; exact ⟨this.1, this.2.1⟩)
  have hN := so_new v2 cl 0 0 0 1 1 1 HS3.out.rd (by omega)
  have HRA : Hid (∀ k ∈ L3, k ≠ c ∧ k ≠ b ∧ k < v2.heap.size) := fun k hk => ⟨(HS3.out.far k hk).1, (HS3.out.far k hk).2.1, hGA.lt HS3.out.mach k hk⟩
  go_wp2_with fail
  go_at_call 74; refine hN.mono ?_; rintro e w4 ⟨z, K0, rfl, hb1, hb2, hb3, -⟩
  have HT0 : Hid (Solo ((soCp 1 1 1 0 0 0 cl).I) ((Rd.lay cl 1 1 1).and (Rd.mach hGA x siaT L3)) w w4 A cap c b 289 siaS z SoT.sw K0) := Solo.begin HS3.out.mem hb2 HS3.out.below hup.out hb1 hb3 ⟨HS3.out.rd, HS3.out.mach⟩ (fun k hk => by
    rcases List.mem_append.1 hk with h | h
    · exact HS3.out.rlt k h
    · exact (HRA.out k h).2.2) ⟨fun hk => by
    rcases List.mem_append.1 hk with h | h
    · exact HRF.out.1 h
    · exact (HRA.out c h).1 rfl, fun hk => by
    rcases List.mem_append.1 hk with h | h
    · exact HRF.out.2 h
    · exact (HRA.out b h).2.1 rfl⟩
  clear hN hb1 hb2 hb3 HS3 HAM HRA HRF
  have hS0 := HT0.out.step hGB HST.out.2 (fun Y (h : ((Rd.lay cl 1 1 1).and (Rd.mach hGA x siaT L3)).P Y) => h.1) (fun k hk => List.mem_append_left _ hk) (by omega) ((PM.steps_low soaM 0 289 0 (.sw, siaS) sia_low).more (by omega))
  rw [show (soaM.ax (soaM.goT 289 SoT.sw siaS)).isNone = false from soa_ax.1] at hS0
  go_wp2_with fail
  go_at_call 69; refine hS0.mono ?_; rintro e u0 ⟨rfl, K1, hs⟩
  have HT1 : Hid (Solo ((soCp 1 1 1 0 0 0 cl).I) ((Rd.lay cl 1 1 1).and (Rd.mach hGA x siaT L3)) w u0 A cap c b 289 (soaM.steps 0 289 1 (.sw, siaS)).2 z (soaM.steps 0 289 1 (.sw, siaS)).1 K1) := hs
  clear hS0 hs HT0
  have hS1 := HT1.out.step hGB HST.out.2 (fun Y (h : ((Rd.lay cl 1 1 1).and (Rd.mach hGA x siaT L3)).P Y) => h.1) (fun k hk => List.mem_append_left _ hk) (by omega) ((PM.steps_low soaM 0 289 1 (.sw, siaS) sia_low).more (by omega))
  rw [show (soaM.ax (soaM.goT 289 (soaM.steps 0 289 1 (.sw, siaS)).1 (soaM.steps 0 289 1 (.sw, siaS)).2)).isNone = false from soa_ax.2.1] at hS1
  go_wp2_with fail
  go_at_call 69; refine hS1.mono ?_; rintro e u1 ⟨rfl, K2, hs⟩
  have HT2 : Hid (Solo ((soCp 1 1 1 0 0 0 cl).I) ((Rd.lay cl 1 1 1).and (Rd.mach hGA x siaT L3)) w u1 A cap c b 289 (soaM.steps 0 289 2 (.sw, siaS)).2 z (soaM.steps 0 289 2 (.sw, siaS)).1 K2) := hs
  clear hS1 hs HT1
  have hS2 := HT2.out.step hGB HST.out.2 (fun Y (h : ((Rd.lay cl 1 1 1).and (Rd.mach hGA x siaT L3)).P Y) => h.1) (fun k hk => List.mem_append_left _ hk) (by omega) ((PM.steps_low soaM 0 289 2 (.sw, siaS) sia_low).more (by omega))
  rw [show (soaM.ax (soaM.goT 289 (soaM.steps 0 289 2 (.sw, siaS)).1 (soaM.steps 0 289 2 (.sw, siaS)).2)).isNone = true from soa_ax.2.2] at hS2
  go_wp2_with fail
  go_at_call 69; refine hS2.mono ?_; rintro e u2 ⟨rfl, K3, hs⟩
  have HT3 : Hid (Solo ((soCp 1 1 1 0 0 0 cl).I) ((Rd.lay cl 1 1 1).and (Rd.mach hGA x siaT L3)) w u2 A cap c b 289 (soaM.steps 0 289 3 (.sw, siaS)).2 z (soaM.steps 0 289 3 (.sw, siaS)).1 K3) := hs
  clear hS2 hs HT2
  have HMB : Hid (((soCp 1 1 1 0 0 0 cl).I) u2 z soaT K3) := HT3.out.mach
  have HMA : Hid (((siFl 0 0 0 cl).I siaM) u2 x siaT L3) := HT3.out.rd.2
  have HBF : Hid (Below w.heap.size w u2) := HT3.out.below
  have t1 : Calls Tryz.prog 66 #[.pointer (some ⟨x, 0, none⟩)] u2 fun e w' => e = .returned (.bool true) ∧ u2 = w' := by
    have h := si_tells HMA.out
    rw [sia_ax.2.2.2] at h
    exact h
  have t2 : Calls Tryz.prog 70 #[.pointer (some ⟨z, 0, none⟩)] u2 fun e w' => e = .returned (.bool true) ∧ u2 = w' := by
    have h := so_tells_C HMB.out
    rw [soa_tells.1] at h
    exact h
  have t3 : Calls Tryz.prog 71 #[.pointer (some ⟨z, 0, none⟩)] u2 fun e w' => e = .returned (.bool true) ∧ u2 = w' := by
    have h := so_tells_R HMB.out
    rw [soa_tells.2.1] at h
    exact h
  have t4 : Calls Tryz.prog 72 #[.pointer (some ⟨z, 0, none⟩)] u2 fun e w' => e = .returned (.int .i64 0) ∧ u2 = w' := by
    have h := so_tells_P HMB.out
    rw [soa_tells.2.2.1] at h
    exact h
  have t5 := so_tells_H HMB.out
  rw [soa_tells.2.2.2] at t5
  clear HT3 HMA HMB
  go_wp2_with fail
  go_at_call 66; refine t1.mono ?_; rintro e q1 ⟨rfl, rfl⟩
  clear t1
  go_wp2_with fail
  go_at_call 70; refine t2.mono ?_; rintro e q1 ⟨rfl, rfl⟩
  clear t2
  go_wp2_with fail
  go_at_call 71; refine t3.mono ?_; rintro e q1 ⟨rfl, rfl⟩
  clear t3
  go_wp2_with fail
  go_at_call 72; refine t4.mono ?_; rintro e q1 ⟨rfl, rfl⟩
  clear t4
  go_wp2_with fail
  go_at_call 73; refine t5.mono ?_; rintro e q1 ⟨v, rfl, hv, hb⟩
  obtain ⟨A5, cp5, rfl, -, -⟩ := hv.sees
  have HF : Hid (Below w.heap.size w q1) := seq HBF.out hb
  clear t5 hv hb
  go_wp2_with fail
  go_ret
  exact ⟨rfl, HF.out⟩
end Go.Proofs.YtcjidigpdecdlaaGreat

namespace Go.Proofs.YtcjidigpdecdlaaGreat
open Go Go.ChangeShapes Go.WideShapes Go.ChangeAt Go.RowKit

theorem below_trodAll {H : Type} {enc : TypeId × Value → H} {P : Program} (hl : laidOutB P = true) {W W' : World} (hb : Below W.heap.size W W') :
    ∀ (ts : List TypeId) (vs : List Value) (ds : List (DataW H)) (ps : List MemPlace), (ts.all fun t => P.readableRec t && decide (t < P.types.size)) = true →
      DataW.TrodAll enc P W 0 (fun _ => true) true ts vs ds ps → DataW.TrodAll enc P W' 0 (fun b => decide (b < W.heap.size)) true ts vs ds ps := by
  intro ts
  induction ts with
  | nil =>
    intro vs ds ps _ h
    cases vs <;> cases ds <;> first | exact h | exact (h : False).elim
  | cons t ts ih =>
    intro vs ds ps hall h
    cases vs with
    | nil => exact (h : False).elim
    | cons v vs =>
      cases ds with
      | nil => exact (h : False).elim
      | cons d ds =>
        obtain ⟨p, q, h1, h2, rfl⟩ := h
        simp only [List.all_cons, Bool.and_eq_true, decide_eq_true_eq] at hall
        have lt : ∀ x ∈ p, x.block < W.heap.size := by obtain ⟨m, hm⟩ := h1; exact DataW.trod_lt m _ _ _ hm
        exact ⟨p, q, Below.trod hl hall.1.1 hall.1.2 h1 hb lt, ih vs ds q hall.2 h2, rfl⟩

theorem law_post {H : Type} {enc : TypeId × Value → H} {P : Program} {f : Func} {s : ChangeSpec} {apart : Bool} {W W' : World} {args : Array Value} {ds gs : List (DataW H)} {before : List MemPlace} {bt : TypeId}
    (hl : laidOutB P = true) (hr : f.resultTypes.toList = [bt]) (hbt : P.underlying bt = some .bool) (hts : (f.params.toList.all fun t => P.readableRec t && decide (t < P.types.size)) = true)
    (hvars : s.vars = []) (hres : (s.fn H ds).results = [.lit (.bool true)]) (harg : (s.fn H ds).args = ds) (hvs : (s.fn H ds).vars = [])
    (hW : DataW.Whole enc P f.params.toList s.vars apart W args.toList ds gs before) (hb : Below W.heap.size W W') :
    s.post enc P f apart true false false W args (.bool true) W' := by
  have hW' := hW
  obtain ⟨p, q, hA, hV, rfl, hfz, hnd⟩ := hW
  have hg : gs = [] ∧ q = [] := by rw [hvars] at hV; exact trodVars_none hV
  obtain ⟨rfl, rfl⟩ := hg
  refine ⟨ds, [], _, [], p, [], hW', ?_, ?_, ?_, hb.frame _, fun h => by cases h⟩
  · have e : (Value.bool true).resultList f.resultTypes.size = [.bool true] := by
      have hs : f.resultTypes.size = 1 := by rw [← Array.length_toList, hr]; rfl
      rw [hs]; rfl
    rw [List.append_nil, hres, hr, e]
    exact trodAll_mk1 (shut_bool hbt _)
  · rw [List.append_nil, harg]
    exact below_trodAll hl hb _ _ _ _ hts hA
  · rw [List.append_nil, hvs, hvars]
    rfl
end Go.Proofs.YtcjidigpdecdlaaGreat

namespace Go.Proofs.YtcjidigpdecdlaaGreat
open Go Go.RowKit
set_option linter.unusedVariables false
set_option maxRecDepth 100000
set_option linter.unusedSimpArgs false

theorem HdAt.ret4 {σ : Type} {w y : World} {x : Nat} {A : Option Addr} {cap m : Nat} {g : Nat → Int} {M : PM σ} {s0 : σ} {j0 j : Nat} {t : σ} {Q : σ → Prop} {cf : Array Value} {HTy : TypeId} {z : Array Value} {o : Nat} {oc : Array Value} (h : HdAt w y x A cap m g M s0 j0 j t Q cf HTy z o oc) {a b c d z0 z1 z2 z3 : Value} (hz : z = #[z0, z1, z2, z3]) : RunOn ((((y.setCell ⟨w.heap.size + 1, 0, none⟩ a).setCell ⟨w.heap.size + 1, 1, none⟩ b).setCell ⟨w.heap.size + 1, 2, none⟩ c).setCell ⟨w.heap.size + 1, 3, none⟩ d) x A cap m g (M.rj s0 g m j) ∧ But [x] w ((((y.setCell ⟨w.heap.size + 1, 0, none⟩ a).setCell ⟨w.heap.size + 1, 1, none⟩ b).setCell ⟨w.heap.size + 1, 2, none⟩ c).setCell ⟨w.heap.size + 1, 3, none⟩ d) ∧ ((((y.setCell ⟨w.heap.size + 1, 0, none⟩ a).setCell ⟨w.heap.size + 1, 1, none⟩ b).setCell ⟨w.heap.size + 1, 2, none⟩ c).setCell ⟨w.heap.size + 1, 3, none⟩ d).heap[w.heap.size + 1]? = some (.cells #[a, b, c, d] HTy (0, 0)) ∧ But [w.heap.size + 1] y ((((y.setCell ⟨w.heap.size + 1, 0, none⟩ a).setCell ⟨w.heap.size + 1, 1, none⟩ b).setCell ⟨w.heap.size + 1, 2, none⟩ c).setCell ⟨w.heap.size + 1, 3, none⟩ d) := by
  subst hz
  have hx := h.x
  have hU : But [w.heap.size + 1] y ((((y.setCell ⟨w.heap.size + 1, 0, none⟩ a).setCell ⟨w.heap.size + 1, 1, none⟩ b).setCell ⟨w.heap.size + 1, 2, none⟩ c).setCell ⟨w.heap.size + 1, 3, none⟩ d) := ((((But.refl _ y).set (g := w.heap.size + 1) (.inl (by simp)) 0 _).set (g := w.heap.size + 1) (.inl (by simp)) 1 _).set (g := w.heap.size + 1) (.inl (by simp)) 2 _).set (g := w.heap.size + 1) (.inl (by simp)) 3 _
  have hZ := (((h.res.set 0 a).set 1 b).set 2 c).set 3 d
  exact ⟨h.run.but hU (by simp; omega) (h.far.of (by intro k hk; simp at hk ⊢; omega)), But.lowk h.but hU (by omega), hZ.heap, hU⟩
theorem Syn.reset {σ : Type} {M : PM σ} {s0 : σ} {g : Nat → Int} {m j : Nat} {t : σ} {Q : σ → Prop} (h : Syn M s0 g m j t Q) (hj : j ≤ m) (Q2 : σ → Prop) : Syn M s0 g m j t Q2 := ⟨h.at', fun hm => absurd hm (by omega)⟩
/-- What a slice tells, where its row does not lie in some blocks. -/
def Hol (y : World) (v : Value) (l : List Int) (ks : List Nat) : Prop := ∃ (A : Option Addr) (cp : Nat), v = .slice A l.length cp ∧ SeesL y (.slice A l.length cp) l ∧ (0 < l.length → ∀ b off : Nat, A = some ⟨b, off, none⟩ → b ∉ ks)
theorem Hol.nil (y : World) (ks : List Nat) : Hol y (.slice none 0 0) [] ks := ⟨none, 0, rfl, ⟨none, 0, rfl, fun _ => ⟨rfl, rfl⟩, fun h => absurd h (by simp)⟩, fun h => absurd h (by simp)⟩
theorem Hol.but {y y' : World} {v : Value} {l : List Int} {ks : List Nat} {k : Nat} (h : Hol y v l ks) (hB : But [k] y y') (hk : k ∈ ks) : Hol y' v l ks := by
  obtain ⟨A, cp, e, h1, h2⟩ := h
  refine ⟨A, cp, e, ?_, h2⟩
  obtain ⟨A', cap', e', h3, h4⟩ := h1
  refine ⟨A', cap', e', h3, fun hn => ?_⟩
  obtain ⟨b, off, e1, h5, h6⟩ := h4 hn
  have eA : A = A' := by injection e'
  have hb : b ∉ ks := h2 hn b off (eA.trans e1)
  refine ⟨b, off, e1, Nat.lt_of_lt_of_le h5 hB.size, fun j hj => ?_⟩
  rw [← h6 j hj]
  have hk' := hB.block b h5 (by simp; rintro rfl; exact hb hk)
  simp only [World.cell?]
  rw [hk']
theorem Hol.below {y y' : World} {v : Value} {l : List Int} {ks : List Nat} (h : Hol y v l ks) (hB : Below y.heap.size y y') : Hol y' v l ks := by
  obtain ⟨A, cp, e, h1, h2⟩ := h
  exact ⟨A, cp, e, h1.below hB, h2⟩
theorem Hol.sees {y : World} {v : Value} {l : List Int} {ks : List Nat} (h : Hol y v l ks) : SeesL y v l := by
  obtain ⟨A, cp, e, h1, -⟩ := h
  rw [e]; exact h1
theorem Hol.one (y : World) (g : Int) (ks : List Nat) (hk : ∀ k ∈ ks, k < y.heap.size) : Hol (y.alloc (.cells #[.int .i64 g] 3)) (.slice (some ⟨y.heap.size, 0, none⟩) 1 1) [g] ks := by
  have hX := Blk.new y #[.int .i64 g] 3
  refine ⟨some ⟨y.heap.size, 0, none⟩, 1, rfl, ⟨_, 1, rfl, (fun h => by cases h), fun _ => ⟨y.heap.size, 0, rfl, hX.lt, fun j hj => ?_⟩⟩, fun _ b off e hm => ?_⟩
  · have hj4 : j < 1 := hj
    obtain rfl : j = 0 := by omega
    exact hX.cell 0 rfl
  · cases e
    have := hk _ hm
    omega
section
variable {σ : Type} {M : PM σ} {P T G t p g : Int} {emb : SoT → σ}
def soA1 (emb : SoT → σ) : AcqT → σ
  | .over _ => emb (.get1 .ld)
  | a => emb (.acq1 a)
def soA2 (emb : SoT → σ) (o : Option IgT) : AcqT → σ
  | .over _ => emb (.get2 .ld)
  | a => emb (.acq2 o a)
theorem so_acqIn1 (hE : PmIn M (soPM P T G t p g) emb) : AcqIn M 0 t (soA1 emb) := by
  refine ⟨hE.ax (.acq1 .fresh) _ rfl, fun u => hE.ax (.acq1 (.wait u)) _ rfl, fun u => hE.ax (.acq1 (.has u)) _ rfl, fun v => hE.nx (.acq1 .fresh) _ v rfl, ?_, fun u v => hE.nx (.acq1 (.has u)) _ v rfl⟩
  intro u v
  refine (hE.nx (.acq1 (.wait u)) _ v rfl).trans ?_
  by_cases h : v = u
  · subst h
    have e : (acqPM (wd 0 2 3 0 0) (wd 0 2 3 0 1) (wd 0 2 3 0 2) t).nx (.wait v) v = .has v := if_pos rfl
    show emb (if ((acqPM (wd 0 2 3 0 0) (wd 0 2 3 0 1) (wd 0 2 3 0 2) t).ax ((acqPM (wd 0 2 3 0 0) (wd 0 2 3 0 1) (wd 0 2 3 0 2) t).nx (.wait v) v)).isSome = true then .acq1 ((acqPM (wd 0 2 3 0 0) (wd 0 2 3 0 1) (wd 0 2 3 0 2) t).nx (.wait v) v) else .get1 .ld) = _
    rw [e, if_pos rfl]
    rfl
  · have e : (acqPM (wd 0 2 3 0 0) (wd 0 2 3 0 1) (wd 0 2 3 0 2) t).nx (.wait u) v = .wait u := if_neg h
    show emb (if ((acqPM (wd 0 2 3 0 0) (wd 0 2 3 0 1) (wd 0 2 3 0 2) t).ax ((acqPM (wd 0 2 3 0 0) (wd 0 2 3 0 1) (wd 0 2 3 0 2) t).nx (.wait u) v)).isSome = true then .acq1 ((acqPM (wd 0 2 3 0 0) (wd 0 2 3 0 1) (wd 0 2 3 0 2) t).nx (.wait u) v) else .get1 .ld) = _
    rw [e, if_neg h]
    rfl
theorem so_acqIn2 (hE : PmIn M (soPM P T G t p g) emb) (o : Option IgT) : AcqIn M 0 t (soA2 emb o) := by
  refine ⟨hE.ax (.acq2 o .fresh) _ rfl, fun u => hE.ax (.acq2 o (.wait u)) _ rfl, fun u => hE.ax (.acq2 o (.has u)) _ rfl, fun v => hE.nx (.acq2 o .fresh) _ v rfl, ?_, fun u v => hE.nx (.acq2 o (.has u)) _ v rfl⟩
  intro u v
  refine (hE.nx (.acq2 o (.wait u)) _ v rfl).trans ?_
  by_cases h : v = u
  · subst h
    have e : (acqPM (wd 0 2 3 0 0) (wd 0 2 3 0 1) (wd 0 2 3 0 2) t).nx (.wait v) v = .has v := if_pos rfl
    show emb (if ((acqPM (wd 0 2 3 0 0) (wd 0 2 3 0 1) (wd 0 2 3 0 2) t).ax ((acqPM (wd 0 2 3 0 0) (wd 0 2 3 0 1) (wd 0 2 3 0 2) t).nx (.wait v) v)).isSome = true then .acq2 o ((acqPM (wd 0 2 3 0 0) (wd 0 2 3 0 1) (wd 0 2 3 0 2) t).nx (.wait v) v) else .get2 .ld) = _
    rw [e, if_pos rfl]
    rfl
  · have e : (acqPM (wd 0 2 3 0 0) (wd 0 2 3 0 1) (wd 0 2 3 0 2) t).nx (.wait u) v = .wait u := if_neg h
    show emb (if ((acqPM (wd 0 2 3 0 0) (wd 0 2 3 0 1) (wd 0 2 3 0 2) t).ax ((acqPM (wd 0 2 3 0 0) (wd 0 2 3 0 1) (wd 0 2 3 0 2) t).nx (.wait u) v)).isSome = true then .acq2 o ((acqPM (wd 0 2 3 0 0) (wd 0 2 3 0 1) (wd 0 2 3 0 2) t).nx (.wait u) v) else .get2 .ld) = _
    rw [e, if_neg h]
    rfl
theorem so_ig_live {q : IgT} : ((igPM P).ax q).isSome = q.live := by cases q <;> rfl
def soG1 (emb : SoT → σ) (q : IgT) : σ := if q.live = true then emb (.get1 q) else emb (.rel1 q .fresh)
def soG2 (emb : SoT → σ) (q : IgT) : σ := if q.live = true then emb (.get2 q) else if q.obs = -1 then emb (.que q (.ch 0)) else emb (.rel2 q .fresh)
theorem so_igIn1 (hE : PmIn M (soPM P T G t p g) emb) : IgIn M P (soG1 emb) := by
  have key : ∀ q a v, (igPM P).ax q = some a → M.nx (soG1 emb q) v = soG1 emb ((igPM P).nx q v) := fun q a v h => by
    have hl : q.live = true := by rw [← so_ig_live (P := P), h]; rfl
    have e1 : soG1 emb q = emb (.get1 q) := if_pos hl
    rw [e1, hE.nx (.get1 q) a v h]
    show emb (if ((igPM P).ax ((igPM P).nx q v)).isSome = true then .get1 ((igPM P).nx q v) else .rel1 ((igPM P).nx q v) .fresh) = soG1 emb ((igPM P).nx q v)
    unfold soG1
    rw [so_ig_live]
    split
    · rfl
    · rfl
  exact ⟨hE.ax (.get1 .ld) _ rfl, fun y => hE.ax (.get1 (.lk y)) _ rfl, fun y l => hE.ax (.get1 (.ms y l)) _ rfl, fun y l w => hE.ax (.get1 (.um y l w)) _ rfl, fun y l => hE.ax (.get1 (.un y l)) _ rfl, fun y l => hE.ax (.get1 (.ct y l)) _ rfl,
    fun v => (key .ld _ v rfl).trans (by show soG1 emb (if v = 0 then .none' else .lk (gw v)) = _; split <;> rfl), fun y v => key (.lk y) _ v rfl, fun y l v => key (.ms y l) _ v rfl, fun y l w v => key (.um y l w) _ v rfl, fun y l v => key (.un y l) _ v rfl, fun y l v => key (.ct y l) _ v rfl⟩
theorem so_igIn2 (hE : PmIn M (soPM P T G t p g) emb) : IgIn M P (soG2 emb) := by
  have key : ∀ q a v, (igPM P).ax q = some a → M.nx (soG2 emb q) v = soG2 emb ((igPM P).nx q v) := fun q a v h => by
    have hl : q.live = true := by rw [← so_ig_live (P := P), h]; rfl
    have e1 : soG2 emb q = emb (.get2 q) := if_pos hl
    rw [e1, hE.nx (.get2 q) a v h]
    show emb (if ((igPM P).ax ((igPM P).nx q v)).isSome = true then .get2 ((igPM P).nx q v) else if ((igPM P).nx q v).obs = -1 then .que ((igPM P).nx q v) (.ch 0) else .rel2 ((igPM P).nx q v) .fresh) = soG2 emb ((igPM P).nx q v)
    unfold soG2
    rw [so_ig_live]
    split
    · rfl
    · split <;> rfl
  exact ⟨hE.ax (.get2 .ld) _ rfl, fun y => hE.ax (.get2 (.lk y)) _ rfl, fun y l => hE.ax (.get2 (.ms y l)) _ rfl, fun y l w => hE.ax (.get2 (.um y l w)) _ rfl, fun y l => hE.ax (.get2 (.un y l)) _ rfl, fun y l => hE.ax (.get2 (.ct y l)) _ rfl,
    fun v => (key .ld _ v rfl).trans (by show soG2 emb (if v = 0 then .none' else .lk (gw v)) = _; split <;> rfl), fun y v => key (.lk y) _ v rfl, fun y l v => key (.ms y l) _ v rfl, fun y l w v => key (.um y l w) _ v rfl, fun y l v => key (.un y l) _ v rfl, fun y l v => key (.ct y l) _ v rfl⟩
def soR1 (emb : SoT → σ) (q : IgT) : RelT → σ
  | .over => emb (if q.obs = -1 then .wt (some q) else .ro1 q)
  | r => emb (.rel1 q r)
theorem so_relIn1 (hE : PmIn M (soPM P T G t p g) emb) (q : IgT) : RelIn M 0 (soR1 emb q) :=
  ⟨hE.ax (.rel1 q .fresh) _ rfl, hE.ax (.rel1 q .pass) _ rfl, fun v => hE.nx (.rel1 q .fresh) _ v rfl, fun v => hE.nx (.rel1 q .pass) _ v rfl⟩
def soR2 (emb : SoT → σ) (q : IgT) : RelT → σ
  | .over => emb (.ro2 q)
  | r => emb (.rel2 q r)
theorem so_relIn2 (hE : PmIn M (soPM P T G t p g) emb) (q : IgT) : RelIn M 0 (soR2 emb q) :=
  ⟨hE.ax (.rel2 q .fresh) _ rfl, hE.ax (.rel2 q .pass) _ rfl, fun v => hE.nx (.rel2 q .fresh) _ v rfl, fun v => hE.nx (.rel2 q .pass) _ v rfl⟩
def soR3 (emb : SoT → σ) (q : IgT) (u : QpT) : RelT → σ
  | .over => emb (.over4 q u)
  | r => emb (.rel3 q u r)
theorem so_relIn3 (hE : PmIn M (soPM P T G t p g) emb) (q : IgT) (u : QpT) : RelIn M 0 (soR3 emb q u) :=
  ⟨hE.ax (.rel3 q u .fresh) _ rfl, hE.ax (.rel3 q u .pass) _ rfl, fun v => hE.nx (.rel3 q u .fresh) _ v rfl, fun v => hE.nx (.rel3 q u .pass) _ v rfl⟩
def soU (emb : SoT → σ) (q : IgT) : QpT → σ
  | .over => emb (.rel3 q .over .fresh)
  | .done0 => emb (.rel3 q .done0 .fresh)
  | u => emb (.que q u)
theorem so_qpIn (hE : PmIn M (soPM P T G t p g) emb) (q : IgT) : QpIn M (fun y => wd (20 + P * 264 + T * 3) G 2 y 1) [g] (soU emb q) where
  ch := fun k => hE.ax (.que q (.ch k)) _ rfl
  ld := hE.ax (.que q .ld) _ rfl
  pt := fun u => hE.ax (.que q (.pt u)) _ rfl
  tr := hE.ax (.que q .tr) _ rfl
  ct := hE.ax (.que q .ct) _ rfl
  n1 := fun k v => by
    refine (hE.nx (.que q (.ch k)) _ v rfl).trans ?_
    show emb (if ((qpPM (fun y => wd (20 + P * 264 + T * 3) G 2 y 1) [g]).ax (if k + 1 < [g].length then QpT.ch (k + 1) else .ld)).isSome = true then .que q (if k + 1 < [g].length then QpT.ch (k + 1) else .ld) else .rel3 q (if k + 1 < [g].length then QpT.ch (k + 1) else .ld) .fresh) = _
    split <;> (split <;> first | rfl | (rename_i h _; exact absurd rfl h) | (rename_i h; exact absurd rfl h))
  n2 := fun v => hE.nx (.que q .ld) _ v rfl
  n3 := fun u v => hE.nx (.que q (.pt u)) _ v rfl
  n4 := fun v => hE.nx (.que q .tr) _ v rfl
  n5 := fun v => hE.nx (.que q .ct) _ v rfl
end
/-- Where it stopped, and what it answered. -/
def SoQ {σ : Type} (Q : σ → Prop) (emb : SoT → σ) (P T G t p g : Int) (p' : Int) (c r : Bool) (l : List Int) (q : σ) : Prop := (Q q ∧ p' = -1 ∧ c = false ∧ r = false ∧ l = []) ∨ ∃ s a, (soPM P T G t p g).ax s = some a ∧ q = emb s ∧ p' = s.p p ∧ c = s.came ∧ r = s.runs ∧ l = s.holds g
def SoGot {σ : Type} (M : PM σ) (emb : SoT → σ) (P T G t p g : Int) (w : World) (x : Nat) (A : Option Addr) (cap m : Nat) (gf : Nat → Int) (s0 : σ) (Q : σ → Prop) (j : Nat) (e : Ending) (w' : World) : Prop :=
  ∃ p' c r v l j' s, e = .returned (.agg #[.int .i64 p', .bool c, .bool r, v]) ∧ SeesL w' v l ∧ RunOn w' x A cap m gf (M.rj s0 gf m j') ∧ Syn M s0 gf m j' (emb s) (SoQ Q emb P T G t p g p' c r l) ∧ (soPM P T G t p g).ax s = none ∧ (j' ≤ m → p' = s.p p ∧ c = s.came ∧ r = s.runs ∧ l = s.holds g) ∧ But [x] w w' ∧ j ≤ j'
set_option maxHeartbeats 16000000 in
theorem syn_sout {σ : Type} {M : PM σ} {P T G t p g : Int} {emb : SoT → σ} (hE : PmIn M (soPM P T G t p g) emb) (hp : 0 ≤ P ∧ P ≤ 64) (hT : 0 ≤ T ∧ T ≤ 65536) (hG : 0 ≤ G ∧ G ≤ 65536) (hw : 0 ≤ t ∧ t ≤ 300)
    {w : World} {x : Nat} {A : Option Addr} {cap m : Nat} {gf : Nat → Int} {s0 : σ} {j : Nat} {Q : σ → Prop} (hR : RunOn w x A cap m gf (M.rj s0 gf m j)) (hS : Syn M s0 gf m j (emb .sw) Q) (hb : ∀ j, j < m → 0 ≤ gf j ∧ gf j ≤ 18446744073709551615) (hsw : SwOk M s0 gf m) :
    Calls Tryz.prog 75 #[.pointer (some ⟨x, 0, none⟩), .agg #[.int .i64 P, .int .i64 T, .int .i64 G], .int .i64 t, .int .i64 p, .int .i64 g] w fun e w' => SoGot M emb P T G t p g w x A cap m gf s0 Q j e w' := by
  have HH0 : Hid (HdAt w (((w.alloc (.cells #[.int .i64 P, .int .i64 T, .int .i64 G] 23)).alloc (.cells #[.int .i64 0, .bool false, .bool false, .slice none 0 0] 111)).alloc (.cells #[.int .i64 (-1), .bool false, .bool false, .slice none 0 0] 111)) x A cap m gf M s0 j j (emb .sw) Q #[.int .i64 P, .int .i64 T, .int .i64 G] 111 #[.int .i64 0, .bool false, .bool false, .slice none 0 0] (w.heap.size + 1 + 1) #[.int .i64 (-1), .bool false, .bool false, .slice none 0 0]) := by
    have hxw := hR.blk.lt
    have b1 : Below w.heap.size w (w.alloc (.cells #[.int .i64 P, .int .i64 T, .int .i64 G] 23)) := (Below.refl _ _).alloc (Nat.le_refl _) _
    have b2 : Below w.heap.size w ((w.alloc (.cells #[.int .i64 P, .int .i64 T, .int .i64 G] 23)).alloc (.cells #[.int .i64 0, .bool false, .bool false, .slice none 0 0] 111)) := b1.alloc (by rw [World.size_alloc]; omega) _
    have b3 : Below w.heap.size w (((w.alloc (.cells #[.int .i64 P, .int .i64 T, .int .i64 G] 23)).alloc (.cells #[.int .i64 0, .bool false, .bool false, .slice none 0 0] 111)).alloc (.cells #[.int .i64 (-1), .bool false, .bool false, .slice none 0 0] 111)) := b2.alloc (by rw [World.size_alloc, World.size_alloc]; omega) _
    have c1 := Blk.new w #[.int .i64 P, .int .i64 T, .int .i64 G] 23
    have c2 := Blk.new (w.alloc (.cells #[.int .i64 P, .int .i64 T, .int .i64 G] 23)) #[.int .i64 0, .bool false, .bool false, .slice none 0 0] 111
    rw [World.size_alloc] at c2
    have c3 := Blk.new ((w.alloc (.cells #[.int .i64 P, .int .i64 T, .int .i64 G] 23)).alloc (.cells #[.int .i64 0, .bool false, .bool false, .slice none 0 0] 111)) #[.int .i64 (-1), .bool false, .bool false, .slice none 0 0] 111
    rw [World.size_alloc, World.size_alloc] at c3
    refine ⟨hR.below b3, hS, But.of_below b3, (c1.al _).al _, c2.al _, c3, by omega, hxw, fun b e hm => ?_, Nat.le_refl _⟩
    simp at hm
    rcases hR.got.form with ⟨e0, _⟩ | ⟨gb, e0, hl⟩
    · rw [e0] at e; cases e
    · rw [e0] at e; cases e; omega
  have HE : Hid (PmIn M (soPM P T G t p g) emb) := hE
  have HBD : Hid (∀ j, j < m → 0 ≤ gf j ∧ gf j ≤ 18446744073709551615) := hb
  have HSW : Hid (SwOk M s0 gf m) := hsw
  have HP : Hid ((0 ≤ P ∧ P ≤ 64) ∧ (0 ≤ T ∧ T ≤ 65536) ∧ (0 ≤ G ∧ G ≤ 65536) ∧ (0 ≤ t ∧ t ≤ 300)) := ⟨hp, hT, hG, hw⟩
  have hGA := fun W => refgAt_any P T G g 0 W hp hT hG.2 (by omega)
  have HPA : Hid (∀ f W, 0 ≤ f ∧ f < 8 → Calls Tryz.prog 136 #[.agg #[.int .i64 P, .int .i64 T, .int .i64 G], .int .i64 p, .int .i64 f] W fun e w' => e = .returned (.int .i64 (wd 20 P 264 p f)) ∧ Below W.heap.size W w') := fun f W hf => rprcAt_all P T G p f W hp.2 hf
  have HAX : Hid (∀ o, M.ax (emb (.wt o)) = some (axSt (wd (20 + P * 264 + T * 3) G 2 g 0) 1)) := fun o => hE.ax (.wt o) _ rfl
  have HAX0 : Hid (∀ o, (soPM P T G t p g).ax (.wt o) = some (axSt (wd (20 + P * 264 + T * 3) G 2 g 0) 1)) := fun o => rfl
  have HAX3 : Hid (M.ax (emb .rn) = some (axSt (wd (20 + P * 264 + T * 3) G 2 g 0) 2) ∧ ∀ q, M.ax (emb (.rn1 q)) = some (axSt (wd (20 + P * 264 + T * 3) G 2 g 0) 2)) := ⟨hE.ax .rn _ rfl, fun q => hE.ax (.rn1 q) _ rfl⟩
  clear hR hS hb hp hT hG hw hE hsw
  go_enter Tryz.func75, Tryz.ntmps75
  go_wp2_with fail
  generalize ((w.alloc (.cells #[.int .i64 P, .int .i64 T, .int .i64 G] 23)).alloc (.cells #[.int .i64 0, .bool false, .bool false, .slice none 0 0] 111)).alloc (.cells #[.int .i64 (-1), .bool false, .bool false, .slice none 0 0] 111) = y0 at *
  have k0 := HH0.out.cfg.cell 0 (v := .int .i64 P) rfl
  have k1 := HH0.out.cfg.cell 1 (v := .int .i64 T) rfl
  have k2 := HH0.out.cfg.cell 2 (v := .int .i64 G) rfl
  have hGA2 := hGA y0
  clear hGA
  go_wp2_with fail
  go_at_call 97; refine hGA2.mono ?_; rintro e y1 ⟨rfl, h1⟩
  have HH1 : Hid (HdAt w y1 x A cap m gf M s0 j j (emb .sw) Q #[.int .i64 P, .int .i64 T, .int .i64 G] 111 #[.int .i64 0, .bool false, .bool false, .slice none 0 0] (w.heap.size + 1 + 1) #[.int .i64 (-1), .bool false, .bool false, .slice none 0 0]) := HH0.out.low h1
  clear hGA2 h1 k0 k1 k2 HH0
  generalize wd (20 + P * 264 + T * 3) G 2 g 0 = at0 at *
  have k0 := HH1.out.cfg.cell 0 (v := .int .i64 P) rfl
  have k1 := HH1.out.cfg.cell 1 (v := .int .i64 T) rfl
  have k2 := HH1.out.cfg.cell 2 (v := .int .i64 G) rfl
  have hPA2 := HPA.out 0 y1 (by omega)
  go_wp2_with fail
  go_at_call 136; refine hPA2.mono ?_; rintro e y2 ⟨rfl, h2⟩
  have HH2 : Hid (HdAt w y2 x A cap m gf M s0 j j (emb .sw) Q #[.int .i64 P, .int .i64 T, .int .i64 G] 111 #[.int .i64 0, .bool false, .bool false, .slice none 0 0] (w.heap.size + 1 + 1) #[.int .i64 (-1), .bool false, .bool false, .slice none 0 0]) := HH1.out.low h2
  have HAXS : Hid (M.ax (emb .sw) = some (axSw (wd 20 P 264 p 0) 2 1)) := HE.out.ax .sw _ rfl
  generalize wd 20 P 264 p 0 = ats at *
  have hA := syn_swap HH2.out.run HH2.out.syn HBD.out ats 2 1 (fun _ => HAXS.out)
  clear hPA2 h2 k0 k1 k2 HH1
  go_wp2_with fail
  go_at_call 123; refine hA.mono ?_; rintro e y3 ⟨v, rfl, hK⟩
  have hv := HSW.out.one HH2.out.syn HAXS.out rfl hK.val hK.zero hK.bd.1
  have HZ : Hid (m ≤ j → v = 0) := hK.zero
  have HH3 : Hid (HdAt w y3 x A cap m gf M s0 j (j + 1) (emb (if v = 0 then .ld else .ct)) (fun r => r = emb .sw ∨ Q r) #[.int .i64 P, .int .i64 T, .int .i64 G] 111 #[.int .i64 0, .bool false, .bool false, .slice none 0 0] (w.heap.size + 1 + 1) #[.int .i64 (-1), .bool false, .bool false, .slice none 0 0]) := by
    have h := HH2.out.step hK
    rw [HE.out.nx .sw _ _ rfl] at h
    exact h
  clear hA hK HH2
  rcases hv with rfl | rfl
  · have HH4 : Hid (HdAt w y3 x A cap m gf M s0 j (j + 1) (emb .ld) (SoQ Q emb P T G t p g (-1) false false []) #[.int .i64 P, .int .i64 T, .int .i64 G] 111 #[.int .i64 0, .bool false, .bool false, .slice none 0 0] (w.heap.size + 1 + 1) #[.int .i64 (-1), .bool false, .bool false, .slice none 0 0]) := HH3.out.as (HH3.out.syn.weak (fun q' h => h.elim (fun h => .inr ⟨.sw, _, rfl, h, rfl, rfl, rfl, rfl⟩) (fun h => .inl ⟨h, rfl, rfl, rfl, rfl⟩)))
    have hz : decide ((0 : Int) = 1) = false := by decide
    clear HH3 HZ
    have sc := HH4.out.stop
    by_cases hst : m < j + 1
    · rw [decide_eq_true hst] at sc
      have HST : Hid (m < j + 1) := hst
      clear hst
      have r0 := HH4.out.res.cell 0 (v := .int .i64 0) rfl
      have r1 := HH4.out.res.cell 1 (v := .bool false) rfl
      have r2 := HH4.out.res.cell 2 (v := .bool false) rfl
      have r3 := HH4.out.res.cell 3 (v := .slice none 0 0) rfl
      have f0 := HH4.out.res.fro 0
      have f1 := HH4.out.res.fro 1
      have f2 := HH4.out.res.fro 2
      have f3 := HH4.out.res.fro 3
      have o0 := HH4.out.out.cell 0 (v := .int .i64 (-1)) rfl
      have o1 := HH4.out.out.cell 1 (v := .bool false) rfl
      have o2 := HH4.out.out.cell 2 (v := .bool false) rfl
      have o3 := HH4.out.out.cell 3 (v := .slice none 0 0) rfl
      have HN : Hid _ := HH4.out.ret4 (a := .int .i64 (-1)) (b := .bool false) (c := .bool false) (d := .slice none 0 0) rfl
      go_wp2_with fail
      generalize ((((y3.setCell ⟨w.heap.size + 1, 0, none⟩ (.int .i64 (-1))).setCell ⟨w.heap.size + 1, 1, none⟩ (.bool false)).setCell ⟨w.heap.size + 1, 2, none⟩ (.bool false)).setCell ⟨w.heap.size + 1, 3, none⟩ (.slice none 0 0)) = yz at *
      have hfr := HN.out.2.2.1
      refine bodyPost_ret (v := .agg #[.int .i64 (-1), .bool false, .bool false, .slice none 0 0]) (results_cell_row rfl _ _ (w.heap.size + 1) 111 #[.int .i64 (-1), .bool false, .bool false, .slice none 0 0] _ _ rfl hfr Tryz.underlying111 rfl (by kernel_rfl)) rfl ?_
      exact ⟨(-1), false, false, .slice none 0 0, [], j + 1, .over1, rfl, (Hol.nil _ []).sees, HN.out.1, ⟨fun h => absurd h (by have := HST.out; omega), HH4.out.syn.past⟩, rfl, (fun h => absurd h (by have := HST.out; omega)), HN.out.2.1, HH4.out.le⟩
    · rw [decide_eq_false hst] at sc
      have HST : Hid (j + 1 ≤ m) := (by omega : j + 1 ≤ m)
      clear hst
      have HH5 : Hid (HdAt w y3 x A cap m gf M s0 j (j + 1) (emb .ld) (fun _ => False) #[.int .i64 P, .int .i64 T, .int .i64 G] 111 #[.int .i64 0, .bool false, .bool false, .slice none 0 0] (w.heap.size + 1 + 1) #[.int .i64 (-1), .bool false, .bool false, .slice none 0 0]) := HH4.out.as (HH4.out.syn.reset HST.out _)
      have hA := syn_load HH5.out.run HH5.out.syn HBD.out 9 (fun _ => HE.out.ax .ld _ rfl)
      clear HH4 HST
      go_wp2_with fail
      go_at_call 122; refine hA.mono ?_; rintro e y4 ⟨v, rfl, hK⟩
      have HZ : Hid (m ≤ j + 1 → v = 0) := hK.zero
      have HH6 : Hid (HdAt w y4 x A cap m gf M s0 j (j + 1 + 1) (emb (if v = 0 then .wt none else .acq1 .fresh)) (SoQ Q emb P T G t p g (-1) false false []) #[.int .i64 P, .int .i64 T, .int .i64 G] 111 #[.int .i64 0, .bool false, .bool false, .slice none 0 0] (w.heap.size + 1 + 1) #[.int .i64 (-1), .bool false, .bool false, .slice none 0 0]) := by
        have h := HH5.out.step hK
        rw [HE.out.nx .ld _ _ rfl] at h
        exact h.as (h.syn.weak (fun q' h => h.elim (fun h => .inr ⟨.ld, _, rfl, h, rfl, rfl, rfl, rfl⟩) (fun h => h.elim)))
      clear hA hK HH5
      by_cases hv : v = 0
      · subst hv
        have HO : Hid (soO none = -1) := rfl
        have HH7 : Hid (HdAt w y4 x A cap m gf M s0 j (j + 1 + 1) (emb (.wt none)) (SoQ Q emb P T G t p g (-1) false false []) #[.int .i64 P, .int .i64 T, .int .i64 G] 111 #[.int .i64 0, .bool false, .bool false, .slice none 0 0] (w.heap.size + 1 + 1) #[.int .i64 (-1), .bool false, .bool false, .slice none 0 0]) := HH6.out
        have sc := HH7.out.stop
        clear HH6
        have hA := syn_store HH7.out.run HH7.out.syn HBD.out at0 1 (fun _ => HAX.out none)
        go_wp2_with fail
        go_at_call 96; refine hA.mono ?_; rintro e ya1 ⟨⟨ua, rfl⟩, va, hK⟩
        have HA1 : Hid (HdAt w ya1 x A cap m gf M s0 j (j + 1 + 1 + 1) (soA2 emb none .fresh) (SoQ Q emb P T G t p g (-1) false false []) #[.int .i64 P, .int .i64 T, .int .i64 G] 111 #[.int .i64 0, .bool false, .bool false, .slice none 0 0] (w.heap.size + 1 + 1) #[.int .i64 (-1), .bool false, .bool false, .slice none 0 0]) := by
          have h := HH7.out.step hK
          rw [HE.out.nx (.wt none) _ _ (HAX0.out none)] at h
          exact h.as (h.syn.weak (fun q' h => h.elim (fun h => .inr ⟨.wt none, _, rfl, h, HO.out.symm, rfl, rfl, rfl⟩) (fun h => h)))
        clear hA hK HH7
        have sc := HA1.out.stop
        by_cases hst : m < j + 1 + 1 + 1
        · rw [decide_eq_true hst] at sc
          have HST : Hid (m < j + 1 + 1 + 1) := hst
          clear hst
          have r0 := HA1.out.res.cell 0 (v := .int .i64 0) rfl
          have r1 := HA1.out.res.cell 1 (v := .bool false) rfl
          have r2 := HA1.out.res.cell 2 (v := .bool false) rfl
          have r3 := HA1.out.res.cell 3 (v := .slice none 0 0) rfl
          have f0 := HA1.out.res.fro 0
          have f1 := HA1.out.res.fro 1
          have f2 := HA1.out.res.fro 2
          have f3 := HA1.out.res.fro 3
          have o0 := HA1.out.out.cell 0 (v := .int .i64 (-1)) rfl
          have o1 := HA1.out.out.cell 1 (v := .bool false) rfl
          have o2 := HA1.out.out.cell 2 (v := .bool false) rfl
          have o3 := HA1.out.out.cell 3 (v := .slice none 0 0) rfl
          have HN : Hid _ := HA1.out.ret4 (a := .int .i64 (-1)) (b := .bool false) (c := .bool false) (d := .slice none 0 0) rfl
          go_wp2_with fail
          generalize ((((ya1.setCell ⟨w.heap.size + 1, 0, none⟩ (.int .i64 (-1))).setCell ⟨w.heap.size + 1, 1, none⟩ (.bool false)).setCell ⟨w.heap.size + 1, 2, none⟩ (.bool false)).setCell ⟨w.heap.size + 1, 3, none⟩ (.slice none 0 0)) = yz at *
          have hfr := HN.out.2.2.1
          refine bodyPost_ret (v := .agg #[.int .i64 (-1), .bool false, .bool false, .slice none 0 0]) (results_cell_row rfl _ _ (w.heap.size + 1) 111 #[.int .i64 (-1), .bool false, .bool false, .slice none 0 0] _ _ rfl hfr Tryz.underlying111 rfl (by kernel_rfl)) rfl ?_
          exact ⟨(-1), false, false, .slice none 0 0, [], j + 1 + 1 + 1, .over1, rfl, (Hol.nil _ []).sees, HN.out.1, ⟨fun h => absurd h (by have := HST.out; omega), HA1.out.syn.past⟩, rfl, (fun h => absurd h (by have := HST.out; omega)), HN.out.2.1, HA1.out.le⟩
        · rw [decide_eq_false hst] at sc
          have HST : Hid (j + 1 + 1 + 1 ≤ m) := (by omega : j + 1 + 1 + 1 ≤ m)
          clear hst
          have q1 := HA1.out.out.cell 1 (v := .bool false) rfl
          have q3 := HA1.out.out.cell 3 (v := .slice none 0 0) rfl
          have e1 := HA1.out.out.fro 1
          have e3 := HA1.out.out.fro 3
          have hol : w.heap.size + 1 + 1 < ya1.heap.size := HA1.out.out.lt
          have HX2 : Hid (HdAt w (((ya1.setCell ⟨w.heap.size + 1 + 1, 1, none⟩ (.bool true)).setCell ⟨w.heap.size + 1 + 1, 3, none⟩ (.slice (some ⟨ya1.heap.size, 0, none⟩) 1 1)).alloc (.cells #[.int .i64 g] 3)) x A cap m gf M s0 j (j + 1 + 1 + 1) (soA2 emb none .fresh) (fun _ => False) #[.int .i64 P, .int .i64 T, .int .i64 G] 111 #[.int .i64 0, .bool false, .bool false, .slice none 0 0] (w.heap.size + 1 + 1) #[.int .i64 (-1), .bool true, .bool false, (.slice (some ⟨ya1.heap.size, 0, none⟩) 1 1)]) := by
            have h1 := (HA1.out.set 1 (.bool true)).set 3 (.slice (some ⟨ya1.heap.size, 0, none⟩) 1 1)
            have h2 := h1.low (Y := (((ya1.setCell ⟨w.heap.size + 1 + 1, 1, none⟩ (.bool true)).setCell ⟨w.heap.size + 1 + 1, 3, none⟩ (.slice (some ⟨ya1.heap.size, 0, none⟩) 1 1)).alloc (.cells #[.int .i64 g] 3))) ((Below.refl _ _).alloc (Nat.le_refl _) _)
            exact h2.as (HA1.out.syn.reset HST.out _)
          have HL2 : Hid (Hol (((ya1.setCell ⟨w.heap.size + 1 + 1, 1, none⟩ (.bool true)).setCell ⟨w.heap.size + 1 + 1, 3, none⟩ (.slice (some ⟨ya1.heap.size, 0, none⟩) 1 1)).alloc (.cells #[.int .i64 g] 3)) (.slice (some ⟨ya1.heap.size, 0, none⟩) 1 1) [g] [x, w.heap.size + 1, w.heap.size + 1 + 1]) := by
            have h1 := Hol.one ((ya1.setCell ⟨w.heap.size + 1 + 1, 1, none⟩ (.bool true)).setCell ⟨w.heap.size + 1 + 1, 3, none⟩ (.slice (some ⟨ya1.heap.size, 0, none⟩) 1 1)) g [x, w.heap.size + 1, w.heap.size + 1 + 1] (fun k hk => by have h8 := HA1.out.x; have h9 := HA1.out.out.lt; simp at hk; rw [size_set, size_set]; omega)
            rw [size_set, size_set] at h1
            exact h1
          clear HA1
          go_wp2_with fail
          clear q1 q3 e1 e3
          generalize (some ⟨ya1.heap.size, 0, none⟩ : Option Addr) = sA at *
          generalize (((ya1.setCell ⟨w.heap.size + 1 + 1, 1, none⟩ (.bool true)).setCell ⟨w.heap.size + 1 + 1, 3, none⟩ (.slice sA 1 1)).alloc (.cells #[.int .i64 g] 3)) = yb2 at *
          have hAc := syn_acquire (so_acqIn2 HE.out none) (by omega) HP.out.2.2.2 HX2.out.run HX2.out.syn HBD.out
          go_wp2_with fail
          go_at_call 129; refine hAc.mono ?_; rintro e yc2 ⟨⟨uc, rfl⟩, jc2, tc, hR1, hS1, hB1, hj1⟩
          have HC2 : Hid (HdAt w yc2 x A cap m gf M s0 j jc2 (soG2 emb .ld) (SoQ Q emb P T G t p g (-1) true false [g]) #[.int .i64 P, .int .i64 T, .int .i64 G] 111 #[.int .i64 0, .bool false, .bool false, .slice none 0 0] (w.heap.size + 1 + 1) #[.int .i64 (-1), .bool true, .bool false, (.slice sA 1 1)]) := HX2.out.go hR1 (hS1.weak (fun q' h => by
            rcases h with h | ⟨p', hp', h⟩
            · exact h.elim
            · have hb : soA2 emb none p' = emb (.acq2 none p') := by cases p' <;> first | rfl | exact absurd rfl (hp' _)
              obtain ⟨a, ha⟩ : ∃ a, (soPM P T G t p g).ax (.acq2 none p') = some a := by cases p' <;> first | exact ⟨_, rfl⟩ | exact absurd rfl (hp' _)
              exact .inr ⟨.acq2 none p', a, ha, h.trans hb, HO.out.symm, rfl, rfl, rfl⟩)) hB1 hj1
          have HM2 : Hid (Hol yc2 (.slice sA 1 1) [g] [x, w.heap.size + 1, w.heap.size + 1 + 1]) := HL2.out.but hB1 (by simp)
          clear hAc hR1 hS1 hB1 hj1 HX2 HL2
          have sc := HC2.out.stop
          by_cases hst : m < jc2
          · rw [decide_eq_true hst] at sc
            have HST : Hid (m < jc2) := hst
            clear hst
            have r0 := HC2.out.res.cell 0 (v := .int .i64 0) rfl
            have r1 := HC2.out.res.cell 1 (v := .bool false) rfl
            have r2 := HC2.out.res.cell 2 (v := .bool false) rfl
            have r3 := HC2.out.res.cell 3 (v := .slice none 0 0) rfl
            have f0 := HC2.out.res.fro 0
            have f1 := HC2.out.res.fro 1
            have f2 := HC2.out.res.fro 2
            have f3 := HC2.out.res.fro 3
            have o0 := HC2.out.out.cell 0 (v := .int .i64 (-1)) rfl
            have o1 := HC2.out.out.cell 1 (v := .bool true) rfl
            have o2 := HC2.out.out.cell 2 (v := .bool false) rfl
            have o3 := HC2.out.out.cell 3 (v := (.slice sA 1 1)) rfl
            have HN : Hid _ := HC2.out.ret4 (a := .int .i64 (-1)) (b := .bool true) (c := .bool false) (d := (.slice sA 1 1)) rfl
            go_wp2_with fail
            generalize ((((yc2.setCell ⟨w.heap.size + 1, 0, none⟩ (.int .i64 (-1))).setCell ⟨w.heap.size + 1, 1, none⟩ (.bool true)).setCell ⟨w.heap.size + 1, 2, none⟩ (.bool false)).setCell ⟨w.heap.size + 1, 3, none⟩ ((.slice sA 1 1))) = yz at *
            have hfr := HN.out.2.2.1
            refine bodyPost_ret (v := .agg #[.int .i64 (-1), .bool true, .bool false, (.slice sA 1 1)]) (results_cell_row rfl _ _ (w.heap.size + 1) 111 #[.int .i64 (-1), .bool true, .bool false, (.slice sA 1 1)] _ _ rfl hfr Tryz.underlying111 rfl (by kernel_rfl)) rfl ?_
            exact ⟨(-1), true, false, (.slice sA 1 1), [g], jc2, .over1, rfl, (HM2.out.but HN.out.2.2.2 (by simp)).sees, HN.out.1, ⟨fun h => absurd h (by have := HST.out; omega), HC2.out.syn.past⟩, rfl, (fun h => absurd h (by have := HST.out; omega)), HN.out.2.1, HC2.out.le⟩
          · rw [decide_eq_false hst] at sc
            have HST : Hid (jc2 ≤ m) := (by omega : jc2 ≤ m)
            clear hst
            have HC0 : Hid (HdAt w yc2 x A cap m gf M s0 j jc2 (soG2 emb .ld) (fun _ => False) #[.int .i64 P, .int .i64 T, .int .i64 G] 111 #[.int .i64 0, .bool false, .bool false, .slice none 0 0] (w.heap.size + 1 + 1) #[.int .i64 (-1), .bool true, .bool false, (.slice sA 1 1)]) := HC2.out.as (HC2.out.syn.reset HST.out _)
            have hGt := syn_iget (T := T) (G := G) (so_igIn2 HE.out) HP.out.1 HC0.out.run HC0.out.syn HBD.out
            clear HC2 HST
            have k0 := HC0.out.cfg.cell 0 (v := .int .i64 P) rfl
            have k1 := HC0.out.cfg.cell 1 (v := .int .i64 T) rfl
            have k2 := HC0.out.cfg.cell 2 (v := .int .i64 G) rfl
            have q0 := HC0.out.out.cell 0 (v := .int .i64 (-1)) rfl
            have e0 := HC0.out.out.fro 0
            go_wp2_with fail
            go_at_call 142; refine hGt.mono ?_; rintro e yd ⟨r, jd, q, rfl, hR3, hS3, hq, hr, hB3, hj3⟩
            have HQ : Hid (IgT.live q = false ∧ (jd ≤ m → r = q.obs)) := ⟨hq, hr⟩
            have HD1 : Hid (HdAt w (yd.setCell ⟨w.heap.size + 1 + 1, 0, none⟩ (.int .i64 r)) x A cap m gf M s0 j jd (soG2 emb q) (IgQ (fun _ => False) (soG2 emb) r) #[.int .i64 P, .int .i64 T, .int .i64 G] 111 #[.int .i64 0, .bool false, .bool false, .slice none 0 0] (w.heap.size + 1 + 1) #[.int .i64 r, .bool true, .bool false, (.slice sA 1 1)]) := (HC0.out.go hR3 hS3 hB3 hj3).set 0 (.int .i64 r)
            have HMd : Hid (Hol (yd.setCell ⟨w.heap.size + 1 + 1, 0, none⟩ (.int .i64 r)) (.slice sA 1 1) [g] [x, w.heap.size + 1, w.heap.size + 1 + 1]) := (HM2.out.but hB3 (by simp)).but (k := w.heap.size + 1 + 1) ((But.refl _ _).set (g := w.heap.size + 1 + 1) (.inl (by simp)) 0 _) (by simp)
            have oo0 := (HC0.out.go hR3 hS3 hB3 hj3).out.cell 0 (v := .int .i64 (-1)) rfl
            have ff0 := (HC0.out.go hR3 hS3 hB3 hj3).out.fro 0
            have HDY : Hid (HdAt w yd x A cap m gf M s0 j jd (soG2 emb q) (IgQ (fun _ => False) (soG2 emb) r) #[.int .i64 P, .int .i64 T, .int .i64 G] 111 #[.int .i64 0, .bool false, .bool false, .slice none 0 0] (w.heap.size + 1 + 1) #[.int .i64 (-1), .bool true, .bool false, (.slice sA 1 1)]) := HC0.out.go hR3 hS3 hB3 hj3
            have hne : w.heap.size + 1 + 1 ≠ x := by have := HDY.out.x; omega
            clear hGt hR3 hS3 hq hr hB3 hj3 HC0 HM2 k0 k1 k2 q0 e0
            have sc := HDY.out.stop
            by_cases hst : m < jd
            · rw [decide_eq_true hst] at sc
              have HST : Hid (m < jd) := hst
              clear hst
              have r0 := HDY.out.res.cell 0 (v := .int .i64 0) rfl
              have r1 := HDY.out.res.cell 1 (v := .bool false) rfl
              have r2 := HDY.out.res.cell 2 (v := .bool false) rfl
              have r3 := HDY.out.res.cell 3 (v := .slice none 0 0) rfl
              have f0 := HDY.out.res.fro 0
              have f1 := HDY.out.res.fro 1
              have f2 := HDY.out.res.fro 2
              have f3 := HDY.out.res.fro 3
              have o1 := HDY.out.out.cell 1 (v := .bool true) rfl
              have o2 := HDY.out.out.cell 2 (v := .bool false) rfl
              have o3 := HDY.out.out.cell 3 (v := (.slice sA 1 1)) rfl
              have HH : Hid (HdAt w (yd.setCell ⟨w.heap.size + 1 + 1, 0, none⟩ (.int .i64 r)) x A cap m gf M s0 j jd (soG2 emb q) (SoQ Q emb P T G t p g r true false [g]) #[.int .i64 P, .int .i64 T, .int .i64 G] 111 #[.int .i64 0, .bool false, .bool false, .slice none 0 0] (w.heap.size + 1 + 1) #[.int .i64 r, .bool true, .bool false, (.slice sA 1 1)]) := HD1.out.as ⟨fun h => absurd h (by have := HST.out; omega), fun h => ⟨by
                rcases (HD1.out.syn.past h).1 with ⟨h1, -⟩ | ⟨p', hl, h1, h2⟩
                · exact h1.elim
                · obtain ⟨a, ha⟩ := Option.isSome_iff_exists.1 ((so_ig_live (P := P) (q := p')).trans hl)
                  exact .inr ⟨.get2 p', a, ha, h1.trans (if_pos hl), h2, rfl, rfl, rfl⟩, (HD1.out.syn.past h).2⟩⟩
              clear HD1 HDY
              have HN : Hid _ := HH.out.ret4 (a := .int .i64 r) (b := .bool true) (c := .bool false) (d := (.slice sA 1 1)) rfl
              go_wp2_with fail
              generalize (((((yd.setCell ⟨w.heap.size + 1 + 1, 0, none⟩ (.int .i64 r)).setCell ⟨w.heap.size + 1, 0, none⟩ (.int .i64 r)).setCell ⟨w.heap.size + 1, 1, none⟩ (.bool true)).setCell ⟨w.heap.size + 1, 2, none⟩ (.bool false)).setCell ⟨w.heap.size + 1, 3, none⟩ ((.slice sA 1 1))) = yz at *
              have hfr := HN.out.2.2.1
              refine bodyPost_ret (v := .agg #[.int .i64 r, .bool true, .bool false, (.slice sA 1 1)]) (results_cell_row rfl _ _ (w.heap.size + 1) 111 #[.int .i64 r, .bool true, .bool false, (.slice sA 1 1)] _ _ rfl hfr Tryz.underlying111 rfl (by kernel_rfl)) rfl ?_
              exact ⟨r, true, false, (.slice sA 1 1), [g], jd, .over1, rfl, (HMd.out.but HN.out.2.2.2 (by simp)).sees, HN.out.1, ⟨fun h => absurd h (by have := HST.out; omega), HH.out.syn.past⟩, rfl, (fun h => absurd h (by have := HST.out; omega)), HN.out.2.1, HH.out.le⟩
            · rw [decide_eq_false hst] at sc
              have HST : Hid (jd ≤ m) := (by omega : jd ≤ m)
              clear hst
              have HRQ : Hid (r = q.obs) := HQ.out.2 HST.out
              have o0 := HD1.out.out.cell 0 (v := .int .i64 r) rfl
              by_cases hr1 : r = -1
              · have hd1 : (r != -1) = false := by simpa using hr1
                have HQ0 : Hid (q.obs = -1) := HRQ.out.symm.trans hr1
                have HRM : Hid (r = -1) := hr1
                clear hr1
                have k0 := HDY.out.cfg.cell 0 (v := .int .i64 P) rfl
                have k1 := HDY.out.cfg.cell 1 (v := .int .i64 T) rfl
                have k2 := HDY.out.cfg.cell 2 (v := .int .i64 G) rfl
                clear HDY
                go_wp2_with fail
                clear oo0 ff0 k0 k1 k2
                have hsz : (yd.setCell ⟨w.heap.size + 1 + 1, 0, none⟩ (.int .i64 r)).heap.size = yd.heap.size := size_set _ _ _
                generalize (yd.setCell ⟨w.heap.size + 1 + 1, 0, none⟩ (.int .i64 r)) = ye at *
                have HD2 : Hid (HdAt w ye x A cap m gf M s0 j jd (soU emb q (qpStart [g])) (fun _ => False) #[.int .i64 P, .int .i64 T, .int .i64 G] 111 #[.int .i64 0, .bool false, .bool false, .slice none 0 0] (w.heap.size + 1 + 1) #[.int .i64 r, .bool true, .bool false, (.slice sA 1 1)]) := HD1.out.as ⟨fun h => (HD1.out.syn.at' h).trans ((if_neg (by rw [HQ.out.1]; decide)).trans (if_pos HQ0.out)), fun h => absurd h (by have := HST.out; omega)⟩
                have hol2 : w.heap.size + 1 + 1 < ye.heap.size := HD2.out.out.lt
                have HD3 : Hid (HdAt w (ye.alloc (.cells #[.int .i64 g] 3)) x A cap m gf M s0 j jd (soU emb q (qpStart [g])) (fun _ => False) #[.int .i64 P, .int .i64 T, .int .i64 G] 111 #[.int .i64 0, .bool false, .bool false, .slice none 0 0] (w.heap.size + 1 + 1) #[.int .i64 r, .bool true, .bool false, (.slice sA 1 1)]) := HD2.out.low ((Below.refl _ _).alloc (Nat.le_refl _) _)
                have HG1 : Hid (Hol (ye.alloc (.cells #[.int .i64 g] 3)) (.slice (some ⟨yd.heap.size, 0, none⟩) 1 1) [g] [x, w.heap.size + 1, w.heap.size + 1 + 1]) := by
                  have h8 := Hol.one ye g [x, w.heap.size + 1, w.heap.size + 1 + 1] (fun k hk => by have := HD2.out.x; simp at hk; omega)
                  rw [hsz] at h8
                  exact h8
                have hQ := syn_qputB (so_qpIn HE.out q) HP.out.1 HP.out.2.1 HP.out.2.2.1 (by simp) (B := some ⟨yd.heap.size, 0, none⟩) (cp := 1) HG1.out.sees (fun _ b off e => by cases e; have := HD2.out.x; omega) HD3.out.run HD3.out.syn HBD.out
                have k0 := HD3.out.cfg.cell 0 (v := .int .i64 P) rfl
                have k1 := HD3.out.cfg.cell 1 (v := .int .i64 T) rfl
                have k2 := HD3.out.cfg.cell 2 (v := .int .i64 G) rfl
                have q3 := HD3.out.out.cell 3 (v := (.slice sA 1 1)) rfl
                have e3 := HD3.out.out.fro 3
                have HFR : Hid (yd.heap.size ∉ [x, w.heap.size + 1, w.heap.size + 1 + 1]) := (by
                  have h8 := HD2.out.x
                  intro hm
                  simp at hm
                  omega : yd.heap.size ∉ [x, w.heap.size + 1, w.heap.size + 1 + 1])
                clear HD1 HD2
                simp only [List.length_cons, List.length_nil, Nat.zero_add] at hQ
                go_wp2_with fail
                generalize hYG : ye.alloc (.cells #[.int .i64 g] 3) = yg at *
                clear hYG
                go_at_call 130; refine hQ.mono ?_; rintro e yh ⟨v, held, jh, u, rfl, a1, a2, a3, a4, a5, a6, a7, a8⟩
                obtain ⟨A1, c1, rfl, -⟩ : ∃ A1 c1, v = .slice A1 held.length c1 ∧ True := by obtain ⟨A1, c1, e1, -⟩ := a1; exact ⟨A1, c1, e1, trivial⟩
                have HHo : Hid (Hol yh (.slice A1 held.length c1) held [x, w.heap.size + 1, w.heap.size + 1 + 1]) := ⟨A1, c1, rfl, a1, fun h b off e => by have h2 := a8 _ _ _ rfl h; rw [e] at h2; cases h2; exact HFR.out⟩
                have HU : Hid (QpT.live u = false ∧ (jh ≤ m → held = if u.lies = true then [] else [g])) := ⟨a4, a5⟩
                have HD4 : Hid (HdAt w (yh.setCell ⟨w.heap.size + 1 + 1, 3, none⟩ (.slice A1 held.length c1)) x A cap m gf M s0 j jh (soU emb q u) (QpQ (fun _ => False) (soU emb q) [g] held) #[.int .i64 P, .int .i64 T, .int .i64 G] 111 #[.int .i64 0, .bool false, .bool false, .slice none 0 0] (w.heap.size + 1 + 1) #[.int .i64 r, .bool true, .bool false, (.slice A1 held.length c1)]) := (HD3.out.go a2 a3 a6 a7).set 3 (.slice A1 held.length c1)
                have HHp : Hid (Hol (yh.setCell ⟨w.heap.size + 1 + 1, 3, none⟩ (.slice A1 held.length c1)) (.slice A1 held.length c1) held [x, w.heap.size + 1, w.heap.size + 1 + 1]) := HHo.out.but (k := w.heap.size + 1 + 1) ((But.refl _ _).set (g := w.heap.size + 1 + 1) (.inl (by simp)) 3 _) (by simp)
                have oo3 := (HD3.out.go a2 a3 a6 a7).out.cell 3 (v := (.slice sA 1 1)) rfl
                have ff3 := (HD3.out.go a2 a3 a6 a7).out.fro 3
                clear hQ a1 a2 a3 a4 a5 a6 a7 a8 HD3 HG1 k0 k1 k2 q3 e3 HHo HMd
                go_wp2_with fail
                clear oo3 ff3
                generalize yh.setCell ⟨w.heap.size + 1 + 1, 3, none⟩ (.slice A1 held.length c1) = yi at *
                have HD5 : Hid (HdAt w yi x A cap m gf M s0 j jh (soR3 emb q u .fresh) (SoQ Q emb P T G t p g r true false held) #[.int .i64 P, .int .i64 T, .int .i64 G] 111 #[.int .i64 0, .bool false, .bool false, .slice none 0 0] (w.heap.size + 1 + 1) #[.int .i64 r, .bool true, .bool false, (.slice A1 held.length c1)]) := HD4.out.as ⟨fun h => (HD4.out.syn.at' h).trans (by cases u <;> first | rfl | cases HU.out.1), fun h => ⟨by
                  rcases (HD4.out.syn.past h).1 with ⟨h1, -⟩ | ⟨p', hl, h1, h2⟩
                  · exact h1.elim
                  · have hb : soU emb q p' = emb (.que q p') := by cases p' <;> first | rfl | cases hl
                    obtain ⟨a, ha⟩ : ∃ a, (soPM P T G t p g).ax (.que q p') = some a := by cases p' <;> first | exact ⟨_, rfl⟩ | cases hl
                    exact .inr ⟨.que q p', a, ha, h1.trans hb, HRM.out.trans HQ0.out.symm, rfl, rfl, h2⟩, (HD4.out.syn.past h).2⟩⟩
                have hRl := syn_release (so_relIn3 HE.out q u) (by omega) HD5.out.run HD5.out.syn HBD.out
                clear HD4
                go_at_call 131; refine hRl.mono ?_; rintro e yk ⟨⟨uk, rfl⟩, jk, hR5, hS5, hB5, hj5⟩
                have HH : Hid (HdAt w yk x A cap m gf M s0 j jk (soR3 emb q u .over) (SoQ Q emb P T G t p g r true false held) #[.int .i64 P, .int .i64 T, .int .i64 G] 111 #[.int .i64 0, .bool false, .bool false, .slice none 0 0] (w.heap.size + 1 + 1) #[.int .i64 r, .bool true, .bool false, (.slice A1 held.length c1)]) := HD5.out.go hR5 ⟨hS5.at', fun h => ⟨by
                  by_cases h4 : m < jh
                  · exact (HD5.out.syn.past h4).1
                  · have hh := HU.out.2 (by omega)
                    rcases (hS5.past h).1 with h1 | h1 | h1
                    · exact h1
                    · exact .inr ⟨.rel3 q u .fresh, _, rfl, h1, HRM.out.trans HQ0.out.symm, rfl, rfl, hh⟩
                    · exact .inr ⟨.rel3 q u .pass, _, rfl, h1, HRM.out.trans HQ0.out.symm, rfl, rfl, hh⟩, (hS5.past h).2⟩⟩ hB5 hj5
                have HHq : Hid (Hol yk (.slice A1 held.length c1) held [x, w.heap.size + 1, w.heap.size + 1 + 1]) := HHp.out.but hB5 (by simp)
                have HJ : Hid (jh ≤ jk) := hj5
                clear hRl hR5 hS5 hB5 hj5 HD5 HHp
                have r0 := HH.out.res.cell 0 (v := .int .i64 0) rfl
                have r1 := HH.out.res.cell 1 (v := .bool false) rfl
                have r2 := HH.out.res.cell 2 (v := .bool false) rfl
                have r3 := HH.out.res.cell 3 (v := .slice none 0 0) rfl
                have f0 := HH.out.res.fro 0
                have f1 := HH.out.res.fro 1
                have f2 := HH.out.res.fro 2
                have f3 := HH.out.res.fro 3
                have o0 := HH.out.out.cell 0 (v := .int .i64 r) rfl
                have o1 := HH.out.out.cell 1 (v := .bool true) rfl
                have o2 := HH.out.out.cell 2 (v := .bool false) rfl
                have o3 := HH.out.out.cell 3 (v := (.slice A1 held.length c1)) rfl
                have HN : Hid _ := HH.out.ret4 (a := .int .i64 r) (b := .bool true) (c := .bool false) (d := (.slice A1 held.length c1)) rfl
                go_wp2_with fail
                generalize ((((yk.setCell ⟨w.heap.size + 1, 0, none⟩ (.int .i64 r)).setCell ⟨w.heap.size + 1, 1, none⟩ (.bool true)).setCell ⟨w.heap.size + 1, 2, none⟩ (.bool false)).setCell ⟨w.heap.size + 1, 3, none⟩ ((.slice A1 held.length c1))) = yz at *
                have hfr := HN.out.2.2.1
                refine bodyPost_ret (v := .agg #[.int .i64 r, .bool true, .bool false, (.slice A1 held.length c1)]) (results_cell_row rfl _ _ (w.heap.size + 1) 111 #[.int .i64 r, .bool true, .bool false, (.slice A1 held.length c1)] _ _ rfl hfr Tryz.underlying111 rfl (by kernel_rfl)) rfl ?_
                exact ⟨r, true, false, (.slice A1 held.length c1), held, jk, .over4 q u, rfl, (HHq.out.but HN.out.2.2.2 (by simp)).sees, HN.out.1, HH.out.syn, rfl, (fun h => ⟨HRM.out.trans HQ0.out.symm, rfl, rfl, HU.out.2 (Nat.le_trans HJ.out h)⟩), HN.out.2.1, HH.out.le⟩
              · have hd1 : (r != -1) = true := by simpa using hr1
                clear HDY
                go_wp2_with fail
                clear oo0 ff0
                generalize (yd.setCell ⟨w.heap.size + 1 + 1, 0, none⟩ (.int .i64 r)) = ye at *
                have HRM : Hid (q.obs ≠ -1) := fun h => hr1 (HRQ.out.trans h)
                have HD2 : Hid (HdAt w ye x A cap m gf M s0 j jd (soR2 emb q .fresh) (fun _ => False) #[.int .i64 P, .int .i64 T, .int .i64 G] 111 #[.int .i64 0, .bool false, .bool false, .slice none 0 0] (w.heap.size + 1 + 1) #[.int .i64 r, .bool true, .bool false, (.slice sA 1 1)]) := HD1.out.as ⟨fun h => (HD1.out.syn.at' h).trans ((if_neg (by rw [HQ.out.1]; decide)).trans (if_neg HRM.out)), fun h => absurd h (by have := HST.out; omega)⟩
                have hRl := syn_release (so_relIn2 HE.out q) (by omega) HD2.out.run HD2.out.syn HBD.out
                clear HD1 hr1
                go_wp2_with fail
                go_at_call 131; refine hRl.mono ?_; rintro e yk ⟨⟨uk, rfl⟩, jk, hR5, hS5, hB5, hj5⟩
                have HD3 : Hid (HdAt w yk x A cap m gf M s0 j jk (emb (.ro2 q)) (SoQ Q emb P T G t p g r true false [g]) #[.int .i64 P, .int .i64 T, .int .i64 G] 111 #[.int .i64 0, .bool false, .bool false, .slice none 0 0] (w.heap.size + 1 + 1) #[.int .i64 r, .bool true, .bool false, (.slice sA 1 1)]) := HD2.out.go hR5 (hS5.weak (fun q' h => by
                  rcases h with h | h | h
                  · exact h.elim
                  · exact .inr ⟨.rel2 q .fresh, _, rfl, h, HRQ.out, rfl, rfl, rfl⟩
                  · exact .inr ⟨.rel2 q .pass, _, rfl, h, HRQ.out, rfl, rfl, rfl⟩)) hB5 hj5
                have HMk : Hid (Hol yk (.slice sA 1 1) [g] [x, w.heap.size + 1, w.heap.size + 1 + 1]) := HMd.out.but hB5 (by simp)
                clear hRl hR5 hS5 hB5 hj5 HD2 HMd
                have k0 := HD3.out.cfg.cell 0 (v := .int .i64 P) rfl
                have k1 := HD3.out.cfg.cell 1 (v := .int .i64 T) rfl
                have k2 := HD3.out.cfg.cell 2 (v := .int .i64 G) rfl
                have o0 := HD3.out.out.cell 0 (v := .int .i64 r) rfl
                have hPl := rprcAt_all P T G r 0 yk HP.out.1.2 (by omega)
                have HAX2 : Hid (M.ax (emb (.ro2 q)) = some (axSt (wd 20 P 264 r 0) 1)) := by rw [HRQ.out]; exact HE.out.ax (.ro2 q) _ rfl
                generalize wd 20 P 264 r 0 = atr at *
                go_wp2_with fail
                go_at_call 136; refine hPl.mono ?_; rintro e yl ⟨rfl, h5⟩
                have HD4 : Hid _ := HD3.out.low h5
                have HMl : Hid (Hol yl (.slice sA 1 1) [g] [x, w.heap.size + 1, w.heap.size + 1 + 1]) := HMk.out.below h5
                have hA := syn_store HD4.out.run HD4.out.syn HBD.out atr 1 (fun _ => HAX2.out)
                clear hPl h5 k0 k1 k2 o0 HD3 HMk
                go_wp2_with fail
                go_at_call 96; refine hA.mono ?_; rintro e yn ⟨⟨un, rfl⟩, vn, hK⟩
                have HH : Hid (HdAt w yn x A cap m gf M s0 j (jk + 1) (emb (.over3 q)) (SoQ Q emb P T G t p g r true false [g]) #[.int .i64 P, .int .i64 T, .int .i64 G] 111 #[.int .i64 0, .bool false, .bool false, .slice none 0 0] (w.heap.size + 1 + 1) #[.int .i64 r, .bool true, .bool false, (.slice sA 1 1)]) := by
                  have h := HD4.out.step hK
                  rw [HE.out.nx (.ro2 q) _ _ rfl] at h
                  exact h.as (h.syn.weak (fun q' h => h.elim (fun h => .inr ⟨.ro2 q, _, rfl, h, HRQ.out, rfl, rfl, rfl⟩) (fun h => h)))
                have HMn : Hid (Hol yn (.slice sA 1 1) [g] [x, w.heap.size + 1, w.heap.size + 1 + 1]) := HMl.out.but hK.but (by simp)
                clear hA hK HD4 HMl HAX2
                have r0 := HH.out.res.cell 0 (v := .int .i64 0) rfl
                have r1 := HH.out.res.cell 1 (v := .bool false) rfl
                have r2 := HH.out.res.cell 2 (v := .bool false) rfl
                have r3 := HH.out.res.cell 3 (v := .slice none 0 0) rfl
                have f0 := HH.out.res.fro 0
                have f1 := HH.out.res.fro 1
                have f2 := HH.out.res.fro 2
                have f3 := HH.out.res.fro 3
                have o0 := HH.out.out.cell 0 (v := .int .i64 r) rfl
                have o1 := HH.out.out.cell 1 (v := .bool true) rfl
                have o2 := HH.out.out.cell 2 (v := .bool false) rfl
                have o3 := HH.out.out.cell 3 (v := (.slice sA 1 1)) rfl
                have HN : Hid _ := HH.out.ret4 (a := .int .i64 r) (b := .bool true) (c := .bool false) (d := (.slice sA 1 1)) rfl
                go_wp2_with fail
                generalize ((((yn.setCell ⟨w.heap.size + 1, 0, none⟩ (.int .i64 r)).setCell ⟨w.heap.size + 1, 1, none⟩ (.bool true)).setCell ⟨w.heap.size + 1, 2, none⟩ (.bool false)).setCell ⟨w.heap.size + 1, 3, none⟩ ((.slice sA 1 1))) = yz at *
                have hfr := HN.out.2.2.1
                refine bodyPost_ret (v := .agg #[.int .i64 r, .bool true, .bool false, (.slice sA 1 1)]) (results_cell_row rfl _ _ (w.heap.size + 1) 111 #[.int .i64 r, .bool true, .bool false, (.slice sA 1 1)] _ _ rfl hfr Tryz.underlying111 rfl (by kernel_rfl)) rfl ?_
                exact ⟨r, true, false, (.slice sA 1 1), [g], jk + 1, .over3 q, rfl, (HMn.out.but HN.out.2.2.2 (by simp)).sees, HN.out.1, HH.out.syn, rfl, (fun _ => ⟨HRQ.out, rfl, rfl, rfl⟩), HN.out.2.1, HH.out.le⟩
      · have hd : (v != 0) = true := by simpa using hv
        have HST : Hid (j + 1 + 1 ≤ m) := by
          rcases Nat.lt_or_ge m (j + 1 + 1) with h | h
          · exact absurd (HZ.out (by omega)) hv
          · exact h
        have HH7 : Hid (HdAt w y4 x A cap m gf M s0 j (j + 1 + 1) (soA1 emb .fresh) (fun _ => False) #[.int .i64 P, .int .i64 T, .int .i64 G] 111 #[.int .i64 0, .bool false, .bool false, .slice none 0 0] (w.heap.size + 1 + 1) #[.int .i64 (-1), .bool false, .bool false, .slice none 0 0]) := HH6.out.as ⟨fun h => (HH6.out.syn.at' h).trans (by rw [if_neg hv]; rfl), fun h => absurd h (by have := HST.out; omega)⟩
        have hAc := syn_acquire (so_acqIn1 HE.out) (by omega) HP.out.2.2.2 HH7.out.run HH7.out.syn HBD.out
        clear HH6 hv HZ
        go_wp2_with fail
        go_at_call 129; refine hAc.mono ?_; rintro e y5 ⟨⟨uc, rfl⟩, j5, tc, hR1, hS1, hB1, hj1⟩
        have HH8 : Hid (HdAt w y5 x A cap m gf M s0 j j5 (soG1 emb .ld) (SoQ Q emb P T G t p g (-1) false false []) #[.int .i64 P, .int .i64 T, .int .i64 G] 111 #[.int .i64 0, .bool false, .bool false, .slice none 0 0] (w.heap.size + 1 + 1) #[.int .i64 (-1), .bool false, .bool false, .slice none 0 0]) := HH7.out.go hR1 (hS1.weak (fun q' h => by
          rcases h with h | ⟨p', hp', h⟩
          · exact h.elim
          · have hb : soA1 emb p' = emb (.acq1 p') := by cases p' <;> first | rfl | exact absurd rfl (hp' _)
            obtain ⟨a, ha⟩ : ∃ a, (soPM P T G t p g).ax (.acq1 p') = some a := by cases p' <;> first | exact ⟨_, rfl⟩ | exact absurd rfl (hp' _)
            exact .inr ⟨.acq1 p', a, ha, h.trans hb, rfl, rfl, rfl, rfl⟩)) hB1 hj1
        clear hAc hR1 hS1 hB1 hj1 HH7 HST hd
        have sc := HH8.out.stop
        by_cases hst : m < j5
        · rw [decide_eq_true hst] at sc
          have HST : Hid (m < j5) := hst
          clear hst
          have r0 := HH8.out.res.cell 0 (v := .int .i64 0) rfl
          have r1 := HH8.out.res.cell 1 (v := .bool false) rfl
          have r2 := HH8.out.res.cell 2 (v := .bool false) rfl
          have r3 := HH8.out.res.cell 3 (v := .slice none 0 0) rfl
          have f0 := HH8.out.res.fro 0
          have f1 := HH8.out.res.fro 1
          have f2 := HH8.out.res.fro 2
          have f3 := HH8.out.res.fro 3
          have o0 := HH8.out.out.cell 0 (v := .int .i64 (-1)) rfl
          have o1 := HH8.out.out.cell 1 (v := .bool false) rfl
          have o2 := HH8.out.out.cell 2 (v := .bool false) rfl
          have o3 := HH8.out.out.cell 3 (v := .slice none 0 0) rfl
          have HN : Hid _ := HH8.out.ret4 (a := .int .i64 (-1)) (b := .bool false) (c := .bool false) (d := .slice none 0 0) rfl
          go_wp2_with fail
          generalize ((((y5.setCell ⟨w.heap.size + 1, 0, none⟩ (.int .i64 (-1))).setCell ⟨w.heap.size + 1, 1, none⟩ (.bool false)).setCell ⟨w.heap.size + 1, 2, none⟩ (.bool false)).setCell ⟨w.heap.size + 1, 3, none⟩ (.slice none 0 0)) = yz at *
          have hfr := HN.out.2.2.1
          refine bodyPost_ret (v := .agg #[.int .i64 (-1), .bool false, .bool false, .slice none 0 0]) (results_cell_row rfl _ _ (w.heap.size + 1) 111 #[.int .i64 (-1), .bool false, .bool false, .slice none 0 0] _ _ rfl hfr Tryz.underlying111 rfl (by kernel_rfl)) rfl ?_
          exact ⟨(-1), false, false, .slice none 0 0, [], j5, .over1, rfl, (Hol.nil _ []).sees, HN.out.1, ⟨fun h => absurd h (by have := HST.out; omega), HH8.out.syn.past⟩, rfl, (fun h => absurd h (by have := HST.out; omega)), HN.out.2.1, HH8.out.le⟩
        · rw [decide_eq_false hst] at sc
          have HST : Hid (j5 ≤ m) := (by omega : j5 ≤ m)
          clear hst
          have HC0 : Hid (HdAt w y5 x A cap m gf M s0 j j5 (soG1 emb .ld) (fun _ => False) #[.int .i64 P, .int .i64 T, .int .i64 G] 111 #[.int .i64 0, .bool false, .bool false, .slice none 0 0] (w.heap.size + 1 + 1) #[.int .i64 (-1), .bool false, .bool false, .slice none 0 0]) := HH8.out.as (HH8.out.syn.reset HST.out _)
          have hGt := syn_iget (T := T) (G := G) (so_igIn1 HE.out) HP.out.1 HC0.out.run HC0.out.syn HBD.out
          clear HH8 HST
          have k0 := HC0.out.cfg.cell 0 (v := .int .i64 P) rfl
          have k1 := HC0.out.cfg.cell 1 (v := .int .i64 T) rfl
          have k2 := HC0.out.cfg.cell 2 (v := .int .i64 G) rfl
          go_wp2_with fail
          go_at_call 142; refine hGt.mono ?_; rintro e y6 ⟨r, j6, q, rfl, hR3, hS3, hq, hr, hB3, hj3⟩
          have HQ : Hid (IgT.live q = false ∧ (j6 ≤ m → r = q.obs)) := ⟨hq, hr⟩
          have HD1 : Hid (HdAt w (y6.setCell ⟨w.heap.size + 1 + 1, 0, none⟩ (.int .i64 r)) x A cap m gf M s0 j j6 (soG1 emb q) (IgQ (fun _ => False) (soG1 emb) r) #[.int .i64 P, .int .i64 T, .int .i64 G] 111 #[.int .i64 0, .bool false, .bool false, .slice none 0 0] (w.heap.size + 1 + 1) #[.int .i64 r, .bool false, .bool false, .slice none 0 0]) := (HC0.out.go hR3 hS3 hB3 hj3).set 0 (.int .i64 r)
          have oo0 := (HC0.out.go hR3 hS3 hB3 hj3).out.cell 0 (v := .int .i64 (-1)) rfl
          have ff0 := (HC0.out.go hR3 hS3 hB3 hj3).out.fro 0
          have HDY : Hid (HdAt w y6 x A cap m gf M s0 j j6 (soG1 emb q) (IgQ (fun _ => False) (soG1 emb) r) #[.int .i64 P, .int .i64 T, .int .i64 G] 111 #[.int .i64 0, .bool false, .bool false, .slice none 0 0] (w.heap.size + 1 + 1) #[.int .i64 (-1), .bool false, .bool false, .slice none 0 0]) := HC0.out.go hR3 hS3 hB3 hj3
          have hne : w.heap.size + 1 + 1 ≠ x := by have := HDY.out.x; omega
          clear hGt hR3 hS3 hq hr hB3 hj3 HC0 k0 k1 k2
          have sc := HDY.out.stop
          by_cases hst : m < j6
          · rw [decide_eq_true hst] at sc
            have HST : Hid (m < j6) := hst
            clear hst
            have r0 := HDY.out.res.cell 0 (v := .int .i64 0) rfl
            have r1 := HDY.out.res.cell 1 (v := .bool false) rfl
            have r2 := HDY.out.res.cell 2 (v := .bool false) rfl
            have r3 := HDY.out.res.cell 3 (v := .slice none 0 0) rfl
            have f0 := HDY.out.res.fro 0
            have f1 := HDY.out.res.fro 1
            have f2 := HDY.out.res.fro 2
            have f3 := HDY.out.res.fro 3
            have o1 := HDY.out.out.cell 1 (v := .bool false) rfl
            have o2 := HDY.out.out.cell 2 (v := .bool false) rfl
            have o3 := HDY.out.out.cell 3 (v := .slice none 0 0) rfl
            have HH : Hid (HdAt w (y6.setCell ⟨w.heap.size + 1 + 1, 0, none⟩ (.int .i64 r)) x A cap m gf M s0 j j6 (soG1 emb q) (SoQ Q emb P T G t p g r false false []) #[.int .i64 P, .int .i64 T, .int .i64 G] 111 #[.int .i64 0, .bool false, .bool false, .slice none 0 0] (w.heap.size + 1 + 1) #[.int .i64 r, .bool false, .bool false, .slice none 0 0]) := HD1.out.as ⟨fun h => absurd h (by have := HST.out; omega), fun h => ⟨by
              rcases (HD1.out.syn.past h).1 with ⟨h1, -⟩ | ⟨p', hl, h1, h2⟩
              · exact h1.elim
              · obtain ⟨a, ha⟩ := Option.isSome_iff_exists.1 ((so_ig_live (P := P) (q := p')).trans hl)
                exact .inr ⟨.get1 p', a, ha, h1.trans (if_pos hl), h2, rfl, rfl, rfl⟩, (HD1.out.syn.past h).2⟩⟩
            clear HD1 HDY
            have HN : Hid _ := HH.out.ret4 (a := .int .i64 r) (b := .bool false) (c := .bool false) (d := .slice none 0 0) rfl
            go_wp2_with fail
            generalize (((((y6.setCell ⟨w.heap.size + 1 + 1, 0, none⟩ (.int .i64 r)).setCell ⟨w.heap.size + 1, 0, none⟩ (.int .i64 r)).setCell ⟨w.heap.size + 1, 1, none⟩ (.bool false)).setCell ⟨w.heap.size + 1, 2, none⟩ (.bool false)).setCell ⟨w.heap.size + 1, 3, none⟩ (.slice none 0 0)) = yz at *
            have hfr := HN.out.2.2.1
            refine bodyPost_ret (v := .agg #[.int .i64 r, .bool false, .bool false, .slice none 0 0]) (results_cell_row rfl _ _ (w.heap.size + 1) 111 #[.int .i64 r, .bool false, .bool false, .slice none 0 0] _ _ rfl hfr Tryz.underlying111 rfl (by kernel_rfl)) rfl ?_
            exact ⟨r, false, false, .slice none 0 0, [], j6, .over1, rfl, (Hol.nil _ []).sees, HN.out.1, ⟨fun h => absurd h (by have := HST.out; omega), HH.out.syn.past⟩, rfl, (fun h => absurd h (by have := HST.out; omega)), HN.out.2.1, HH.out.le⟩
          · rw [decide_eq_false hst] at sc
            have HST : Hid (j6 ≤ m) := (by omega : j6 ≤ m)
            clear hst
            clear HDY
            go_wp2_with fail
            clear oo0 ff0
            generalize y6.setCell ⟨w.heap.size + 1 + 1, 0, none⟩ (.int .i64 r) = y7 at *
            have HRQ : Hid (r = q.obs) := HQ.out.2 HST.out
            have HD2 : Hid (HdAt w y7 x A cap m gf M s0 j j6 (soR1 emb q .fresh) (fun _ => False) #[.int .i64 P, .int .i64 T, .int .i64 G] 111 #[.int .i64 0, .bool false, .bool false, .slice none 0 0] (w.heap.size + 1 + 1) #[.int .i64 r, .bool false, .bool false, .slice none 0 0]) := HD1.out.as ⟨fun h => (HD1.out.syn.at' h).trans (if_neg (by rw [HQ.out.1]; decide)), fun h => absurd h (by have := HST.out; omega)⟩
            have hRl := syn_release (so_relIn1 HE.out q) (by omega) HD2.out.run HD2.out.syn HBD.out
            clear HD1 HST
            go_wp2_with fail
            go_at_call 131; refine hRl.mono ?_; rintro e y8 ⟨⟨uk, rfl⟩, j8, hR5, hS5, hB5, hj5⟩
            have HD3 : Hid (HdAt w y8 x A cap m gf M s0 j j8 (emb (if q.obs = -1 then .wt (some q) else .ro1 q)) (SoQ Q emb P T G t p g r false false []) #[.int .i64 P, .int .i64 T, .int .i64 G] 111 #[.int .i64 0, .bool false, .bool false, .slice none 0 0] (w.heap.size + 1 + 1) #[.int .i64 r, .bool false, .bool false, .slice none 0 0]) := HD2.out.go hR5 (hS5.weak (fun q' h => by
              rcases h with h | h | h
              · exact h.elim
              · exact .inr ⟨.rel1 q .fresh, _, rfl, h, HRQ.out, rfl, rfl, rfl⟩
              · exact .inr ⟨.rel1 q .pass, _, rfl, h, HRQ.out, rfl, rfl, rfl⟩)) hB5 hj5
            clear hRl hR5 hS5 hB5 hj5 HD2
            have sc := HD3.out.stop
            by_cases hst : m < j8
            · rw [decide_eq_true hst] at sc
              have HST : Hid (m < j8) := hst
              clear hst
              have r0 := HD3.out.res.cell 0 (v := .int .i64 0) rfl
              have r1 := HD3.out.res.cell 1 (v := .bool false) rfl
              have r2 := HD3.out.res.cell 2 (v := .bool false) rfl
              have r3 := HD3.out.res.cell 3 (v := .slice none 0 0) rfl
              have f0 := HD3.out.res.fro 0
              have f1 := HD3.out.res.fro 1
              have f2 := HD3.out.res.fro 2
              have f3 := HD3.out.res.fro 3
              have o0 := HD3.out.out.cell 0 (v := .int .i64 r) rfl
              have o1 := HD3.out.out.cell 1 (v := .bool false) rfl
              have o2 := HD3.out.out.cell 2 (v := .bool false) rfl
              have o3 := HD3.out.out.cell 3 (v := .slice none 0 0) rfl
              have HN : Hid _ := HD3.out.ret4 (a := .int .i64 r) (b := .bool false) (c := .bool false) (d := .slice none 0 0) rfl
              go_wp2_with fail
              generalize ((((y8.setCell ⟨w.heap.size + 1, 0, none⟩ (.int .i64 r)).setCell ⟨w.heap.size + 1, 1, none⟩ (.bool false)).setCell ⟨w.heap.size + 1, 2, none⟩ (.bool false)).setCell ⟨w.heap.size + 1, 3, none⟩ (.slice none 0 0)) = yz at *
              have hfr := HN.out.2.2.1
              refine bodyPost_ret (v := .agg #[.int .i64 r, .bool false, .bool false, .slice none 0 0]) (results_cell_row rfl _ _ (w.heap.size + 1) 111 #[.int .i64 r, .bool false, .bool false, .slice none 0 0] _ _ rfl hfr Tryz.underlying111 rfl (by kernel_rfl)) rfl ?_
              exact ⟨r, false, false, .slice none 0 0, [], j8, .over1, rfl, (Hol.nil _ []).sees, HN.out.1, ⟨fun h => absurd h (by have := HST.out; omega), HD3.out.syn.past⟩, rfl, (fun h => absurd h (by have := HST.out; omega)), HN.out.2.1, HD3.out.le⟩
            · rw [decide_eq_false hst] at sc
              have HST : Hid (j8 ≤ m) := (by omega : j8 ≤ m)
              clear hst
              have o0 := HD3.out.out.cell 0 (v := .int .i64 r) rfl
              by_cases hr1 : r = -1
              · have hd1 : (r != -1) = false := by simpa using hr1
                subst hr1
                have HO : Hid (soO (some q) = -1) := HRQ.out.symm
                have HD4 : Hid (HdAt w y8 x A cap m gf M s0 j j8 (emb (.wt (some q))) (SoQ Q emb P T G t p g (-1) false false []) #[.int .i64 P, .int .i64 T, .int .i64 G] 111 #[.int .i64 0, .bool false, .bool false, .slice none 0 0] (w.heap.size + 1 + 1) #[.int .i64 (-1), .bool false, .bool false, .slice none 0 0]) := HD3.out.as ⟨fun h => (HD3.out.syn.at' h).trans (by rw [if_pos HRQ.out.symm]), HD3.out.syn.past⟩
                have o0 := HD4.out.out.cell 0 (v := .int .i64 (-1)) rfl
                clear HD3 HST
                have hA := syn_store HD4.out.run HD4.out.syn HBD.out at0 1 (fun _ => HAX.out (some q))
                go_wp2_with fail
                go_at_call 96; refine hA.mono ?_; rintro e ya3 ⟨⟨ua, rfl⟩, va, hK⟩
                have HA3 : Hid (HdAt w ya3 x A cap m gf M s0 j (j8 + 1) (soA2 emb (some q) .fresh) (SoQ Q emb P T G t p g (-1) false false []) #[.int .i64 P, .int .i64 T, .int .i64 G] 111 #[.int .i64 0, .bool false, .bool false, .slice none 0 0] (w.heap.size + 1 + 1) #[.int .i64 (-1), .bool false, .bool false, .slice none 0 0]) := by
                  have h := HD4.out.step hK
                  rw [HE.out.nx (.wt (some q)) _ _ (HAX0.out (some q))] at h
                  exact h.as (h.syn.weak (fun q' h => h.elim (fun h => .inr ⟨.wt (some q), _, rfl, h, HO.out.symm, rfl, rfl, rfl⟩) (fun h => h)))
                clear hA hK HD4
                have sc := HA3.out.stop
                by_cases hst : m < j8 + 1
                · rw [decide_eq_true hst] at sc
                  have HST : Hid (m < j8 + 1) := hst
                  clear hst
                  have r0 := HA3.out.res.cell 0 (v := .int .i64 0) rfl
                  have r1 := HA3.out.res.cell 1 (v := .bool false) rfl
                  have r2 := HA3.out.res.cell 2 (v := .bool false) rfl
                  have r3 := HA3.out.res.cell 3 (v := .slice none 0 0) rfl
                  have f0 := HA3.out.res.fro 0
                  have f1 := HA3.out.res.fro 1
                  have f2 := HA3.out.res.fro 2
                  have f3 := HA3.out.res.fro 3
                  have o0 := HA3.out.out.cell 0 (v := .int .i64 (-1)) rfl
                  have o1 := HA3.out.out.cell 1 (v := .bool false) rfl
                  have o2 := HA3.out.out.cell 2 (v := .bool false) rfl
                  have o3 := HA3.out.out.cell 3 (v := .slice none 0 0) rfl
                  have HN : Hid _ := HA3.out.ret4 (a := .int .i64 (-1)) (b := .bool false) (c := .bool false) (d := .slice none 0 0) rfl
                  go_wp2_with fail
                  generalize ((((ya3.setCell ⟨w.heap.size + 1, 0, none⟩ (.int .i64 (-1))).setCell ⟨w.heap.size + 1, 1, none⟩ (.bool false)).setCell ⟨w.heap.size + 1, 2, none⟩ (.bool false)).setCell ⟨w.heap.size + 1, 3, none⟩ (.slice none 0 0)) = yz at *
                  have hfr := HN.out.2.2.1
                  refine bodyPost_ret (v := .agg #[.int .i64 (-1), .bool false, .bool false, .slice none 0 0]) (results_cell_row rfl _ _ (w.heap.size + 1) 111 #[.int .i64 (-1), .bool false, .bool false, .slice none 0 0] _ _ rfl hfr Tryz.underlying111 rfl (by kernel_rfl)) rfl ?_
                  exact ⟨(-1), false, false, .slice none 0 0, [], j8 + 1, .over1, rfl, (Hol.nil _ []).sees, HN.out.1, ⟨fun h => absurd h (by have := HST.out; omega), HA3.out.syn.past⟩, rfl, (fun h => absurd h (by have := HST.out; omega)), HN.out.2.1, HA3.out.le⟩
                · rw [decide_eq_false hst] at sc
                  have HST : Hid (j8 + 1 ≤ m) := (by omega : j8 + 1 ≤ m)
                  clear hst
                  have q1 := HA3.out.out.cell 1 (v := .bool false) rfl
                  have q3 := HA3.out.out.cell 3 (v := .slice none 0 0) rfl
                  have e1 := HA3.out.out.fro 1
                  have e3 := HA3.out.out.fro 3
                  have hol : w.heap.size + 1 + 1 < ya3.heap.size := HA3.out.out.lt
                  have HX4 : Hid (HdAt w (((ya3.setCell ⟨w.heap.size + 1 + 1, 1, none⟩ (.bool true)).setCell ⟨w.heap.size + 1 + 1, 3, none⟩ (.slice (some ⟨ya3.heap.size, 0, none⟩) 1 1)).alloc (.cells #[.int .i64 g] 3)) x A cap m gf M s0 j (j8 + 1) (soA2 emb (some q) .fresh) (fun _ => False) #[.int .i64 P, .int .i64 T, .int .i64 G] 111 #[.int .i64 0, .bool false, .bool false, .slice none 0 0] (w.heap.size + 1 + 1) #[.int .i64 (-1), .bool true, .bool false, (.slice (some ⟨ya3.heap.size, 0, none⟩) 1 1)]) := by
                    have h1 := (HA3.out.set 1 (.bool true)).set 3 (.slice (some ⟨ya3.heap.size, 0, none⟩) 1 1)
                    have h2 := h1.low (Y := (((ya3.setCell ⟨w.heap.size + 1 + 1, 1, none⟩ (.bool true)).setCell ⟨w.heap.size + 1 + 1, 3, none⟩ (.slice (some ⟨ya3.heap.size, 0, none⟩) 1 1)).alloc (.cells #[.int .i64 g] 3))) ((Below.refl _ _).alloc (Nat.le_refl _) _)
                    exact h2.as (HA3.out.syn.reset HST.out _)
                  have HL4 : Hid (Hol (((ya3.setCell ⟨w.heap.size + 1 + 1, 1, none⟩ (.bool true)).setCell ⟨w.heap.size + 1 + 1, 3, none⟩ (.slice (some ⟨ya3.heap.size, 0, none⟩) 1 1)).alloc (.cells #[.int .i64 g] 3)) (.slice (some ⟨ya3.heap.size, 0, none⟩) 1 1) [g] [x, w.heap.size + 1, w.heap.size + 1 + 1]) := by
                    have h1 := Hol.one ((ya3.setCell ⟨w.heap.size + 1 + 1, 1, none⟩ (.bool true)).setCell ⟨w.heap.size + 1 + 1, 3, none⟩ (.slice (some ⟨ya3.heap.size, 0, none⟩) 1 1)) g [x, w.heap.size + 1, w.heap.size + 1 + 1] (fun k hk => by have h8 := HA3.out.x; have h9 := HA3.out.out.lt; simp at hk; rw [size_set, size_set]; omega)
                    rw [size_set, size_set] at h1
                    exact h1
                  clear HA3
                  go_wp2_with fail
                  clear q1 q3 e1 e3
                  generalize (some ⟨ya3.heap.size, 0, none⟩ : Option Addr) = sA at *
                  generalize (((ya3.setCell ⟨w.heap.size + 1 + 1, 1, none⟩ (.bool true)).setCell ⟨w.heap.size + 1 + 1, 3, none⟩ (.slice sA 1 1)).alloc (.cells #[.int .i64 g] 3)) = yb4 at *
                  have hAc := syn_acquire (so_acqIn2 HE.out (some q)) (by omega) HP.out.2.2.2 HX4.out.run HX4.out.syn HBD.out
                  go_wp2_with fail
                  go_at_call 129; refine hAc.mono ?_; rintro e yc4 ⟨⟨uc, rfl⟩, jc4, tc, hR1, hS1, hB1, hj1⟩
                  have HC4 : Hid (HdAt w yc4 x A cap m gf M s0 j jc4 (soG2 emb .ld) (SoQ Q emb P T G t p g (-1) true false [g]) #[.int .i64 P, .int .i64 T, .int .i64 G] 111 #[.int .i64 0, .bool false, .bool false, .slice none 0 0] (w.heap.size + 1 + 1) #[.int .i64 (-1), .bool true, .bool false, (.slice sA 1 1)]) := HX4.out.go hR1 (hS1.weak (fun q' h => by
                    rcases h with h | ⟨p', hp', h⟩
                    · exact h.elim
                    · have hb : soA2 emb (some q) p' = emb (.acq2 (some q) p') := by cases p' <;> first | rfl | exact absurd rfl (hp' _)
                      obtain ⟨a, ha⟩ : ∃ a, (soPM P T G t p g).ax (.acq2 (some q) p') = some a := by cases p' <;> first | exact ⟨_, rfl⟩ | exact absurd rfl (hp' _)
                      exact .inr ⟨.acq2 (some q) p', a, ha, h.trans hb, HO.out.symm, rfl, rfl, rfl⟩)) hB1 hj1
                  have HM4 : Hid (Hol yc4 (.slice sA 1 1) [g] [x, w.heap.size + 1, w.heap.size + 1 + 1]) := HL4.out.but hB1 (by simp)
                  clear hAc hR1 hS1 hB1 hj1 HX4 HL4
                  have sc := HC4.out.stop
                  by_cases hst : m < jc4
                  · rw [decide_eq_true hst] at sc
                    have HST : Hid (m < jc4) := hst
                    clear hst
                    have r0 := HC4.out.res.cell 0 (v := .int .i64 0) rfl
                    have r1 := HC4.out.res.cell 1 (v := .bool false) rfl
                    have r2 := HC4.out.res.cell 2 (v := .bool false) rfl
                    have r3 := HC4.out.res.cell 3 (v := .slice none 0 0) rfl
                    have f0 := HC4.out.res.fro 0
                    have f1 := HC4.out.res.fro 1
                    have f2 := HC4.out.res.fro 2
                    have f3 := HC4.out.res.fro 3
                    have o0 := HC4.out.out.cell 0 (v := .int .i64 (-1)) rfl
                    have o1 := HC4.out.out.cell 1 (v := .bool true) rfl
                    have o2 := HC4.out.out.cell 2 (v := .bool false) rfl
                    have o3 := HC4.out.out.cell 3 (v := (.slice sA 1 1)) rfl
                    have HN : Hid _ := HC4.out.ret4 (a := .int .i64 (-1)) (b := .bool true) (c := .bool false) (d := (.slice sA 1 1)) rfl
                    go_wp2_with fail
                    generalize ((((yc4.setCell ⟨w.heap.size + 1, 0, none⟩ (.int .i64 (-1))).setCell ⟨w.heap.size + 1, 1, none⟩ (.bool true)).setCell ⟨w.heap.size + 1, 2, none⟩ (.bool false)).setCell ⟨w.heap.size + 1, 3, none⟩ ((.slice sA 1 1))) = yz at *
                    have hfr := HN.out.2.2.1
                    refine bodyPost_ret (v := .agg #[.int .i64 (-1), .bool true, .bool false, (.slice sA 1 1)]) (results_cell_row rfl _ _ (w.heap.size + 1) 111 #[.int .i64 (-1), .bool true, .bool false, (.slice sA 1 1)] _ _ rfl hfr Tryz.underlying111 rfl (by kernel_rfl)) rfl ?_
                    exact ⟨(-1), true, false, (.slice sA 1 1), [g], jc4, .over1, rfl, (HM4.out.but HN.out.2.2.2 (by simp)).sees, HN.out.1, ⟨fun h => absurd h (by have := HST.out; omega), HC4.out.syn.past⟩, rfl, (fun h => absurd h (by have := HST.out; omega)), HN.out.2.1, HC4.out.le⟩
                  · rw [decide_eq_false hst] at sc
                    have HST : Hid (jc4 ≤ m) := (by omega : jc4 ≤ m)
                    clear hst
                    have HC0 : Hid (HdAt w yc4 x A cap m gf M s0 j jc4 (soG2 emb .ld) (fun _ => False) #[.int .i64 P, .int .i64 T, .int .i64 G] 111 #[.int .i64 0, .bool false, .bool false, .slice none 0 0] (w.heap.size + 1 + 1) #[.int .i64 (-1), .bool true, .bool false, (.slice sA 1 1)]) := HC4.out.as (HC4.out.syn.reset HST.out _)
                    have hGt := syn_iget (T := T) (G := G) (so_igIn2 HE.out) HP.out.1 HC0.out.run HC0.out.syn HBD.out
                    clear HC4 HST
                    have k0 := HC0.out.cfg.cell 0 (v := .int .i64 P) rfl
                    have k1 := HC0.out.cfg.cell 1 (v := .int .i64 T) rfl
                    have k2 := HC0.out.cfg.cell 2 (v := .int .i64 G) rfl
                    have q0 := HC0.out.out.cell 0 (v := .int .i64 (-1)) rfl
                    have e0 := HC0.out.out.fro 0
                    go_wp2_with fail
                    go_at_call 142; refine hGt.mono ?_; rintro e yd ⟨r, jd, q, rfl, hR3, hS3, hq, hr, hB3, hj3⟩
                    have HQ : Hid (IgT.live q = false ∧ (jd ≤ m → r = q.obs)) := ⟨hq, hr⟩
                    have HD1 : Hid (HdAt w (yd.setCell ⟨w.heap.size + 1 + 1, 0, none⟩ (.int .i64 r)) x A cap m gf M s0 j jd (soG2 emb q) (IgQ (fun _ => False) (soG2 emb) r) #[.int .i64 P, .int .i64 T, .int .i64 G] 111 #[.int .i64 0, .bool false, .bool false, .slice none 0 0] (w.heap.size + 1 + 1) #[.int .i64 r, .bool true, .bool false, (.slice sA 1 1)]) := (HC0.out.go hR3 hS3 hB3 hj3).set 0 (.int .i64 r)
                    have HMd : Hid (Hol (yd.setCell ⟨w.heap.size + 1 + 1, 0, none⟩ (.int .i64 r)) (.slice sA 1 1) [g] [x, w.heap.size + 1, w.heap.size + 1 + 1]) := (HM4.out.but hB3 (by simp)).but (k := w.heap.size + 1 + 1) ((But.refl _ _).set (g := w.heap.size + 1 + 1) (.inl (by simp)) 0 _) (by simp)
                    have oo0 := (HC0.out.go hR3 hS3 hB3 hj3).out.cell 0 (v := .int .i64 (-1)) rfl
                    have ff0 := (HC0.out.go hR3 hS3 hB3 hj3).out.fro 0
                    have HDY : Hid (HdAt w yd x A cap m gf M s0 j jd (soG2 emb q) (IgQ (fun _ => False) (soG2 emb) r) #[.int .i64 P, .int .i64 T, .int .i64 G] 111 #[.int .i64 0, .bool false, .bool false, .slice none 0 0] (w.heap.size + 1 + 1) #[.int .i64 (-1), .bool true, .bool false, (.slice sA 1 1)]) := HC0.out.go hR3 hS3 hB3 hj3
                    have hne : w.heap.size + 1 + 1 ≠ x := by have := HDY.out.x; omega
                    clear hGt hR3 hS3 hq hr hB3 hj3 HC0 HM4 k0 k1 k2 q0 e0
                    have sc := HDY.out.stop
                    by_cases hst : m < jd
                    · rw [decide_eq_true hst] at sc
                      have HST : Hid (m < jd) := hst
                      clear hst
                      have r0 := HDY.out.res.cell 0 (v := .int .i64 0) rfl
                      have r1 := HDY.out.res.cell 1 (v := .bool false) rfl
                      have r2 := HDY.out.res.cell 2 (v := .bool false) rfl
                      have r3 := HDY.out.res.cell 3 (v := .slice none 0 0) rfl
                      have f0 := HDY.out.res.fro 0
                      have f1 := HDY.out.res.fro 1
                      have f2 := HDY.out.res.fro 2
                      have f3 := HDY.out.res.fro 3
                      have o1 := HDY.out.out.cell 1 (v := .bool true) rfl
                      have o2 := HDY.out.out.cell 2 (v := .bool false) rfl
                      have o3 := HDY.out.out.cell 3 (v := (.slice sA 1 1)) rfl
                      have HH : Hid (HdAt w (yd.setCell ⟨w.heap.size + 1 + 1, 0, none⟩ (.int .i64 r)) x A cap m gf M s0 j jd (soG2 emb q) (SoQ Q emb P T G t p g r true false [g]) #[.int .i64 P, .int .i64 T, .int .i64 G] 111 #[.int .i64 0, .bool false, .bool false, .slice none 0 0] (w.heap.size + 1 + 1) #[.int .i64 r, .bool true, .bool false, (.slice sA 1 1)]) := HD1.out.as ⟨fun h => absurd h (by have := HST.out; omega), fun h => ⟨by
                        rcases (HD1.out.syn.past h).1 with ⟨h1, -⟩ | ⟨p', hl, h1, h2⟩
                        · exact h1.elim
                        · obtain ⟨a, ha⟩ := Option.isSome_iff_exists.1 ((so_ig_live (P := P) (q := p')).trans hl)
                          exact .inr ⟨.get2 p', a, ha, h1.trans (if_pos hl), h2, rfl, rfl, rfl⟩, (HD1.out.syn.past h).2⟩⟩
                      clear HD1 HDY
                      have HN : Hid _ := HH.out.ret4 (a := .int .i64 r) (b := .bool true) (c := .bool false) (d := (.slice sA 1 1)) rfl
                      go_wp2_with fail
                      generalize (((((yd.setCell ⟨w.heap.size + 1 + 1, 0, none⟩ (.int .i64 r)).setCell ⟨w.heap.size + 1, 0, none⟩ (.int .i64 r)).setCell ⟨w.heap.size + 1, 1, none⟩ (.bool true)).setCell ⟨w.heap.size + 1, 2, none⟩ (.bool false)).setCell ⟨w.heap.size + 1, 3, none⟩ ((.slice sA 1 1))) = yz at *
                      have hfr := HN.out.2.2.1
                      refine bodyPost_ret (v := .agg #[.int .i64 r, .bool true, .bool false, (.slice sA 1 1)]) (results_cell_row rfl _ _ (w.heap.size + 1) 111 #[.int .i64 r, .bool true, .bool false, (.slice sA 1 1)] _ _ rfl hfr Tryz.underlying111 rfl (by kernel_rfl)) rfl ?_
                      exact ⟨r, true, false, (.slice sA 1 1), [g], jd, .over1, rfl, (HMd.out.but HN.out.2.2.2 (by simp)).sees, HN.out.1, ⟨fun h => absurd h (by have := HST.out; omega), HH.out.syn.past⟩, rfl, (fun h => absurd h (by have := HST.out; omega)), HN.out.2.1, HH.out.le⟩
                    · rw [decide_eq_false hst] at sc
                      have HST : Hid (jd ≤ m) := (by omega : jd ≤ m)
                      clear hst
                      have HRQ : Hid (r = q.obs) := HQ.out.2 HST.out
                      have o0 := HD1.out.out.cell 0 (v := .int .i64 r) rfl
                      by_cases hr1 : r = -1
                      · have hd1 : (r != -1) = false := by simpa using hr1
                        have HQ0 : Hid (q.obs = -1) := HRQ.out.symm.trans hr1
                        have HRM : Hid (r = -1) := hr1
                        clear hr1
                        have k0 := HDY.out.cfg.cell 0 (v := .int .i64 P) rfl
                        have k1 := HDY.out.cfg.cell 1 (v := .int .i64 T) rfl
                        have k2 := HDY.out.cfg.cell 2 (v := .int .i64 G) rfl
                        clear HDY
                        go_wp2_with fail
                        clear oo0 ff0 k0 k1 k2
                        have hsz : (yd.setCell ⟨w.heap.size + 1 + 1, 0, none⟩ (.int .i64 r)).heap.size = yd.heap.size := size_set _ _ _
                        generalize (yd.setCell ⟨w.heap.size + 1 + 1, 0, none⟩ (.int .i64 r)) = ye at *
                        have HD2 : Hid (HdAt w ye x A cap m gf M s0 j jd (soU emb q (qpStart [g])) (fun _ => False) #[.int .i64 P, .int .i64 T, .int .i64 G] 111 #[.int .i64 0, .bool false, .bool false, .slice none 0 0] (w.heap.size + 1 + 1) #[.int .i64 r, .bool true, .bool false, (.slice sA 1 1)]) := HD1.out.as ⟨fun h => (HD1.out.syn.at' h).trans ((if_neg (by rw [HQ.out.1]; decide)).trans (if_pos HQ0.out)), fun h => absurd h (by have := HST.out; omega)⟩
                        have hol2 : w.heap.size + 1 + 1 < ye.heap.size := HD2.out.out.lt
                        have HD3 : Hid (HdAt w (ye.alloc (.cells #[.int .i64 g] 3)) x A cap m gf M s0 j jd (soU emb q (qpStart [g])) (fun _ => False) #[.int .i64 P, .int .i64 T, .int .i64 G] 111 #[.int .i64 0, .bool false, .bool false, .slice none 0 0] (w.heap.size + 1 + 1) #[.int .i64 r, .bool true, .bool false, (.slice sA 1 1)]) := HD2.out.low ((Below.refl _ _).alloc (Nat.le_refl _) _)
                        have HG1 : Hid (Hol (ye.alloc (.cells #[.int .i64 g] 3)) (.slice (some ⟨yd.heap.size, 0, none⟩) 1 1) [g] [x, w.heap.size + 1, w.heap.size + 1 + 1]) := by
                          have h8 := Hol.one ye g [x, w.heap.size + 1, w.heap.size + 1 + 1] (fun k hk => by have := HD2.out.x; simp at hk; omega)
                          rw [hsz] at h8
                          exact h8
                        have hQ := syn_qputB (so_qpIn HE.out q) HP.out.1 HP.out.2.1 HP.out.2.2.1 (by simp) (B := some ⟨yd.heap.size, 0, none⟩) (cp := 1) HG1.out.sees (fun _ b off e => by cases e; have := HD2.out.x; omega) HD3.out.run HD3.out.syn HBD.out
                        have k0 := HD3.out.cfg.cell 0 (v := .int .i64 P) rfl
                        have k1 := HD3.out.cfg.cell 1 (v := .int .i64 T) rfl
                        have k2 := HD3.out.cfg.cell 2 (v := .int .i64 G) rfl
                        have q3 := HD3.out.out.cell 3 (v := (.slice sA 1 1)) rfl
                        have e3 := HD3.out.out.fro 3
                        have HFR : Hid (yd.heap.size ∉ [x, w.heap.size + 1, w.heap.size + 1 + 1]) := (by
                          have h8 := HD2.out.x
                          intro hm
                          simp at hm
                          omega : yd.heap.size ∉ [x, w.heap.size + 1, w.heap.size + 1 + 1])
                        clear HD1 HD2
                        simp only [List.length_cons, List.length_nil, Nat.zero_add] at hQ
                        go_wp2_with fail
                        generalize hYG : ye.alloc (.cells #[.int .i64 g] 3) = yg at *
                        clear hYG
                        go_at_call 130; refine hQ.mono ?_; rintro e yh ⟨v, held, jh, u, rfl, a1, a2, a3, a4, a5, a6, a7, a8⟩
                        obtain ⟨A1, c1, rfl, -⟩ : ∃ A1 c1, v = .slice A1 held.length c1 ∧ True := by obtain ⟨A1, c1, e1, -⟩ := a1; exact ⟨A1, c1, e1, trivial⟩
                        have HHo : Hid (Hol yh (.slice A1 held.length c1) held [x, w.heap.size + 1, w.heap.size + 1 + 1]) := ⟨A1, c1, rfl, a1, fun h b off e => by have h2 := a8 _ _ _ rfl h; rw [e] at h2; cases h2; exact HFR.out⟩
                        have HU : Hid (QpT.live u = false ∧ (jh ≤ m → held = if u.lies = true then [] else [g])) := ⟨a4, a5⟩
                        have HD4 : Hid (HdAt w (yh.setCell ⟨w.heap.size + 1 + 1, 3, none⟩ (.slice A1 held.length c1)) x A cap m gf M s0 j jh (soU emb q u) (QpQ (fun _ => False) (soU emb q) [g] held) #[.int .i64 P, .int .i64 T, .int .i64 G] 111 #[.int .i64 0, .bool false, .bool false, .slice none 0 0] (w.heap.size + 1 + 1) #[.int .i64 r, .bool true, .bool false, (.slice A1 held.length c1)]) := (HD3.out.go a2 a3 a6 a7).set 3 (.slice A1 held.length c1)
                        have HHp : Hid (Hol (yh.setCell ⟨w.heap.size + 1 + 1, 3, none⟩ (.slice A1 held.length c1)) (.slice A1 held.length c1) held [x, w.heap.size + 1, w.heap.size + 1 + 1]) := HHo.out.but (k := w.heap.size + 1 + 1) ((But.refl _ _).set (g := w.heap.size + 1 + 1) (.inl (by simp)) 3 _) (by simp)
                        have oo3 := (HD3.out.go a2 a3 a6 a7).out.cell 3 (v := (.slice sA 1 1)) rfl
                        have ff3 := (HD3.out.go a2 a3 a6 a7).out.fro 3
                        clear hQ a1 a2 a3 a4 a5 a6 a7 a8 HD3 HG1 k0 k1 k2 q3 e3 HHo HMd
                        go_wp2_with fail
                        clear oo3 ff3
                        generalize yh.setCell ⟨w.heap.size + 1 + 1, 3, none⟩ (.slice A1 held.length c1) = yi at *
                        have HD5 : Hid (HdAt w yi x A cap m gf M s0 j jh (soR3 emb q u .fresh) (SoQ Q emb P T G t p g r true false held) #[.int .i64 P, .int .i64 T, .int .i64 G] 111 #[.int .i64 0, .bool false, .bool false, .slice none 0 0] (w.heap.size + 1 + 1) #[.int .i64 r, .bool true, .bool false, (.slice A1 held.length c1)]) := HD4.out.as ⟨fun h => (HD4.out.syn.at' h).trans (by cases u <;> first | rfl | cases HU.out.1), fun h => ⟨by
                          rcases (HD4.out.syn.past h).1 with ⟨h1, -⟩ | ⟨p', hl, h1, h2⟩
                          · exact h1.elim
                          · have hb : soU emb q p' = emb (.que q p') := by cases p' <;> first | rfl | cases hl
                            obtain ⟨a, ha⟩ : ∃ a, (soPM P T G t p g).ax (.que q p') = some a := by cases p' <;> first | exact ⟨_, rfl⟩ | cases hl
                            exact .inr ⟨.que q p', a, ha, h1.trans hb, HRM.out.trans HQ0.out.symm, rfl, rfl, h2⟩, (HD4.out.syn.past h).2⟩⟩
                        have hRl := syn_release (so_relIn3 HE.out q u) (by omega) HD5.out.run HD5.out.syn HBD.out
                        clear HD4
                        go_at_call 131; refine hRl.mono ?_; rintro e yk ⟨⟨uk, rfl⟩, jk, hR5, hS5, hB5, hj5⟩
                        have HH : Hid (HdAt w yk x A cap m gf M s0 j jk (soR3 emb q u .over) (SoQ Q emb P T G t p g r true false held) #[.int .i64 P, .int .i64 T, .int .i64 G] 111 #[.int .i64 0, .bool false, .bool false, .slice none 0 0] (w.heap.size + 1 + 1) #[.int .i64 r, .bool true, .bool false, (.slice A1 held.length c1)]) := HD5.out.go hR5 ⟨hS5.at', fun h => ⟨by
                          by_cases h4 : m < jh
                          · exact (HD5.out.syn.past h4).1
                          · have hh := HU.out.2 (by omega)
                            rcases (hS5.past h).1 with h1 | h1 | h1
                            · exact h1
                            · exact .inr ⟨.rel3 q u .fresh, _, rfl, h1, HRM.out.trans HQ0.out.symm, rfl, rfl, hh⟩
                            · exact .inr ⟨.rel3 q u .pass, _, rfl, h1, HRM.out.trans HQ0.out.symm, rfl, rfl, hh⟩, (hS5.past h).2⟩⟩ hB5 hj5
                        have HHq : Hid (Hol yk (.slice A1 held.length c1) held [x, w.heap.size + 1, w.heap.size + 1 + 1]) := HHp.out.but hB5 (by simp)
                        have HJ : Hid (jh ≤ jk) := hj5
                        clear hRl hR5 hS5 hB5 hj5 HD5 HHp
                        have r0 := HH.out.res.cell 0 (v := .int .i64 0) rfl
                        have r1 := HH.out.res.cell 1 (v := .bool false) rfl
                        have r2 := HH.out.res.cell 2 (v := .bool false) rfl
                        have r3 := HH.out.res.cell 3 (v := .slice none 0 0) rfl
                        have f0 := HH.out.res.fro 0
                        have f1 := HH.out.res.fro 1
                        have f2 := HH.out.res.fro 2
                        have f3 := HH.out.res.fro 3
                        have o0 := HH.out.out.cell 0 (v := .int .i64 r) rfl
                        have o1 := HH.out.out.cell 1 (v := .bool true) rfl
                        have o2 := HH.out.out.cell 2 (v := .bool false) rfl
                        have o3 := HH.out.out.cell 3 (v := (.slice A1 held.length c1)) rfl
                        have HN : Hid _ := HH.out.ret4 (a := .int .i64 r) (b := .bool true) (c := .bool false) (d := (.slice A1 held.length c1)) rfl
                        go_wp2_with fail
                        generalize ((((yk.setCell ⟨w.heap.size + 1, 0, none⟩ (.int .i64 r)).setCell ⟨w.heap.size + 1, 1, none⟩ (.bool true)).setCell ⟨w.heap.size + 1, 2, none⟩ (.bool false)).setCell ⟨w.heap.size + 1, 3, none⟩ ((.slice A1 held.length c1))) = yz at *
                        have hfr := HN.out.2.2.1
                        refine bodyPost_ret (v := .agg #[.int .i64 r, .bool true, .bool false, (.slice A1 held.length c1)]) (results_cell_row rfl _ _ (w.heap.size + 1) 111 #[.int .i64 r, .bool true, .bool false, (.slice A1 held.length c1)] _ _ rfl hfr Tryz.underlying111 rfl (by kernel_rfl)) rfl ?_
                        exact ⟨r, true, false, (.slice A1 held.length c1), held, jk, .over4 q u, rfl, (HHq.out.but HN.out.2.2.2 (by simp)).sees, HN.out.1, HH.out.syn, rfl, (fun h => ⟨HRM.out.trans HQ0.out.symm, rfl, rfl, HU.out.2 (Nat.le_trans HJ.out h)⟩), HN.out.2.1, HH.out.le⟩
                      · have hd1 : (r != -1) = true := by simpa using hr1
                        clear HDY
                        go_wp2_with fail
                        clear oo0 ff0
                        generalize (yd.setCell ⟨w.heap.size + 1 + 1, 0, none⟩ (.int .i64 r)) = ye at *
                        have HRM : Hid (q.obs ≠ -1) := fun h => hr1 (HRQ.out.trans h)
                        have HD2 : Hid (HdAt w ye x A cap m gf M s0 j jd (soR2 emb q .fresh) (fun _ => False) #[.int .i64 P, .int .i64 T, .int .i64 G] 111 #[.int .i64 0, .bool false, .bool false, .slice none 0 0] (w.heap.size + 1 + 1) #[.int .i64 r, .bool true, .bool false, (.slice sA 1 1)]) := HD1.out.as ⟨fun h => (HD1.out.syn.at' h).trans ((if_neg (by rw [HQ.out.1]; decide)).trans (if_neg HRM.out)), fun h => absurd h (by have := HST.out; omega)⟩
                        have hRl := syn_release (so_relIn2 HE.out q) (by omega) HD2.out.run HD2.out.syn HBD.out
                        clear HD1 hr1
                        go_wp2_with fail
                        go_at_call 131; refine hRl.mono ?_; rintro e yk ⟨⟨uk, rfl⟩, jk, hR5, hS5, hB5, hj5⟩
                        have HD3 : Hid (HdAt w yk x A cap m gf M s0 j jk (emb (.ro2 q)) (SoQ Q emb P T G t p g r true false [g]) #[.int .i64 P, .int .i64 T, .int .i64 G] 111 #[.int .i64 0, .bool false, .bool false, .slice none 0 0] (w.heap.size + 1 + 1) #[.int .i64 r, .bool true, .bool false, (.slice sA 1 1)]) := HD2.out.go hR5 (hS5.weak (fun q' h => by
                          rcases h with h | h | h
                          · exact h.elim
                          · exact .inr ⟨.rel2 q .fresh, _, rfl, h, HRQ.out, rfl, rfl, rfl⟩
                          · exact .inr ⟨.rel2 q .pass, _, rfl, h, HRQ.out, rfl, rfl, rfl⟩)) hB5 hj5
                        have HMk : Hid (Hol yk (.slice sA 1 1) [g] [x, w.heap.size + 1, w.heap.size + 1 + 1]) := HMd.out.but hB5 (by simp)
                        clear hRl hR5 hS5 hB5 hj5 HD2 HMd
                        have k0 := HD3.out.cfg.cell 0 (v := .int .i64 P) rfl
                        have k1 := HD3.out.cfg.cell 1 (v := .int .i64 T) rfl
                        have k2 := HD3.out.cfg.cell 2 (v := .int .i64 G) rfl
                        have o0 := HD3.out.out.cell 0 (v := .int .i64 r) rfl
                        have hPl := rprcAt_all P T G r 0 yk HP.out.1.2 (by omega)
                        have HAX2 : Hid (M.ax (emb (.ro2 q)) = some (axSt (wd 20 P 264 r 0) 1)) := by rw [HRQ.out]; exact HE.out.ax (.ro2 q) _ rfl
                        generalize wd 20 P 264 r 0 = atr at *
                        go_wp2_with fail
                        go_at_call 136; refine hPl.mono ?_; rintro e yl ⟨rfl, h5⟩
                        have HD4 : Hid _ := HD3.out.low h5
                        have HMl : Hid (Hol yl (.slice sA 1 1) [g] [x, w.heap.size + 1, w.heap.size + 1 + 1]) := HMk.out.below h5
                        have hA := syn_store HD4.out.run HD4.out.syn HBD.out atr 1 (fun _ => HAX2.out)
                        clear hPl h5 k0 k1 k2 o0 HD3 HMk
                        go_wp2_with fail
                        go_at_call 96; refine hA.mono ?_; rintro e yn ⟨⟨un, rfl⟩, vn, hK⟩
                        have HH : Hid (HdAt w yn x A cap m gf M s0 j (jk + 1) (emb (.over3 q)) (SoQ Q emb P T G t p g r true false [g]) #[.int .i64 P, .int .i64 T, .int .i64 G] 111 #[.int .i64 0, .bool false, .bool false, .slice none 0 0] (w.heap.size + 1 + 1) #[.int .i64 r, .bool true, .bool false, (.slice sA 1 1)]) := by
                          have h := HD4.out.step hK
                          rw [HE.out.nx (.ro2 q) _ _ rfl] at h
                          exact h.as (h.syn.weak (fun q' h => h.elim (fun h => .inr ⟨.ro2 q, _, rfl, h, HRQ.out, rfl, rfl, rfl⟩) (fun h => h)))
                        have HMn : Hid (Hol yn (.slice sA 1 1) [g] [x, w.heap.size + 1, w.heap.size + 1 + 1]) := HMl.out.but hK.but (by simp)
                        clear hA hK HD4 HMl HAX2
                        have r0 := HH.out.res.cell 0 (v := .int .i64 0) rfl
                        have r1 := HH.out.res.cell 1 (v := .bool false) rfl
                        have r2 := HH.out.res.cell 2 (v := .bool false) rfl
                        have r3 := HH.out.res.cell 3 (v := .slice none 0 0) rfl
                        have f0 := HH.out.res.fro 0
                        have f1 := HH.out.res.fro 1
                        have f2 := HH.out.res.fro 2
                        have f3 := HH.out.res.fro 3
                        have o0 := HH.out.out.cell 0 (v := .int .i64 r) rfl
                        have o1 := HH.out.out.cell 1 (v := .bool true) rfl
                        have o2 := HH.out.out.cell 2 (v := .bool false) rfl
                        have o3 := HH.out.out.cell 3 (v := (.slice sA 1 1)) rfl
                        have HN : Hid _ := HH.out.ret4 (a := .int .i64 r) (b := .bool true) (c := .bool false) (d := (.slice sA 1 1)) rfl
                        go_wp2_with fail
                        generalize ((((yn.setCell ⟨w.heap.size + 1, 0, none⟩ (.int .i64 r)).setCell ⟨w.heap.size + 1, 1, none⟩ (.bool true)).setCell ⟨w.heap.size + 1, 2, none⟩ (.bool false)).setCell ⟨w.heap.size + 1, 3, none⟩ ((.slice sA 1 1))) = yz at *
                        have hfr := HN.out.2.2.1
                        refine bodyPost_ret (v := .agg #[.int .i64 r, .bool true, .bool false, (.slice sA 1 1)]) (results_cell_row rfl _ _ (w.heap.size + 1) 111 #[.int .i64 r, .bool true, .bool false, (.slice sA 1 1)] _ _ rfl hfr Tryz.underlying111 rfl (by kernel_rfl)) rfl ?_
                        exact ⟨r, true, false, (.slice sA 1 1), [g], jk + 1, .over3 q, rfl, (HMn.out.but HN.out.2.2.2 (by simp)).sees, HN.out.1, HH.out.syn, rfl, (fun _ => ⟨HRQ.out, rfl, rfl, rfl⟩), HN.out.2.1, HH.out.le⟩
              · have hd1 : (r != -1) = true := by simpa using hr1
                have HD4 : Hid (HdAt w y8 x A cap m gf M s0 j j8 (emb (.ro1 q)) (fun _ => False) #[.int .i64 P, .int .i64 T, .int .i64 G] 111 #[.int .i64 0, .bool false, .bool false, .slice none 0 0] (w.heap.size + 1 + 1) #[.int .i64 r, .bool false, .bool false, .slice none 0 0]) := HD3.out.as ⟨fun h => (HD3.out.syn.at' h).trans (by rw [if_neg (fun e => hr1 (HRQ.out.trans e))]), fun h => absurd h (by have := HST.out; omega)⟩
                clear HD3 hr1
                have k0 := HD4.out.cfg.cell 0 (v := .int .i64 P) rfl
                have k1 := HD4.out.cfg.cell 1 (v := .int .i64 T) rfl
                have k2 := HD4.out.cfg.cell 2 (v := .int .i64 G) rfl
                have o0 := HD4.out.out.cell 0 (v := .int .i64 r) rfl
                have hPl := rprcAt_all P T G r 0 y8 HP.out.1.2 (by omega)
                have HAX2 : Hid (M.ax (emb (.ro1 q)) = some (axSt (wd 20 P 264 r 0) 1)) := by rw [HRQ.out]; exact HE.out.ax (.ro1 q) _ rfl
                generalize wd 20 P 264 r 0 = atr at *
                go_wp2_with fail
                go_at_call 136; refine hPl.mono ?_; rintro e yl ⟨rfl, h5⟩
                have HD5 : Hid _ := HD4.out.low h5
                have hA := syn_store HD5.out.run HD5.out.syn HBD.out atr 1 (fun _ => HAX2.out)
                clear hPl h5 k0 k1 k2 o0 HD4
                go_wp2_with fail
                go_at_call 96; refine hA.mono ?_; rintro e yn ⟨⟨un, rfl⟩, vn, hK⟩
                have HD6 : Hid (HdAt w yn x A cap m gf M s0 j (j8 + 1) (emb (.rn1 q)) (SoQ Q emb P T G t p g r false false []) #[.int .i64 P, .int .i64 T, .int .i64 G] 111 #[.int .i64 0, .bool false, .bool false, .slice none 0 0] (w.heap.size + 1 + 1) #[.int .i64 r, .bool false, .bool false, .slice none 0 0]) := by
                  have h := HD5.out.step hK
                  rw [HE.out.nx (.ro1 q) _ _ rfl] at h
                  exact h.as (h.syn.weak (fun q' h => h.elim (fun h => .inr ⟨.ro1 q, _, rfl, h, HRQ.out, rfl, rfl, rfl⟩) (fun h => h.elim)))
                have hA2 := syn_store HD6.out.run HD6.out.syn HBD.out at0 2 (fun _ => HAX3.out.2 q)
                clear hA hK HD5 HAX2 HST
                go_wp2_with fail
                go_at_call 96; refine hA2.mono ?_; rintro e yo ⟨⟨uo, rfl⟩, vo, hK⟩
                have HD7 : Hid (HdAt w yo x A cap m gf M s0 j (j8 + 1 + 1) (emb (.over2 q)) (SoQ Q emb P T G t p g r false false []) #[.int .i64 P, .int .i64 T, .int .i64 G] 111 #[.int .i64 0, .bool false, .bool false, .slice none 0 0] (w.heap.size + 1 + 1) #[.int .i64 r, .bool false, .bool false, .slice none 0 0]) := by
                  have h := HD6.out.step hK
                  rw [HE.out.nx (.rn1 q) _ _ rfl] at h
                  exact h.as (h.syn.weak (fun q' h => h.elim (fun h => .inr ⟨.rn1 q, _, rfl, h, HRQ.out, rfl, rfl, rfl⟩) (fun h => h)))
                clear hA2 hK HD6
                have q1 := HD7.out.out.cell 1 (v := .bool false) rfl
                have q2 := HD7.out.out.cell 2 (v := .bool false) rfl
                have e1 := HD7.out.out.fro 1
                have e2 := HD7.out.out.fro 2
                have sc := HD7.out.stop
                by_cases hst : m < j8 + 1 + 1
                · rw [decide_eq_true hst] at sc
                  have HST : Hid (m < j8 + 1 + 1) := hst
                  clear hst
                  have HG : Hid (HdAt w ((yo.setCell ⟨w.heap.size + 1 + 1, 1, none⟩ (.bool false)).setCell ⟨w.heap.size + 1 + 1, 2, none⟩ (.bool false)) x A cap m gf M s0 j (j8 + 1 + 1) (emb (.over2 q)) (SoQ Q emb P T G t p g r false false []) #[.int .i64 P, .int .i64 T, .int .i64 G] 111 #[.int .i64 0, .bool false, .bool false, .slice none 0 0] (w.heap.size + 1 + 1) #[.int .i64 r, .bool false, .bool false, .slice none 0 0]) := ((HD7.out.set 1 (.bool false)).set 2 (.bool false))
                  have r0 := HD7.out.res.cell 0 (v := .int .i64 0) rfl
                  have r1 := HD7.out.res.cell 1 (v := .bool false) rfl
                  have r2 := HD7.out.res.cell 2 (v := .bool false) rfl
                  have r3 := HD7.out.res.cell 3 (v := .slice none 0 0) rfl
                  have f0 := HD7.out.res.fro 0
                  have f1 := HD7.out.res.fro 1
                  have f2 := HD7.out.res.fro 2
                  have f3 := HD7.out.res.fro 3
                  have o0 := HD7.out.out.cell 0 (v := .int .i64 r) rfl
                  have o3 := HD7.out.out.cell 3 (v := .slice none 0 0) rfl
                  clear HD7
                  have HN : Hid _ := HG.out.ret4 (a := .int .i64 r) (b := .bool false) (c := .bool false) (d := .slice none 0 0) rfl
                  go_wp2_with fail
                  generalize ((((((yo.setCell ⟨w.heap.size + 1 + 1, 1, none⟩ (.bool false)).setCell ⟨w.heap.size + 1 + 1, 2, none⟩ (.bool false)).setCell ⟨w.heap.size + 1, 0, none⟩ (.int .i64 r)).setCell ⟨w.heap.size + 1, 1, none⟩ (.bool false)).setCell ⟨w.heap.size + 1, 2, none⟩ (.bool false)).setCell ⟨w.heap.size + 1, 3, none⟩ (.slice none 0 0)) = yz at *
                  have hfr := HN.out.2.2.1
                  refine bodyPost_ret (v := .agg #[.int .i64 r, .bool false, .bool false, .slice none 0 0]) (results_cell_row rfl _ _ (w.heap.size + 1) 111 #[.int .i64 r, .bool false, .bool false, .slice none 0 0] _ _ rfl hfr Tryz.underlying111 rfl (by kernel_rfl)) rfl ?_
                  exact ⟨r, false, false, .slice none 0 0, [], j8 + 1 + 1, .over1, rfl, (Hol.nil _ []).sees, HN.out.1, ⟨fun h => absurd h (by have := HST.out; omega), HG.out.syn.past⟩, rfl, (fun h => absurd h (by have := HST.out; omega)), HN.out.2.1, HG.out.le⟩
                · rw [decide_eq_false hst] at sc
                  have HST : Hid (j8 + 1 + 1 ≤ m) := (by omega : j8 + 1 + 1 ≤ m)
                  clear hst
                  have HG : Hid (HdAt w ((yo.setCell ⟨w.heap.size + 1 + 1, 1, none⟩ (.bool true)).setCell ⟨w.heap.size + 1 + 1, 2, none⟩ (.bool true)) x A cap m gf M s0 j (j8 + 1 + 1) (emb (.over2 q)) (SoQ Q emb P T G t p g r true true []) #[.int .i64 P, .int .i64 T, .int .i64 G] 111 #[.int .i64 0, .bool false, .bool false, .slice none 0 0] (w.heap.size + 1 + 1) #[.int .i64 r, .bool true, .bool true, .slice none 0 0]) := ((HD7.out.set 1 (.bool true)).set 2 (.bool true)).as (HD7.out.syn.reset HST.out _)
                  have r0 := HD7.out.res.cell 0 (v := .int .i64 0) rfl
                  have r1 := HD7.out.res.cell 1 (v := .bool false) rfl
                  have r2 := HD7.out.res.cell 2 (v := .bool false) rfl
                  have r3 := HD7.out.res.cell 3 (v := .slice none 0 0) rfl
                  have f0 := HD7.out.res.fro 0
                  have f1 := HD7.out.res.fro 1
                  have f2 := HD7.out.res.fro 2
                  have f3 := HD7.out.res.fro 3
                  have o0 := HD7.out.out.cell 0 (v := .int .i64 r) rfl
                  have o3 := HD7.out.out.cell 3 (v := .slice none 0 0) rfl
                  clear HD7
                  have HN : Hid _ := HG.out.ret4 (a := .int .i64 r) (b := .bool true) (c := .bool true) (d := .slice none 0 0) rfl
                  go_wp2_with fail
                  generalize ((((((yo.setCell ⟨w.heap.size + 1 + 1, 1, none⟩ (.bool true)).setCell ⟨w.heap.size + 1 + 1, 2, none⟩ (.bool true)).setCell ⟨w.heap.size + 1, 0, none⟩ (.int .i64 r)).setCell ⟨w.heap.size + 1, 1, none⟩ (.bool true)).setCell ⟨w.heap.size + 1, 2, none⟩ (.bool true)).setCell ⟨w.heap.size + 1, 3, none⟩ (.slice none 0 0)) = yz at *
                  have hfr := HN.out.2.2.1
                  refine bodyPost_ret (v := .agg #[.int .i64 r, .bool true, .bool true, .slice none 0 0]) (results_cell_row rfl _ _ (w.heap.size + 1) 111 #[.int .i64 r, .bool true, .bool true, .slice none 0 0] _ _ rfl hfr Tryz.underlying111 rfl (by kernel_rfl)) rfl ?_
                  exact ⟨r, true, true, .slice none 0 0, [], j8 + 1 + 1, .over2 q, rfl, (Hol.nil _ []).sees, HN.out.1, HG.out.syn, rfl, (fun _ => ⟨HRQ.out, rfl, rfl, rfl⟩), HN.out.2.1, HG.out.le⟩
  · have HST0 : Hid (j + 1 ≤ m) := by
      rcases Nat.lt_or_ge j m with h | h
      · exact h
      · exact absurd (HZ.out h) (by decide)
    have hz : decide ((1 : Int) = 1) = true := by decide
    have q0 := HH3.out.out.cell 0 (v := .int .i64 (-1)) rfl
    have e0 := HH3.out.out.fro 0
    have HH4 : Hid (HdAt w (y3.setCell ⟨w.heap.size + 1 + 1, 0, none⟩ (.int .i64 p)) x A cap m gf M s0 j (j + 1) (emb .ct) (fun _ => False) #[.int .i64 P, .int .i64 T, .int .i64 G] 111 #[.int .i64 0, .bool false, .bool false, .slice none 0 0] (w.heap.size + 1 + 1) #[.int .i64 p, .bool false, .bool false, .slice none 0 0]) := (HH3.out.set 0 (.int .i64 p)).as ⟨fun h => HH3.out.syn.at' h, fun h => absurd h (by have := HST0.out; omega)⟩
    have k0 := HH3.out.cfg.cell 0 (v := .int .i64 P) rfl
    have k1 := HH3.out.cfg.cell 1 (v := .int .i64 T) rfl
    have k2 := HH3.out.cfg.cell 2 (v := .int .i64 G) rfl
    clear HH3 HZ
    go_wp2_with fail
    clear q0 e0 k0 k1 k2
    generalize y3.setCell ⟨w.heap.size + 1 + 1, 0, none⟩ (.int .i64 p) = y4 at *
    have k0 := HH4.out.cfg.cell 0 (v := .int .i64 P) rfl
    have k1 := HH4.out.cfg.cell 1 (v := .int .i64 T) rfl
    have k2 := HH4.out.cfg.cell 2 (v := .int .i64 G) rfl
    have hPl := HPA.out 5 y4 (by omega)
    have HAX2 : Hid (M.ax (emb .ct) = some (axAd (wd 20 P 264 p 5) 1)) := HE.out.ax .ct _ rfl
    generalize wd 20 P 264 p 5 = atr at *
    go_wp2_with fail
    go_at_call 136; refine hPl.mono ?_; rintro e y5 ⟨rfl, h5⟩
    have HH5 : Hid _ := HH4.out.low h5
    have hA := syn_add HH5.out.run HH5.out.syn HBD.out atr 1 (fun _ => HAX2.out)
    clear hPl h5 k0 k1 k2 HH4
    go_wp2_with fail
    go_at_call 135; refine hA.mono ?_; rintro e y6 ⟨v6, rfl, hK⟩
    have HH6 : Hid (HdAt w y6 x A cap m gf M s0 j (j + 1 + 1) (emb .rn) (SoQ Q emb P T G t p g p false false []) #[.int .i64 P, .int .i64 T, .int .i64 G] 111 #[.int .i64 0, .bool false, .bool false, .slice none 0 0] (w.heap.size + 1 + 1) #[.int .i64 p, .bool false, .bool false, .slice none 0 0]) := by
      have h := HH5.out.step hK
      rw [HE.out.nx .ct _ _ rfl] at h
      exact h.as (h.syn.weak (fun q' h => h.elim (fun h => .inr ⟨.ct, _, rfl, h, rfl, rfl, rfl, rfl⟩) (fun h => h.elim)))
    have hA2 := syn_store HH6.out.run HH6.out.syn HBD.out at0 2 (fun _ => HAX3.out.1)
    clear hA hK HH5 HAX2
    go_wp2_with fail
    go_at_call 96; refine hA2.mono ?_; rintro e y7 ⟨⟨u7, rfl⟩, v7, hK⟩
    have HH7 : Hid (HdAt w y7 x A cap m gf M s0 j (j + 1 + 1 + 1) (emb .over1) (SoQ Q emb P T G t p g p false false []) #[.int .i64 P, .int .i64 T, .int .i64 G] 111 #[.int .i64 0, .bool false, .bool false, .slice none 0 0] (w.heap.size + 1 + 1) #[.int .i64 p, .bool false, .bool false, .slice none 0 0]) := by
      have h := HH6.out.step hK
      rw [HE.out.nx .rn _ _ rfl] at h
      exact h.as (h.syn.weak (fun q' h => h.elim (fun h => .inr ⟨.rn, _, rfl, h, rfl, rfl, rfl, rfl⟩) (fun h => h)))
    clear hA2 hK HH6
    have q1 := HH7.out.out.cell 1 (v := .bool false) rfl
    have q2 := HH7.out.out.cell 2 (v := .bool false) rfl
    have e1 := HH7.out.out.fro 1
    have e2 := HH7.out.out.fro 2
    have sc := HH7.out.stop
    by_cases hst : m < j + 1 + 1 + 1
    · rw [decide_eq_true hst] at sc
      have HST : Hid (m < j + 1 + 1 + 1) := hst
      clear hst
      have HG : Hid (HdAt w ((y7.setCell ⟨w.heap.size + 1 + 1, 1, none⟩ (.bool false)).setCell ⟨w.heap.size + 1 + 1, 2, none⟩ (.bool false)) x A cap m gf M s0 j (j + 1 + 1 + 1) (emb (.over1)) (SoQ Q emb P T G t p g p false false []) #[.int .i64 P, .int .i64 T, .int .i64 G] 111 #[.int .i64 0, .bool false, .bool false, .slice none 0 0] (w.heap.size + 1 + 1) #[.int .i64 p, .bool false, .bool false, .slice none 0 0]) := ((HH7.out.set 1 (.bool false)).set 2 (.bool false))
      have r0 := HH7.out.res.cell 0 (v := .int .i64 0) rfl
      have r1 := HH7.out.res.cell 1 (v := .bool false) rfl
      have r2 := HH7.out.res.cell 2 (v := .bool false) rfl
      have r3 := HH7.out.res.cell 3 (v := .slice none 0 0) rfl
      have f0 := HH7.out.res.fro 0
      have f1 := HH7.out.res.fro 1
      have f2 := HH7.out.res.fro 2
      have f3 := HH7.out.res.fro 3
      have o0 := HH7.out.out.cell 0 (v := .int .i64 p) rfl
      have o3 := HH7.out.out.cell 3 (v := .slice none 0 0) rfl
      clear HH7
      have HN : Hid _ := HG.out.ret4 (a := .int .i64 p) (b := .bool false) (c := .bool false) (d := .slice none 0 0) rfl
      go_wp2_with fail
      generalize ((((((y7.setCell ⟨w.heap.size + 1 + 1, 1, none⟩ (.bool false)).setCell ⟨w.heap.size + 1 + 1, 2, none⟩ (.bool false)).setCell ⟨w.heap.size + 1, 0, none⟩ (.int .i64 p)).setCell ⟨w.heap.size + 1, 1, none⟩ (.bool false)).setCell ⟨w.heap.size + 1, 2, none⟩ (.bool false)).setCell ⟨w.heap.size + 1, 3, none⟩ (.slice none 0 0)) = yz at *
      have hfr := HN.out.2.2.1
      refine bodyPost_ret (v := .agg #[.int .i64 p, .bool false, .bool false, .slice none 0 0]) (results_cell_row rfl _ _ (w.heap.size + 1) 111 #[.int .i64 p, .bool false, .bool false, .slice none 0 0] _ _ rfl hfr Tryz.underlying111 rfl (by kernel_rfl)) rfl ?_
      exact ⟨p, false, false, .slice none 0 0, [], j + 1 + 1 + 1, .over1, rfl, (Hol.nil _ []).sees, HN.out.1, ⟨fun h => absurd h (by have := HST.out; omega), HG.out.syn.past⟩, rfl, (fun h => absurd h (by have := HST.out; omega)), HN.out.2.1, HG.out.le⟩
    · rw [decide_eq_false hst] at sc
      have HST : Hid (j + 1 + 1 + 1 ≤ m) := (by omega : j + 1 + 1 + 1 ≤ m)
      clear hst
      have HG : Hid (HdAt w ((y7.setCell ⟨w.heap.size + 1 + 1, 1, none⟩ (.bool true)).setCell ⟨w.heap.size + 1 + 1, 2, none⟩ (.bool true)) x A cap m gf M s0 j (j + 1 + 1 + 1) (emb (.over1)) (SoQ Q emb P T G t p g p true true []) #[.int .i64 P, .int .i64 T, .int .i64 G] 111 #[.int .i64 0, .bool false, .bool false, .slice none 0 0] (w.heap.size + 1 + 1) #[.int .i64 p, .bool true, .bool true, .slice none 0 0]) := ((HH7.out.set 1 (.bool true)).set 2 (.bool true)).as (HH7.out.syn.reset HST.out _)
      have r0 := HH7.out.res.cell 0 (v := .int .i64 0) rfl
      have r1 := HH7.out.res.cell 1 (v := .bool false) rfl
      have r2 := HH7.out.res.cell 2 (v := .bool false) rfl
      have r3 := HH7.out.res.cell 3 (v := .slice none 0 0) rfl
      have f0 := HH7.out.res.fro 0
      have f1 := HH7.out.res.fro 1
      have f2 := HH7.out.res.fro 2
      have f3 := HH7.out.res.fro 3
      have o0 := HH7.out.out.cell 0 (v := .int .i64 p) rfl
      have o3 := HH7.out.out.cell 3 (v := .slice none 0 0) rfl
      clear HH7
      have HN : Hid _ := HG.out.ret4 (a := .int .i64 p) (b := .bool true) (c := .bool true) (d := .slice none 0 0) rfl
      go_wp2_with fail
      generalize ((((((y7.setCell ⟨w.heap.size + 1 + 1, 1, none⟩ (.bool true)).setCell ⟨w.heap.size + 1 + 1, 2, none⟩ (.bool true)).setCell ⟨w.heap.size + 1, 0, none⟩ (.int .i64 p)).setCell ⟨w.heap.size + 1, 1, none⟩ (.bool true)).setCell ⟨w.heap.size + 1, 2, none⟩ (.bool true)).setCell ⟨w.heap.size + 1, 3, none⟩ (.slice none 0 0)) = yz at *
      have hfr := HN.out.2.2.1
      refine bodyPost_ret (v := .agg #[.int .i64 p, .bool true, .bool true, .slice none 0 0]) (results_cell_row rfl _ _ (w.heap.size + 1) 111 #[.int .i64 p, .bool true, .bool true, .slice none 0 0] _ _ rfl hfr Tryz.underlying111 rfl (by kernel_rfl)) rfl ?_
      exact ⟨p, true, true, .slice none 0 0, [], j + 1 + 1 + 1, .over1, rfl, (Hol.nil _ []).sees, HN.out.1, HG.out.syn, rfl, (fun _ => ⟨rfl, rfl, rfl, rfl⟩), HN.out.2.1, HG.out.le⟩
theorem rsout_on (w : World) (x : Nat) (A : Option Addr) (cap m : Nat) (gf : Nat → Int) (P T G t p g : Int) (s : SoT) (h : RunOn w x A cap m gf rn0) (hh : Hist (soPM P T G t p g) .sw gf m s) (hp : 0 ≤ P ∧ P ≤ 64) (hT : 0 ≤ T ∧ T ≤ 65536) (hG : 0 ≤ G ∧ G ≤ 65536) (hw : 0 ≤ t ∧ t ≤ 300) :
    Calls Tryz.prog 75 #[.pointer (some ⟨x, 0, none⟩), .agg #[.int .i64 P, .int .i64 T, .int .i64 G], .int .i64 t, .int .i64 p, .int .i64 g] w fun e w' => ∃ v, e = .returned (.agg #[.int .i64 (s.p p), .bool s.came, .bool s.runs, v]) ∧ SeesL w' v (s.holds g) ∧ RunOn w' x A cap m gf ((soPM P T G t p g).rn s m) ∧ But [x] w w' := by
  rw [← rj_start (M := (soPM P T G t p g)) (s0 := SoT.sw) (g := gf) (m := m)] at h
  refine (syn_sout (pm_in _) hp hT hG hw h (Syn.start _ _ _ _) hh.bd hh.sw).mono ?_
  rintro e w' ⟨p', c, r, v, l, j', sf, rfl, h0, h1, h2, h3, h4, h5, -⟩
  have hr : p' = s.p p ∧ c = s.came ∧ r = s.runs ∧ l = s.holds g := by
    rcases h2.fin hh (fun _ => h3) with ⟨e1, e2⟩ | ⟨-, (⟨hf, -⟩ | ⟨s', a, -, e1, e2⟩)⟩
    · rw [e1]; exact h4 (by omega)
    · exact hf.elim
    · rw [e1]; exact e2
  obtain ⟨rfl, rfl, rfl, rfl⟩ := hr
  refine ⟨v, rfl, h0, ?_, h5⟩
  rw [← rj_end h2 hh (fun _ => h3)]
  exact h1
end Go.Proofs.YtcjidigpdecdlaaGreat
