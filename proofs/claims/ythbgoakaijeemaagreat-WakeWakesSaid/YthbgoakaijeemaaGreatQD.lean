/- The document's routine that starts a thread keeps step with any machine that has it within it: the walk. -/
import Derived.Test.YthbgoakaijeemaaGreatLkFl
import Derived.Test.YthbgoakaijeemaaGreatIl0
import Derived.Test.YthbgoakaijeemaaGreatIp1
import Derived.Test.YthbgoakaijeemaaGreatBC
import Derived.Test.YthbgoakaijeemaaGreatIp2
import Derived.Test.YthbgoakaijeemaaGreatQB
namespace Go.Proofs.YthbgoakaijeemaaGreat
open Go Go.RowKit
set_option linter.unusedVariables false
set_option maxRecDepth 100000
set_option linter.unusedSimpArgs false

theorem But.lowk {w w1 w2 : World} {x k : Nat} (h : But [x] w w1) (h2 : But [k] w1 w2) (hk : w.heap.size ≤ k) : But [x] w w2 :=
  ⟨h2.os.trans h.os, h2.tape.trans h.tape, h2.output.trans h.output, Nat.le_trans h.size h2.size, fun i hi hc => (h2.block i (Nat.lt_of_lt_of_le hi h.size) (by simp; omega)).trans (h.block i hi hc)⟩
/-- Behind j accesses: the run, the config, the result's block, and the hand's. -/
structure HdAt {σ : Type} (w y : World) (x : Nat) (A : Option Addr) (cap m : Nat) (g : Nat → Int) (M : PM σ) (s0 : σ) (j0 j : Nat) (t : σ) (Q : σ → Prop) (cf : Array Value) (HT : TypeId) (z : Array Value) (o : Nat) (oc : Array Value) : Prop where
  run : RunOn y x A cap m g (M.rj s0 g m j)
  syn : Syn M s0 g m j t Q
  but : But [x] w y
  cfg : Blk y w.heap.size cf 23
  res : Blk y (w.heap.size + 1) z HT
  out : Blk y o oc HT
  lo : w.heap.size + 1 < o
  x : x < w.heap.size
  far : GotFar A [w.heap.size + 1, o]
  le : j0 ≤ j
section
variable {σ : Type} {w y : World} {x : Nat} {A : Option Addr} {cap m : Nat} {g : Nat → Int} {M : PM σ} {s0 : σ} {j0 j : Nat} {t : σ} {Q : σ → Prop} {cf : Array Value} {HT : TypeId} {z : Array Value} {o : Nat} {oc : Array Value} (h : HdAt w y x A cap m g M s0 j0 j t Q cf HT z o oc)
include h
theorem HdAt.go {y2 : World} {j2 : Nat} {t2 : σ} {Q2 : σ → Prop} (hR : RunOn y2 x A cap m g (M.rj s0 g m j2)) (hS : Syn M s0 g m j2 t2 Q2) (hB : But [x] y y2) (hj : j ≤ j2) : HdAt w y2 x A cap m g M s0 j0 j2 t2 Q2 cf HT z o oc := by
  have hx := h.x
  have hl := h.lo
  exact ⟨hR, hS, h.but.trans hB, h.cfg.but hB (by simp; omega), h.res.but hB (by simp; omega), h.out.but hB (by simp; omega), hl, hx, h.far, Nat.le_trans h.le hj⟩
theorem HdAt.low {Y : World} (hY : Below y.heap.size y Y) : HdAt w Y x A cap m g M s0 j0 j t Q cf HT z o oc :=
  ⟨h.run.below hY, h.syn, h.but.trans (But.of_below hY), h.cfg.but (But.of_below (l := []) hY) (by simp), h.res.but (But.of_below (l := []) hY) (by simp), h.out.but (But.of_below (l := []) hY) (by simp), h.lo, h.x, h.far, h.le⟩
theorem HdAt.as {t2 : σ} {Q2 : σ → Prop} (hS : Syn M s0 g m j t2 Q2) : HdAt w y x A cap m g M s0 j0 j t2 Q2 cf HT z o oc :=
  ⟨h.run, hS, h.but, h.cfg, h.res, h.out, h.lo, h.x, h.far, h.le⟩
theorem HdAt.set (i : Nat) (v : Value) : HdAt w (y.setCell ⟨o, i, none⟩ v) x A cap m g M s0 j0 j t Q cf HT z o (oc.setIfInBounds i v) := by
  have hx := h.x
  have hl := h.lo
  have hU : But [o] y (y.setCell ⟨o, i, none⟩ v) := (But.refl _ y).set (g := o) (.inl (by simp)) i _
  exact ⟨h.run.but hU (by simp; omega) (h.far.of (by intro k hk; simp at hk ⊢; omega)), h.syn, But.lowk h.but hU (by omega), h.cfg.but hU (by simp; omega), h.res.but hU (by simp; omega), h.out.set i v, hl, hx, h.far, h.le⟩
/-- An access: what is so behind it. -/
theorem HdAt.step {y2 : World} {v : Int} (hK : Kept' y y2 x A cap m g M s0 j t Q v) : HdAt w y2 x A cap m g M s0 j0 (j + 1) (M.nx t v) (fun r => r = t ∨ Q r) cf HT z o oc :=
  h.go hK.run hK.syn hK.but (Nat.le_succ _)
theorem HdAt.stop : y.cell? ⟨x, 2, none⟩ = some (.bool (decide (m < j))) := by
  have := h.run.blk.cell 2 (v := .bool (M.rj s0 g m j).stop) rfl
  rw [rj_stop h.syn] at this
  exact this
/-- The result is laid. -/
theorem HdAt.ret {a b c : Value} {z0 z1 z2 : Value} (hz : z = #[z0, z1, z2]) : RunOn (((y.setCell ⟨w.heap.size + 1, 0, none⟩ a).setCell ⟨w.heap.size + 1, 1, none⟩ b).setCell ⟨w.heap.size + 1, 2, none⟩ c) x A cap m g (M.rj s0 g m j) ∧ But [x] w (((y.setCell ⟨w.heap.size + 1, 0, none⟩ a).setCell ⟨w.heap.size + 1, 1, none⟩ b).setCell ⟨w.heap.size + 1, 2, none⟩ c) ∧ (((y.setCell ⟨w.heap.size + 1, 0, none⟩ a).setCell ⟨w.heap.size + 1, 1, none⟩ b).setCell ⟨w.heap.size + 1, 2, none⟩ c).heap[w.heap.size + 1]? = some (.cells #[a, b, c] HT (0, 0)) := by
  subst hz
  have hx := h.x
  have hU : But [w.heap.size + 1] y (((y.setCell ⟨w.heap.size + 1, 0, none⟩ a).setCell ⟨w.heap.size + 1, 1, none⟩ b).setCell ⟨w.heap.size + 1, 2, none⟩ c) := (((But.refl _ y).set (g := w.heap.size + 1) (.inl (by simp)) 0 _).set (g := w.heap.size + 1) (.inl (by simp)) 1 _).set (g := w.heap.size + 1) (.inl (by simp)) 2 _
  have hZ := ((h.res.set 0 a).set 1 b).set 2 c
  exact ⟨h.run.but hU (by simp; omega) (h.far.of (by intro k hk; simp at hk ⊢; omega)), But.lowk h.but hU (by omega), hZ.heap⟩
end
end Go.Proofs.YthbgoakaijeemaaGreat

namespace Go.Proofs.YthbgoakaijeemaaGreat
open Go Go.RowKit
set_option linter.unusedVariables false
set_option maxRecDepth 100000
set_option linter.unusedSimpArgs false

theorem rbit_any (p : Int) (w : World) : Calls Tryz.prog 137 #[.int .i64 p] w fun e w' => e = .returned (.int .u64 (bitOf p)) ∧ w = w' := by
  by_cases h0 : p < 0
  · have e : bitOf p = 0 := by unfold bitOf; rw [if_neg (by omega)]
    rw [e]
    go_enter Tryz.func137, Tryz.ntmps137
    go_wp2_with fail
    go_ret
    exact ⟨rfl, rfl⟩
  · have d0 : decide (p < 0) = false := decide_eq_false h0
    by_cases h1 : 63 < p
    · have e : bitOf p = 0 := by unfold bitOf; rw [if_neg (by omega)]
      rw [e]
      clear h0
      go_enter Tryz.func137, Tryz.ntmps137
      go_wp2_with fail
      go_ret
      exact ⟨rfl, rfl⟩
    · have d1 : decide (63 < p) = false := decide_eq_false h1
      obtain ⟨n, rfl⟩ : ∃ n : Nat, p = n := ⟨p.toNat, by omega⟩
      have e : bitOf (n : Int) = ((2 ^ n : Nat) : Int) := by unfold bitOf; rw [if_pos (by omega)]; rfl
      have HN : Hid (n ≤ 63) := (by omega : n ≤ 63)
      rw [e]
      clear h0 h1 e
      go_enter Tryz.func137, Tryz.ntmps137
      go_wp2_with fail
      go_loopw [3, 4] (fun o i wr => ∃ k z : Nat, k ≤ n ∧ o = .int .u64 (z : Int) ∧ i = .int .i64 k ∧ wr = w ∧ Hid (z = 2 ^ k)) (fun _ i _ => n - (intOf i).toNat)
      case atStart => exact ⟨0, 1, Nat.zero_le _, rfl, rfl, rfl, rfl⟩
      case round =>
        obtain ⟨k, z, hk, rfl, rfl, rfl, HZ⟩ := hrel
        have hn63 := HN.out
        by_cases hlt : k < n
        · have hz : z ≤ 2 ^ 62 := by rw [HZ.out]; exact Nat.pow_le_pow_right (by omega) (by omega)
          have e2 : IntKind.u64.wrap (2 * (z : Int)) = ((2 * z : Nat) : Int) := by rw [wrap_u64 (by omega)]; omega
          have HZ2 : Hid (2 * z = 2 ^ (k + 1)) := (by rw [Nat.pow_succ, HZ.out]; omega : 2 * z = 2 ^ (k + 1))
          generalize 2 * z = z' at *
          have hk1 : (k : Int) < (n : Int) := by omega
          clear hz
          go_wp2_with fail
          go_roundw
          case rel => exact ⟨k + 1, z', by omega, rfl, by go_num, trivial, HZ2⟩
          case measure => simp [intOf]; omega
        · obtain rfl : k = n := by omega
          have hgd : decide ((k : Int) < (k : Int)) = false := by simp
          go_wp2_with fail
          go_ret
          rw [← HZ.out]
          exact ⟨rfl, rfl⟩
theorem rmasked_any (v p : Int) (w : World) (hv : 0 ≤ v ∧ v ≤ 18446744073709551615) : Calls Tryz.prog 136 #[.int .u64 v, .int .i64 p] w fun e w' => e = .returned (.bool (mskB v p)) ∧ w = w' := by
  have hB := fun W => rbit_any p W
  have hbd := bitOf_bd p
  unfold mskB
  by_cases h0 : bitOf p = 0
  · rw [h0] at hB ⊢
    clear h0 hbd
    go_enter Tryz.func136, Tryz.ntmps136
    go_wp2_with fail
    go_at_call 137; refine (hB _).mono ?_; rintro e w1 ⟨rfl, rfl⟩
    go_wp2_with fail
    go_ret
    exact ⟨rfl, rfl⟩
  · rw [decide_eq_true h0, Bool.true_and]
    have t1 : v.tdiv (bitOf p) = v / bitOf p := Int.tdiv_eq_ediv_of_nonneg hv.1
    have hq : 0 ≤ v / bitOf p := Int.ediv_nonneg hv.1 hbd.1
    have hq2 : v / bitOf p ≤ v := Int.ediv_le_self _ hv.1
    have t2 : (v / bitOf p).tmod 2 = v / bitOf p % 2 := Int.tmod_eq_emod_of_nonneg hq
    have t3 : IntKind.u64.wrap (v / bitOf p) = v / bitOf p := wrap_u64 (by omega)
    have t4 : IntKind.u64.wrap (v / bitOf p % 2) = v / bitOf p % 2 := wrap_u64 (by omega)
    have hd0 : (bitOf p == 0) = false := by simpa using h0
    generalize v / bitOf p = q at *
    generalize bitOf p = b at *
    have hr : 0 ≤ q % 2 := by omega
    generalize q % 2 = r at *
    have HH0 : Hid (b ≠ 0) := h0
    clear hbd hq hq2
    go_enter Tryz.func136, Tryz.ntmps136
    go_wp2_with fail
    go_at_call 137; refine (hB _).mono ?_; rintro e w1 ⟨rfl, rfl⟩
    go_wp2_with fail
    go_at_call 137; refine (hB _).mono ?_; rintro e w1 ⟨rfl, rfl⟩
    go_wp2_with fail
    go_ret
    have hb0 : (b != 0) = true := by simpa using HH0.out
    rw [← Bool.true_and (decide (r = 1)), ← hb0]
    exact ⟨rfl, rfl⟩
end Go.Proofs.YthbgoakaijeemaaGreat

namespace Go.Proofs.YthbgoakaijeemaaGreat
open Go Go.RowKit
set_option linter.unusedVariables false
set_option maxRecDepth 100000
set_option linter.unusedSimpArgs false

structure IpIn {σ : Type} (M : PM σ) (P p : Int) (emb : IpT → σ) : Prop where
  m0 : M.ax (emb .m0) = some (axLd 19)
  ms : ∀ w, M.ax (emb (.ms w)) = some (axSt 19 (mskIn w p))
  h0 : M.ax (emb .h0) = some (axLd 9)
  ln : ∀ h, M.ax (emb (.ln h)) = some (axSt (wd 20 P 264 p 7) h)
  st : M.ax (emb .st) = some (axSt 9 (ilw p))
  ct : M.ax (emb .ct) = some (axAd 10 1)
  n1 : ∀ v, M.nx (emb .m0) v = emb (.ms v)
  n2 : ∀ w v, M.nx (emb (.ms w)) v = emb .h0
  n3 : ∀ v, M.nx (emb .h0) v = emb (.ln v)
  n4 : ∀ h v, M.nx (emb (.ln h)) v = emb .st
  n5 : ∀ v, M.nx (emb .st) v = emb .ct
  n6 : ∀ v, M.nx (emb .ct) v = emb .over
/-- Where a put stopped, and what it answered. -/
def IpQ {σ : Type} (Q : σ → Prop) (emb : IpT → σ) (p r : Int) (q : σ) : Prop := (Q q ∧ r = p) ∨ ∃ p', p' ≠ IpT.over ∧ q = emb p' ∧ r = p'.obs p
theorem ip_in (P p : Int) : IpIn (ipPM P p) P p (fun t => t) := ⟨rfl, fun _ => rfl, rfl, fun _ => rfl, rfl, rfl, fun _ => rfl, fun _ _ => rfl, fun _ => rfl, fun _ _ => rfl, fun _ => rfl, fun _ => rfl⟩

set_option maxHeartbeats 4000000 in
theorem syn_iput {σ : Type} {M : PM σ} {P T G p : Int} {emb : IpT → σ} (hE : IpIn M P p emb) (hp : 0 ≤ P ∧ P ≤ 64)
    {w : World} {x : Nat} {A : Option Addr} {cap m : Nat} {g : Nat → Int} {s0 : σ} {j : Nat} {Q : σ → Prop} (hR : RunOn w x A cap m g (M.rj s0 g m j)) (hS : Syn M s0 g m j (emb .m0) Q) (hb : ∀ j, j < m → 0 ≤ g j ∧ g j ≤ 18446744073709551615) :
    Calls Tryz.prog 80 #[.pointer (some ⟨x, 0, none⟩), .agg #[.int .i64 P, .int .i64 T, .int .i64 G], .int .i64 p] w fun e w' => ∃ r j', e = .returned (.int .i64 r) ∧ RunOn w' x A cap m g (M.rj s0 g m j') ∧ Syn M s0 g m j' (emb .over) (IpQ Q emb p r) ∧ (j' ≤ m → r = -1) ∧ But [x] w w' ∧ j ≤ j' := by
  have hb0 : Below w.heap.size w (w.alloc (.cells #[.int .i64 P, .int .i64 T, .int .i64 G] 23)) := (Below.refl _ _).alloc (Nat.le_refl _) _
  have HX : Hid (Blk (w.alloc (.cells #[.int .i64 P, .int .i64 T, .int .i64 G] 23)) w.heap.size #[.int .i64 P, .int .i64 T, .int .i64 G] 23) := Blk.new _ _ _
  have hxw := hR.blk.lt
  have HB0 : Hid (But [x] w (w.alloc (.cells #[.int .i64 P, .int .i64 T, .int .i64 G] 23))) := But.of_below hb0
  have HE : Hid (IpIn M P p emb) := hE
  have HBD : Hid (∀ j, j < m → 0 ≤ g j ∧ g j ≤ 18446744073709551615) := hb
  have hPA := fun W => rprcAt_all P T G p 7 W hp.2 (by omega)
  have hL := syn_load (hR.below hb0) hS hb 19 (fun _ => hE.m0)
  clear hR hS hE hb hb0 hp
  go_enter Tryz.func80, Tryz.ntmps80
  go_wp2_with fail
  generalize w.alloc (.cells #[.int .i64 P, .int .i64 T, .int .i64 G] 23) = W at *
  go_at_call 94; refine hL.mono ?_; rintro e y2 ⟨v, rfl, hK⟩
  have HR2 : Hid (RunOn y2 x A cap m g (M.rj s0 g m (j + 1))) := hK.run
  have hvb := hK.bd
  have HS2 : Hid (Syn M s0 g m (j + 1) (emb (.ms v)) (fun q => Q q ∨ ∃ p', p' ≠ IpT.over ∧ q = emb p' ∧ p'.obs p = p)) := by
    have := hK.syn
    rw [HE.out.n1] at this
    exact this.weak (fun r hr => by rcases hr with rfl | hr; exact .inr ⟨.m0, (fun h => by cases h), rfl, rfl⟩; exact .inl hr)
  have HX2 : Hid (Blk y2 w.heap.size #[.int .i64 P, .int .i64 T, .int .i64 G] 23) := HX.out.but hK.but (by simp; omega)
  have HB2 : Hid (But [x] w y2) := HB0.out.trans hK.but
  have hMk := rmasked_any v p y2 hvb
  have hBt := rbit_any p y2
  have hor := or_bit v p hvb
  have hSt2 := syn_store HR2.out HS2.out HBD.out 19 (mskIn v p) (fun _ => HE.out.ms v)
  clear hL hK HX HB0
  cases hmb : mskB v p
  · rw [hmb] at hMk
    have hmv : mskIn v p = v + bitOf p := by unfold mskIn; rw [hmb]; rfl
    have hwv : IntKind.u64.wrap (v + bitOf p) = mskIn v p := by rw [← hmv]; exact wrap_u64 (by omega)
    have HIN : Hid (True) := trivial
    clear hmb hor hmv
    generalize mskIn v p = mv at *
    generalize bitOf p = bp at *
    go_wp2_with fail
    go_at_call 136; refine hMk.mono ?_; rintro e w1 ⟨rfl, rfl⟩
    go_wp2_with fail
    go_at_call 137; refine hBt.mono ?_; rintro e w1 ⟨rfl, rfl⟩
    clear hMk hBt
    go_wp2_with fail
    go_at_call 77; refine hSt2.mono ?_; rintro e y3 ⟨⟨u3, rfl⟩, v3, hK⟩
    have HS3 : Hid (Syn M s0 g m (j + 1 + 1) (emb .h0) (fun q => Q q ∨ ∃ p', p' ≠ IpT.over ∧ q = emb p' ∧ p'.obs p = p)) := by
      have := hK.syn
      rw [HE.out.n2] at this
      exact this.weak (fun r hr => by rcases hr with rfl | hr; exact .inr ⟨.ms v, (fun h => by cases h), rfl, rfl⟩; exact hr)
    have HX3 : Hid (Blk y3 w.heap.size #[.int .i64 P, .int .i64 T, .int .i64 G] 23) := HX2.out.but hK.but (by simp; omega)
    have HB3 : Hid (But [x] w y3) := HB2.out.trans hK.but
    have hL3 := syn_load hK.run HS3.out HBD.out 9 (fun _ => HE.out.h0)
    clear hSt2 hK HX2 HB2 HS2 HR2
    go_wp2_with fail
    go_at_call 94; refine hL3.mono ?_; rintro e y4 ⟨h, rfl, hK⟩
    have HR4 : Hid (RunOn y4 x A cap m g (M.rj s0 g m (j + 1 + 1 + 1))) := hK.run
    have HS4 : Hid (Syn M s0 g m (j + 1 + 1 + 1) (emb (.ln h)) (fun q => Q q ∨ ∃ p', p' ≠ IpT.over ∧ q = emb p' ∧ p'.obs p = p)) := by
      have := hK.syn
      rw [HE.out.n3] at this
      exact this.weak (fun r hr => by rcases hr with rfl | hr; exact .inr ⟨.h0, (fun h => by cases h), rfl, rfl⟩; exact hr)
    have HX4 : Hid (Blk y4 w.heap.size #[.int .i64 P, .int .i64 T, .int .i64 G] 23) := HX3.out.but hK.but (by simp; omega)
    have HB4 : Hid (But [x] w y4) := HB3.out.trans hK.but
    have k0 := HX4.out.cell 0 (v := .int .i64 P) rfl
    have k1 := HX4.out.cell 1 (v := .int .i64 T) rfl
    have k2 := HX4.out.cell 2 (v := .int .i64 G) rfl
    have hPA4 := hPA y4
    have HSt4 : Hid (∀ Y, Below y4.heap.size y4 Y → _) := fun Y (hY : Below y4.heap.size y4 Y) => syn_store (HR4.out.below hY) HS4.out HBD.out (wd 20 P 264 p 7) h (fun _ => HE.out.ln h)
    clear hL3 hK HX3 HB3 HS3 hPA
    go_wp2_with fail
    go_at_call 79; refine hPA4.mono ?_; rintro e y5 ⟨rfl, h5⟩
    have hSt4 := HSt4.out y5 h5
    have HB5 : Hid (But [x] w y5) := HB4.out.trans (But.of_below h5)
    clear hPA4 h5 k0 k1 k2 HX4 HB4 HSt4 HR4
    go_wp2_with fail
    go_at_call 77; refine hSt4.mono ?_; rintro e y6 ⟨⟨u6, rfl⟩, v6, hK⟩
    have HS6 : Hid (Syn M s0 g m (j + 1 + 1 + 1 + 1) (emb .st) (fun q => Q q ∨ ∃ p', p' ≠ IpT.over ∧ q = emb p' ∧ p'.obs p = p)) := by
      have := hK.syn
      rw [HE.out.n4] at this
      exact this.weak (fun r hr => by rcases hr with rfl | hr; exact .inr ⟨.ln h, (fun h => by cases h), rfl, rfl⟩; exact hr)
    have HB6 : Hid (But [x] w y6) := HB5.out.trans hK.but
    have hSt6 := syn_store hK.run HS6.out HBD.out 9 (ilw p) (fun _ => HE.out.st)
    have hlw : IntKind.u64.wrap (IntKind.u64.wrap p + 1) = ilw p := rfl
    generalize ilw p = lp at *
    clear hSt4 hK HB5 HS4
    go_wp2_with fail
    go_at_call 77; refine hSt6.mono ?_; rintro e y7 ⟨⟨u7, rfl⟩, v7, hK⟩
    have HR7 : Hid (RunOn y7 x A cap m g (M.rj s0 g m (j + 1 + 1 + 1 + 1 + 1))) := hK.run
    have HS7 : Hid (Syn M s0 g m (j + 1 + 1 + 1 + 1 + 1) (emb .ct) (fun q => Q q ∨ ∃ p', p' ≠ IpT.over ∧ q = emb p' ∧ p'.obs p = p)) := by
      have := hK.syn
      rw [HE.out.n5] at this
      exact this.weak (fun r hr => by rcases hr with rfl | hr; exact .inr ⟨.st, (fun h => by cases h), rfl, rfl⟩; exact hr)
    have HB7 : Hid (But [x] w y7) := HB6.out.trans hK.but
    have hA7 := syn_add hK.run HS7.out HBD.out 10 1 (fun _ => HE.out.ct)
    have sc := HR7.out.blk.cell 2 (v := .bool (M.rj s0 g m (j + 1 + 1 + 1 + 1 + 1)).stop) rfl
    rw [rj_stop HS7.out] at sc
    clear hSt6 hK HB6 HS6 hlw
    by_cases hst : m < j + 1 + 1 + 1 + 1 + 1
    · have HST : Hid (m < j + 1 + 1 + 1 + 1 + 1) := hst
      have HPAST : Hid (IpQ Q emb p p (M.run s0 g m)) := by
        rcases (HS7.out.past hst).1 with hq | ⟨p', h1, h2, h3⟩
        · exact .inl ⟨hq, rfl⟩
        · exact .inr ⟨p', h1, h2, h3.symm⟩
      rw [decide_eq_true hst] at sc
      clear hst
      go_wp2_with fail
      go_at_call 78; refine hA7.mono ?_; rintro e y8 ⟨v8, rfl, hK⟩
      have HF : Hid (RunOn y8 x A cap m g (M.rj s0 g m (j + 1 + 1 + 1 + 1 + 1 + 1)) ∧ Syn M s0 g m (j + 1 + 1 + 1 + 1 + 1 + 1) (emb .over) (IpQ Q emb p p) ∧ But [x] w y8) := by
        exact ⟨hK.run, ⟨fun h => absurd h (by have := HST.out; omega), fun h => ⟨HPAST.out, (HS7.out.past HST.out).2⟩⟩, HB7.out.trans hK.but⟩
      clear hA7 hK sc
      go_wp2_with fail
      go_ret
      exact ⟨p, j + 1 + 1 + 1 + 1 + 1 + 1, rfl, HF.out.1, HF.out.2.1, fun h => absurd h (by have := HST.out; omega), HF.out.2.2, by omega⟩
    · have HST : Hid (j + 1 + 1 + 1 + 1 + 1 ≤ m) := (by omega : j + 1 + 1 + 1 + 1 + 1 ≤ m)
      rw [decide_eq_false hst] at sc
      clear hst
      go_wp2_with fail
      go_at_call 78; refine hA7.mono ?_; rintro e y8 ⟨v8, rfl, hK⟩
      have HF : Hid (RunOn y8 x A cap m g (M.rj s0 g m (j + 1 + 1 + 1 + 1 + 1 + 1)) ∧ Syn M s0 g m (j + 1 + 1 + 1 + 1 + 1 + 1) (emb .over) (IpQ Q emb p (-1)) ∧ But [x] w y8) := by
        have := hK.syn
        rw [HE.out.n6] at this
        refine ⟨hK.run, ⟨this.at', fun h => ⟨?_, (this.past h).2⟩⟩, HB7.out.trans hK.but⟩
        have hm : m = j + 1 + 1 + 1 + 1 + 1 := by have := HST.out; omega
        have h2 := HS7.out.at' HST.out
        rw [← hm] at h2
        exact .inr ⟨.ct, (fun h => by cases h), h2, rfl⟩
      clear hA7 hK sc
      go_wp2_with fail
      go_ret
      exact ⟨-1, j + 1 + 1 + 1 + 1 + 1 + 1, rfl, HF.out.1, HF.out.2.1, fun _ => rfl, HF.out.2.2, by omega⟩
  · rw [hmb] at hMk
    have hmv : mskIn v p = v := by unfold mskIn; rw [hmb]; rfl
    rw [hmv] at hSt2
    clear hmb hor hmv hBt
    go_wp2_with fail
    go_at_call 136; refine hMk.mono ?_; rintro e w1 ⟨rfl, rfl⟩
    clear hMk
    go_wp2_with fail
    go_at_call 77; refine hSt2.mono ?_; rintro e y3 ⟨⟨u3, rfl⟩, v3, hK⟩
    have HS3 : Hid (Syn M s0 g m (j + 1 + 1) (emb .h0) (fun q => Q q ∨ ∃ p', p' ≠ IpT.over ∧ q = emb p' ∧ p'.obs p = p)) := by
      have := hK.syn
      rw [HE.out.n2] at this
      exact this.weak (fun r hr => by rcases hr with rfl | hr; exact .inr ⟨.ms v, (fun h => by cases h), rfl, rfl⟩; exact hr)
    have HX3 : Hid (Blk y3 w.heap.size #[.int .i64 P, .int .i64 T, .int .i64 G] 23) := HX2.out.but hK.but (by simp; omega)
    have HB3 : Hid (But [x] w y3) := HB2.out.trans hK.but
    have hL3 := syn_load hK.run HS3.out HBD.out 9 (fun _ => HE.out.h0)
    clear hSt2 hK HX2 HB2 HS2 HR2
    go_wp2_with fail
    go_at_call 94; refine hL3.mono ?_; rintro e y4 ⟨h, rfl, hK⟩
    have HR4 : Hid (RunOn y4 x A cap m g (M.rj s0 g m (j + 1 + 1 + 1))) := hK.run
    have HS4 : Hid (Syn M s0 g m (j + 1 + 1 + 1) (emb (.ln h)) (fun q => Q q ∨ ∃ p', p' ≠ IpT.over ∧ q = emb p' ∧ p'.obs p = p)) := by
      have := hK.syn
      rw [HE.out.n3] at this
      exact this.weak (fun r hr => by rcases hr with rfl | hr; exact .inr ⟨.h0, (fun h => by cases h), rfl, rfl⟩; exact hr)
    have HX4 : Hid (Blk y4 w.heap.size #[.int .i64 P, .int .i64 T, .int .i64 G] 23) := HX3.out.but hK.but (by simp; omega)
    have HB4 : Hid (But [x] w y4) := HB3.out.trans hK.but
    have k0 := HX4.out.cell 0 (v := .int .i64 P) rfl
    have k1 := HX4.out.cell 1 (v := .int .i64 T) rfl
    have k2 := HX4.out.cell 2 (v := .int .i64 G) rfl
    have hPA4 := hPA y4
    have HSt4 : Hid (∀ Y, Below y4.heap.size y4 Y → _) := fun Y (hY : Below y4.heap.size y4 Y) => syn_store (HR4.out.below hY) HS4.out HBD.out (wd 20 P 264 p 7) h (fun _ => HE.out.ln h)
    clear hL3 hK HX3 HB3 HS3 hPA
    go_wp2_with fail
    go_at_call 79; refine hPA4.mono ?_; rintro e y5 ⟨rfl, h5⟩
    have hSt4 := HSt4.out y5 h5
    have HB5 : Hid (But [x] w y5) := HB4.out.trans (But.of_below h5)
    clear hPA4 h5 k0 k1 k2 HX4 HB4 HSt4 HR4
    go_wp2_with fail
    go_at_call 77; refine hSt4.mono ?_; rintro e y6 ⟨⟨u6, rfl⟩, v6, hK⟩
    have HS6 : Hid (Syn M s0 g m (j + 1 + 1 + 1 + 1) (emb .st) (fun q => Q q ∨ ∃ p', p' ≠ IpT.over ∧ q = emb p' ∧ p'.obs p = p)) := by
      have := hK.syn
      rw [HE.out.n4] at this
      exact this.weak (fun r hr => by rcases hr with rfl | hr; exact .inr ⟨.ln h, (fun h => by cases h), rfl, rfl⟩; exact hr)
    have HB6 : Hid (But [x] w y6) := HB5.out.trans hK.but
    have hSt6 := syn_store hK.run HS6.out HBD.out 9 (ilw p) (fun _ => HE.out.st)
    have hlw : IntKind.u64.wrap (IntKind.u64.wrap p + 1) = ilw p := rfl
    generalize ilw p = lp at *
    clear hSt4 hK HB5 HS4
    go_wp2_with fail
    go_at_call 77; refine hSt6.mono ?_; rintro e y7 ⟨⟨u7, rfl⟩, v7, hK⟩
    have HR7 : Hid (RunOn y7 x A cap m g (M.rj s0 g m (j + 1 + 1 + 1 + 1 + 1))) := hK.run
    have HS7 : Hid (Syn M s0 g m (j + 1 + 1 + 1 + 1 + 1) (emb .ct) (fun q => Q q ∨ ∃ p', p' ≠ IpT.over ∧ q = emb p' ∧ p'.obs p = p)) := by
      have := hK.syn
      rw [HE.out.n5] at this
      exact this.weak (fun r hr => by rcases hr with rfl | hr; exact .inr ⟨.st, (fun h => by cases h), rfl, rfl⟩; exact hr)
    have HB7 : Hid (But [x] w y7) := HB6.out.trans hK.but
    have hA7 := syn_add hK.run HS7.out HBD.out 10 1 (fun _ => HE.out.ct)
    have sc := HR7.out.blk.cell 2 (v := .bool (M.rj s0 g m (j + 1 + 1 + 1 + 1 + 1)).stop) rfl
    rw [rj_stop HS7.out] at sc
    clear hSt6 hK HB6 HS6 hlw
    by_cases hst : m < j + 1 + 1 + 1 + 1 + 1
    · have HST : Hid (m < j + 1 + 1 + 1 + 1 + 1) := hst
      have HPAST : Hid (IpQ Q emb p p (M.run s0 g m)) := by
        rcases (HS7.out.past hst).1 with hq | ⟨p', h1, h2, h3⟩
        · exact .inl ⟨hq, rfl⟩
        · exact .inr ⟨p', h1, h2, h3.symm⟩
      rw [decide_eq_true hst] at sc
      clear hst
      go_wp2_with fail
      go_at_call 78; refine hA7.mono ?_; rintro e y8 ⟨v8, rfl, hK⟩
      have HF : Hid (RunOn y8 x A cap m g (M.rj s0 g m (j + 1 + 1 + 1 + 1 + 1 + 1)) ∧ Syn M s0 g m (j + 1 + 1 + 1 + 1 + 1 + 1) (emb .over) (IpQ Q emb p p) ∧ But [x] w y8) := by
        exact ⟨hK.run, ⟨fun h => absurd h (by have := HST.out; omega), fun h => ⟨HPAST.out, (HS7.out.past HST.out).2⟩⟩, HB7.out.trans hK.but⟩
      clear hA7 hK sc
      go_wp2_with fail
      go_ret
      exact ⟨p, j + 1 + 1 + 1 + 1 + 1 + 1, rfl, HF.out.1, HF.out.2.1, fun h => absurd h (by have := HST.out; omega), HF.out.2.2, by omega⟩
    · have HST : Hid (j + 1 + 1 + 1 + 1 + 1 ≤ m) := (by omega : j + 1 + 1 + 1 + 1 + 1 ≤ m)
      rw [decide_eq_false hst] at sc
      clear hst
      go_wp2_with fail
      go_at_call 78; refine hA7.mono ?_; rintro e y8 ⟨v8, rfl, hK⟩
      have HF : Hid (RunOn y8 x A cap m g (M.rj s0 g m (j + 1 + 1 + 1 + 1 + 1 + 1)) ∧ Syn M s0 g m (j + 1 + 1 + 1 + 1 + 1 + 1) (emb .over) (IpQ Q emb p (-1)) ∧ But [x] w y8) := by
        have := hK.syn
        rw [HE.out.n6] at this
        refine ⟨hK.run, ⟨this.at', fun h => ⟨?_, (this.past h).2⟩⟩, HB7.out.trans hK.but⟩
        have hm : m = j + 1 + 1 + 1 + 1 + 1 := by have := HST.out; omega
        have h2 := HS7.out.at' HST.out
        rw [← hm] at h2
        exact .inr ⟨.ct, (fun h => by cases h), h2, rfl⟩
      clear hA7 hK sc
      go_wp2_with fail
      go_ret
      exact ⟨-1, j + 1 + 1 + 1 + 1 + 1 + 1, rfl, HF.out.1, HF.out.2.1, fun _ => rfl, HF.out.2.2, by omega⟩

theorem rgiput_on (w : World) (x : Nat) (A : Option Addr) (cap m : Nat) (gf : Nat → Int) (P T G p : Int) (t : IpT) (h : RunOn w x A cap m gf rn0) (hh : Hist (ipPM P p) .m0 gf m t) (hp : 0 ≤ P ∧ P ≤ 64) :
    Calls Tryz.prog 80 #[.pointer (some ⟨x, 0, none⟩), .agg #[.int .i64 P, .int .i64 T, .int .i64 G], .int .i64 p] w fun e w' => e = .returned (.int .i64 (t.obs p)) ∧ RunOn w' x A cap m gf ((ipPM P p).rn t m) ∧ But [x] w w' := by
  rw [← rj_start (M := ipPM P p) (s0 := IpT.m0) (g := gf) (m := m)] at h
  refine (syn_iput (ip_in P p) hp h (Syn.start _ _ _ _) hh.bd).mono ?_
  rintro e w' ⟨r, j', rfl, h1, h2, h4, h5, -⟩
  have hr : r = t.obs p := by
    rcases h2.fin hh (fun _ => rfl) with ⟨e1, e2⟩ | ⟨-, (⟨hf, -⟩ | ⟨p', -, e1, e2⟩)⟩
    · rw [e1]; exact h4 (by omega)
    · exact hf.elim
    · rw [e1]; exact e2
  rw [hr]
  refine ⟨rfl, ?_, h5⟩
  rw [← rj_end h2 hh (fun _ => rfl)]
  exact h1
end Go.Proofs.YthbgoakaijeemaaGreat

namespace Go.Proofs.YthbgoakaijeemaaGreat
open Go Go.RowKit
set_option linter.unusedVariables false
set_option maxRecDepth 100000
set_option linter.unusedSimpArgs false

structure JgIn {σ : Type} (M : PM σ) (P T : Int) (emb : JgT → σ) : Prop where
  ld : M.ax (emb .ld) = some (axLd 11)
  lk : ∀ y, M.ax (emb (.lk y)) = some (axLd (wd (20 + P * 264) T 3 y 2))
  un : ∀ y l, M.ax (emb (.un y l)) = some (axSt 11 l)
  ct : ∀ y, M.ax (emb (.ct y)) = some (axAd 12 4294967295)
  th : M.ax (emb .th) = some (axLd 15)
  nw : ∀ y, M.ax (emb (.nw y)) = some (axSt 15 (y + 1))
  n1 : ∀ v, M.nx (emb .ld) v = if v = 0 then emb .th else emb (.lk (gw v))
  n2 : ∀ y v, M.nx (emb (.lk y)) v = emb (.un y v)
  n3 : ∀ y l v, M.nx (emb (.un y l)) v = emb (.ct y)
  n4 : ∀ y v, M.nx (emb (.ct y)) v = emb (.over y)
  n5 : ∀ v, M.nx (emb .th) v = if T ≤ v then emb .none' else emb (.nw v)
  n6 : ∀ y v, M.nx (emb (.nw y)) v = emb (.over y)
def JgT.live : JgT → Bool
  | .none' => false
  | .over _ => false
  | _ => true
/-- Where a get stopped, and what it answered. -/
def JgQ {σ : Type} (Q : σ → Prop) (emb : JgT → σ) (r : Int) (q : σ) : Prop := (Q q ∧ r = -1) ∨ ∃ p', JgT.live p' = true ∧ q = emb p' ∧ r = p'.obs
theorem jg_in (P T : Int) : JgIn (jgPM P T) P T (fun t => t) := ⟨rfl, fun _ => rfl, fun _ _ => rfl, fun _ => rfl, rfl, fun _ => rfl, fun _ => rfl, fun _ _ => rfl, fun _ _ _ => rfl, fun _ _ => rfl, fun _ => rfl, fun _ _ => rfl⟩

set_option maxHeartbeats 4000000 in
theorem syn_jget {σ : Type} {M : PM σ} {P T G : Int} {emb : JgT → σ} (hE : JgIn M P T emb) (hp : 0 ≤ P ∧ P ≤ 64) (hT : 0 ≤ T ∧ T ≤ 65536)
    {w : World} {x : Nat} {A : Option Addr} {cap m : Nat} {g : Nat → Int} {s0 : σ} {j : Nat} {Q : σ → Prop} (hR : RunOn w x A cap m g (M.rj s0 g m j)) (hS : Syn M s0 g m j (emb .ld) Q) (hb : ∀ j, j < m → 0 ≤ g j ∧ g j ≤ 18446744073709551615) :
    Calls Tryz.prog 76 #[.pointer (some ⟨x, 0, none⟩), .agg #[.int .i64 P, .int .i64 T, .int .i64 G]] w fun e w' => ∃ r j' p, e = .returned (.int .i64 r) ∧ RunOn w' x A cap m g (M.rj s0 g m j') ∧ Syn M s0 g m j' (emb p) (JgQ Q emb r) ∧ p.live = false ∧ (j' ≤ m → r = p.obs) ∧ But [x] w w' ∧ j ≤ j' := by
  have hb0 : Below w.heap.size w (w.alloc (.cells #[.int .i64 P, .int .i64 T, .int .i64 G] 23)) := (Below.refl _ _).alloc (Nat.le_refl _) _
  have HX : Hid (Blk (w.alloc (.cells #[.int .i64 P, .int .i64 T, .int .i64 G] 23)) w.heap.size #[.int .i64 P, .int .i64 T, .int .i64 G] 23) := Blk.new _ _ _
  have hxw := hR.blk.lt
  have HB0 : Hid (But [x] w (w.alloc (.cells #[.int .i64 P, .int .i64 T, .int .i64 G] 23))) := But.of_below hb0
  have HE : Hid (JgIn M P T emb) := hE
  have HBD : Hid (∀ j, j < m → 0 ≤ g j ∧ g j ≤ 18446744073709551615) := hb
  have hPA := fun (y : Int) W => rthrAt_all P T G y 2 W hp hT.2 (by omega)
  have HT : Hid (0 ≤ T ∧ T ≤ 65536) := hT
  have hL := syn_load (hR.below hb0) hS hb 11 (fun _ => hE.ld)
  clear hR hS hE hb hb0 hp hT
  go_enter Tryz.func76, Tryz.ntmps76
  go_wp2_with fail
  generalize w.alloc (.cells #[.int .i64 P, .int .i64 T, .int .i64 G] 23) = W at *
  go_at_call 94; refine hL.mono ?_; rintro e y2 ⟨v, rfl, hK⟩
  have HR2 : Hid (RunOn y2 x A cap m g (M.rj s0 g m (j + 1))) := hK.run
  have HV2 : Hid (0 ≤ v ∧ v ≤ 18446744073709551615) := hK.bd
  have HS2 : Hid (Syn M s0 g m (j + 1) ((if v = 0 then emb .th else emb (.lk (gw v)))) (fun q => Q q ∨ ∃ p', p'.live = true ∧ q = emb p' ∧ p'.obs = -1)) := by
    have := hK.syn
    rw [HE.out.n1] at this
    exact this.weak (fun r hr => by rcases hr with rfl | hr; exact .inr ⟨.ld, rfl, rfl, rfl⟩; exact .inl hr)
  have HB2 : Hid (But [x] w y2) := HB0.out.trans hK.but
  have HX2 : Hid (Blk y2 w.heap.size #[.int .i64 P, .int .i64 T, .int .i64 G] 23) := HX.out.but hK.but (by simp; omega)
  clear hL hK HB0 HX
  by_cases h0 : v = 0
  · subst h0
    have HS2' : Hid (Syn M s0 g m (j + 1) (emb .th) (fun q => Q q ∨ ∃ p', p'.live = true ∧ q = emb p' ∧ p'.obs = -1)) := HS2.out.as (fun _ => if_pos rfl)
    have hL3 := syn_load HR2.out HS2'.out HBD.out 15 (fun _ => HE.out.th)
    have k1 := HX2.out.cell 1 (v := .int .i64 T) rfl
    clear hPA HS2 HR2 HV2
    go_wp2_with fail
    go_at_call 94; refine hL3.mono ?_; rintro e y3 ⟨v3, rfl, hK⟩
    have HR3 : Hid (RunOn y3 x A cap m g (M.rj s0 g m (j + 1 + 1))) := hK.run
    have HV3 : Hid (0 ≤ v3 ∧ v3 ≤ 18446744073709551615) := hK.bd
    have HS3 : Hid (Syn M s0 g m (j + 1 + 1) ((if T ≤ v3 then emb .none' else emb (.nw v3))) (fun q => Q q ∨ ∃ p', p'.live = true ∧ q = emb p' ∧ p'.obs = -1)) := by
      have := hK.syn
      rw [HE.out.n5] at this
      exact this.weak (fun r hr => by rcases hr with rfl | hr; exact .inr ⟨.th, rfl, rfl, rfl⟩; exact hr)
    have HB3 : Hid (But [x] w y3) := HB2.out.trans hK.but
    have HX3 : Hid (Blk y3 w.heap.size #[.int .i64 P, .int .i64 T, .int .i64 G] 23) := HX2.out.but hK.but (by simp; omega)
    clear hL3 hK HB2 HX2
    have k1 := HX3.out.cell 1 (v := .int .i64 T) rfl
    have hw1 : IntKind.u64.wrap T = T := wrap_u64 (by have := HT.out; omega)
    have hwv := HV3.out
    have hT0 := HT.out
    by_cases h1 : T ≤ v3
    · have d1 : decide (v3 < T) = false := decide_eq_false (by omega)
      clear hT0 hwv
      go_wp2_with fail
      go_ret
      refine ⟨-1, j + 1 + 1, .none', rfl, HR3.out, (HS3.out.as (t' := emb .none') (fun _ => if_pos h1)).weak ?_, rfl, fun _ => rfl, HB3.out, by omega⟩
      rintro q (hq | ⟨p', h1, h2, h3⟩)
      · exact .inl ⟨hq, rfl⟩
      · exact .inr ⟨p', h1, h2, h3.symm⟩
    · have d1 : v3 < T := by omega
      have HS3' : Hid (Syn M s0 g m (j + 1 + 1) (emb (.nw v3)) (fun q => Q q ∨ ∃ p', p'.live = true ∧ q = emb p' ∧ p'.obs = -1)) := HS3.out.as (fun _ => if_neg h1)
      have hw2 : IntKind.u64.wrap (v3 + 1) = v3 + 1 := wrap_u64 (by omega)
      have hw3 : IntKind.i64.wrap v3 = v3 := by simp [IntKind.wrap, IntKind.bits, IntKind.signed]; omega
      have hSt := syn_store HR3.out HS3'.out HBD.out 15 (v3 + 1) (fun _ => HE.out.nw v3)
      clear HS3 HR3 h1 HV3 hwv hT0
      have HS3 := HS3'
      clear HS3'
      go_wp2_with fail
      go_at_call 77; refine hSt.mono ?_; rintro e y4 ⟨⟨u4, rfl⟩, v4, hK⟩
      have HR4 : Hid (RunOn y4 x A cap m g (M.rj s0 g m (j + 1 + 1 + 1))) := hK.run
      have HSr : Hid _ := hK.syn
      have HB4 : Hid (But [x] w y4) := HB3.out.trans hK.but
      clear hSt hK HB3
      have sc := HR4.out.blk.cell 2 (v := .bool (M.rj s0 g m (j + 1 + 1 + 1)).stop) rfl
      rw [rj_stop HSr.out] at sc
      by_cases hst : m < j + 1 + 1 + 1
      · have HST : Hid (m < j + 1 + 1 + 1) := hst
        rw [decide_eq_true hst] at sc
        clear hst
        go_wp2_with fail
        go_ret
        refine ⟨-1, j + 1 + 1 + 1, .over v3, rfl, HR4.out, ⟨fun h => absurd h (by have := HST.out; omega), fun h => ⟨?_, (HSr.out.past HST.out).2⟩⟩, rfl, fun h => absurd h (by have := HST.out; omega), HB4.out, by omega⟩
        rcases (HSr.out.past HST.out).1 with hr | hq | ⟨p', h1, h2, h3⟩
        · exact .inr ⟨.nw v3, rfl, hr, rfl⟩
        · exact .inl ⟨hq, rfl⟩
        · exact .inr ⟨p', h1, h2, h3.symm⟩
      · have HST : Hid (j + 1 + 1 + 1 ≤ m) := (by omega : j + 1 + 1 + 1 ≤ m)
        rw [decide_eq_false hst] at sc
        clear hst
        go_wp2_with fail
        go_ret
        refine ⟨v3, j + 1 + 1 + 1, .over v3, rfl, HR4.out, ⟨fun h => ?_, fun h => absurd h (by have := HST.out; omega)⟩, rfl, fun _ => rfl, HB4.out, by omega⟩
        have := HSr.out.at' h
        rw [HE.out.n6] at this
        exact this
  · have hd0 : (v == 0) = false := by simpa using h0
    have hd1 : (v != 0) = true := by simpa using h0
    have e1 : wrap64 (IntKind.i64.wrap v - 1) = gw v := gw_eq v HV2.out
    have HS2' : Hid (Syn M s0 g m (j + 1) (emb (.lk (gw v))) (fun q => Q q ∨ ∃ p', p'.live = true ∧ q = emb p' ∧ p'.obs = -1)) := HS2.out.as (fun _ => if_neg h0)
    clear HS2
    have HS2 := HS2'
    clear HS2'
    generalize hyy : gw v = y at *
    generalize hvv : IntKind.i64.wrap v = v' at *
    have hPA2 := hPA y
    clear hPA hyy HV2
    have k0 := HX2.out.cell 0 (v := .int .i64 P) rfl
    have k1 := HX2.out.cell 1 (v := .int .i64 T) rfl
    have k2 := HX2.out.cell 2 (v := .int .i64 G) rfl
    have hPl := hPA2 y2
    have HAc : Hid (∀ Y, Below y2.heap.size y2 Y → _) := fun Y (hY : Below y2.heap.size y2 Y) => syn_load (HR2.out.below hY) HS2.out HBD.out (wd (20 + P * 264) T 3 y 2) (fun _ => HE.out.lk y)
    go_wp2_with fail
    go_at_call 82; refine hPl.mono ?_; rintro e y3 ⟨rfl, h5⟩
    have hA := HAc.out y3 h5
    have HB3 : Hid (But [x] w y3) := HB2.out.trans (But.of_below h5)
    have HX3 : Hid (Blk y3 w.heap.size #[.int .i64 P, .int .i64 T, .int .i64 G] 23) := HX2.out.but (But.of_below (l := []) h5) (by simp)
    clear hPl h5 k0 k1 k2 HX2 HB2 HAc HR2
    go_wp2_with fail
    clear hPA2
    go_at_call 94; refine hA.mono ?_; rintro e y4 ⟨l, rfl, hK⟩
    have HR4 : Hid (RunOn y4 x A cap m g (M.rj s0 g m (j + 1 + 1))) := hK.run
    have HV4 : Hid (0 ≤ l ∧ l ≤ 18446744073709551615) := hK.bd
    have HS4 : Hid (Syn M s0 g m (j + 1 + 1) (emb (.un y l)) (fun q => Q q ∨ ∃ p', p'.live = true ∧ q = emb p' ∧ p'.obs = -1)) := by
      have := hK.syn
      rw [HE.out.n2] at this
      exact this.weak (fun r hr => by rcases hr with rfl | hr; exact .inr ⟨.lk y, rfl, rfl, rfl⟩; exact hr)
    have HB4 : Hid (But [x] w y4) := HB3.out.trans hK.but
    have HX4 : Hid (Blk y4 w.heap.size #[.int .i64 P, .int .i64 T, .int .i64 G] 23) := HX3.out.but hK.but (by simp; omega)
    clear hA hK HB3 HX3
    have hSt := syn_store HR4.out HS4.out HBD.out 11 l (fun _ => HE.out.un y l)
    clear HX4 HR4
    go_wp2_with fail
    go_at_call 77; refine hSt.mono ?_; rintro e y5 ⟨⟨u5, rfl⟩, v5, hK⟩
    have HR5 : Hid (RunOn y5 x A cap m g (M.rj s0 g m (j + 1 + 1 + 1))) := hK.run
    have HS5 : Hid (Syn M s0 g m (j + 1 + 1 + 1) (emb (.ct y)) (fun q => Q q ∨ ∃ p', p'.live = true ∧ q = emb p' ∧ p'.obs = -1)) := by
      have := hK.syn
      rw [HE.out.n3] at this
      exact this.weak (fun r hr => by rcases hr with rfl | hr; exact .inr ⟨.un y l, rfl, rfl, rfl⟩; exact hr)
    have HB5 : Hid (But [x] w y5) := HB4.out.trans hK.but
    clear hSt hK HB4
    clear HS4
    have sc := HR5.out.blk.cell 2 (v := .bool (M.rj s0 g m (j + 1 + 1 + 1)).stop) rfl
    rw [rj_stop HS5.out] at sc
    by_cases hst : m < j + 1 + 1 + 1
    · have HST : Hid (m < j + 1 + 1 + 1) := hst
      have HPAST : Hid (JgQ Q emb (-1) (M.run s0 g m)) := by
        rcases (HS5.out.past hst).1 with hq | ⟨p', h1, h2, h3⟩
        · exact .inl ⟨hq, rfl⟩
        · exact .inr ⟨p', h1, h2, h3.symm⟩
      rw [decide_eq_true hst] at sc
      have hA7 := syn_add HR5.out HS5.out HBD.out 12 4294967295 (fun _ => HE.out.ct y)
      clear hst
      go_wp2_with fail
      go_at_call 78; refine hA7.mono ?_; rintro e y9 ⟨v9, rfl, hK⟩
      have HF : Hid (RunOn y9 x A cap m g (M.rj s0 g m (j + 1 + 1 + 1 + 1)) ∧ Syn M s0 g m (j + 1 + 1 + 1 + 1) (emb (.over y)) (JgQ Q emb (-1)) ∧ But [x] w y9) := by
        exact ⟨hK.run, ⟨fun h => absurd h (by have := HST.out; omega), fun h => ⟨HPAST.out, (HS5.out.past HST.out).2⟩⟩, HB5.out.trans hK.but⟩
      clear hA7 hK sc
      go_wp2_with fail
      go_ret
      exact ⟨-1, j + 1 + 1 + 1 + 1, .over y, rfl, HF.out.1, HF.out.2.1, rfl, fun h => absurd h (by have := HST.out; omega), HF.out.2.2, by omega⟩
    · have HST : Hid (j + 1 + 1 + 1 ≤ m) := (by omega : j + 1 + 1 + 1 ≤ m)
      rw [decide_eq_false hst] at sc
      have hA7 := syn_add HR5.out HS5.out HBD.out 12 4294967295 (fun _ => HE.out.ct y)
      clear hst
      go_wp2_with fail
      go_at_call 78; refine hA7.mono ?_; rintro e y9 ⟨v9, rfl, hK⟩
      have HF : Hid (RunOn y9 x A cap m g (M.rj s0 g m (j + 1 + 1 + 1 + 1)) ∧ Syn M s0 g m (j + 1 + 1 + 1 + 1) (emb (.over y)) (JgQ Q emb y) ∧ But [x] w y9) := by
        have := hK.syn
        rw [HE.out.n4] at this
        refine ⟨hK.run, ⟨this.at', fun h => ⟨?_, (this.past h).2⟩⟩, HB5.out.trans hK.but⟩
        have hm : m = j + 1 + 1 + 1 := by have := HST.out; omega
        have h2 := HS5.out.at' HST.out
        rw [← hm] at h2
        exact .inr ⟨.ct y, rfl, h2, rfl⟩
      clear hA7 hK sc
      go_wp2_with fail
      go_ret
      exact ⟨y, j + 1 + 1 + 1 + 1, .over y, rfl, HF.out.1, HF.out.2.1, rfl, fun _ => rfl, HF.out.2.2, by omega⟩

theorem rgjget_on (w : World) (x : Nat) (A : Option Addr) (cap m : Nat) (gf : Nat → Int) (P T G : Int) (t : JgT) (h : RunOn w x A cap m gf rn0) (hh : Hist (jgPM P T) JgT.ld gf m t) (hp : 0 ≤ P ∧ P ≤ 64) (hT : 0 ≤ T ∧ T ≤ 65536) :
    Calls Tryz.prog 76 #[.pointer (some ⟨x, 0, none⟩), .agg #[.int .i64 P, .int .i64 T, .int .i64 G]] w fun e w' => e = .returned (.int .i64 t.obs) ∧ RunOn w' x A cap m gf ((jgPM P T).rn t m) ∧ But [x] w w' := by
  rw [← rj_start (M := jgPM P T) (s0 := JgT.ld) (g := gf) (m := m)] at h
  refine (syn_jget (jg_in P T) hp hT h (Syn.start _ _ _ _) hh.bd).mono ?_
  rintro e w' ⟨r, j', p, rfl, h1, h2, h3, h4, h5, -⟩
  have hn : (jgPM P T).ax p = none := by cases p <;> first | rfl | cases h3
  have hr : r = t.obs := by
    rcases h2.fin hh (fun _ => hn) with ⟨e1, e2⟩ | ⟨-, (⟨hf, -⟩ | ⟨p', -, e1, e2⟩)⟩
    · rw [e1]; exact h4 (by omega)
    · exact hf.elim
    · rw [e1]; exact e2
  rw [hr]
  refine ⟨rfl, ?_, h5⟩
  rw [← rj_end h2 hh (fun _ => hn)]
  exact h1
end Go.Proofs.YthbgoakaijeemaaGreat

namespace Go.Proofs.YthbgoakaijeemaaGreat
open Go Go.RowKit
set_option linter.unusedVariables false
set_option maxRecDepth 100000
set_option linter.unusedSimpArgs false

structure IgIn {σ : Type} (M : PM σ) (P : Int) (emb : IgT → σ) : Prop where
  ld : M.ax (emb .ld) = some (axLd 9)
  lk : ∀ y, M.ax (emb (.lk y)) = some (axLd (wd 20 P 264 y 7))
  ms : ∀ y l, M.ax (emb (.ms y l)) = some (axLd 19)
  um : ∀ y l w, M.ax (emb (.um y l w)) = some (axSt 19 (mskOut w y))
  un : ∀ y l, M.ax (emb (.un y l)) = some (axSt 9 l)
  ct : ∀ y l, M.ax (emb (.ct y l)) = some (axAd 10 4294967295)
  n1 : ∀ v, M.nx (emb .ld) v = if v = 0 then emb .none' else emb (.lk (gw v))
  n2 : ∀ y v, M.nx (emb (.lk y)) v = emb (.ms y v)
  n3 : ∀ y l v, M.nx (emb (.ms y l)) v = emb (.um y l v)
  n4 : ∀ y l w v, M.nx (emb (.um y l w)) v = emb (.un y l)
  n5 : ∀ y l v, M.nx (emb (.un y l)) v = emb (.ct y l)
  n6 : ∀ y l v, M.nx (emb (.ct y l)) v = emb (.over y l)
def IgT.live : IgT → Bool
  | .none' => false
  | .over _ _ => false
  | _ => true
/-- Where a get stopped, and what it answered. -/
def IgQ {σ : Type} (Q : σ → Prop) (emb : IgT → σ) (r : Int) (q : σ) : Prop := (Q q ∧ r = -1) ∨ ∃ p', IgT.live p' = true ∧ q = emb p' ∧ r = p'.obs
theorem ig_in (P : Int) : IgIn (igPM P) P (fun t => t) := ⟨rfl, fun _ => rfl, fun _ _ => rfl, fun _ _ _ => rfl, fun _ _ => rfl, fun _ _ => rfl, fun _ => rfl, fun _ _ => rfl, fun _ _ _ => rfl, fun _ _ _ _ => rfl, fun _ _ _ => rfl, fun _ _ _ => rfl⟩

set_option maxHeartbeats 4000000 in
theorem syn_iget {σ : Type} {M : PM σ} {P T G : Int} {emb : IgT → σ} (hE : IgIn M P emb) (hp : 0 ≤ P ∧ P ≤ 64)
    {w : World} {x : Nat} {A : Option Addr} {cap m : Nat} {g : Nat → Int} {s0 : σ} {j : Nat} {Q : σ → Prop} (hR : RunOn w x A cap m g (M.rj s0 g m j)) (hS : Syn M s0 g m j (emb .ld) Q) (hb : ∀ j, j < m → 0 ≤ g j ∧ g j ≤ 18446744073709551615) :
    Calls Tryz.prog 97 #[.pointer (some ⟨x, 0, none⟩), .agg #[.int .i64 P, .int .i64 T, .int .i64 G]] w fun e w' => ∃ r j' p, e = .returned (.int .i64 r) ∧ RunOn w' x A cap m g (M.rj s0 g m j') ∧ Syn M s0 g m j' (emb p) (IgQ Q emb r) ∧ p.live = false ∧ (j' ≤ m → r = p.obs) ∧ But [x] w w' ∧ j ≤ j' := by
  have hb0 : Below w.heap.size w (w.alloc (.cells #[.int .i64 P, .int .i64 T, .int .i64 G] 23)) := (Below.refl _ _).alloc (Nat.le_refl _) _
  have HX : Hid (Blk (w.alloc (.cells #[.int .i64 P, .int .i64 T, .int .i64 G] 23)) w.heap.size #[.int .i64 P, .int .i64 T, .int .i64 G] 23) := Blk.new _ _ _
  have hxw := hR.blk.lt
  have HB0 : Hid (But [x] w (w.alloc (.cells #[.int .i64 P, .int .i64 T, .int .i64 G] 23))) := But.of_below hb0
  have HE : Hid (IgIn M P emb) := hE
  have HBD : Hid (∀ j, j < m → 0 ≤ g j ∧ g j ≤ 18446744073709551615) := hb
  have hPA := fun (y : Int) W => rprcAt_all P T G y 7 W hp.2 (by omega)
  have hL := syn_load (hR.below hb0) hS hb 9 (fun _ => hE.ld)
  clear hR hS hE hb hb0 hp
  go_enter Tryz.func97, Tryz.ntmps97
  go_wp2_with fail
  generalize w.alloc (.cells #[.int .i64 P, .int .i64 T, .int .i64 G] 23) = W at *
  go_at_call 94; refine hL.mono ?_; rintro e y2 ⟨v, rfl, hK⟩
  have HR2 : Hid (RunOn y2 x A cap m g (M.rj s0 g m (j + 1))) := hK.run
  have HV2 : Hid (0 ≤ v ∧ v ≤ 18446744073709551615) := hK.bd
  have HS2 : Hid (Syn M s0 g m (j + 1) ((if v = 0 then emb .none' else emb (.lk (gw v)))) (fun q => Q q ∨ ∃ p', p'.live = true ∧ q = emb p' ∧ p'.obs = -1)) := by
    have := hK.syn
    rw [HE.out.n1] at this
    exact this.weak (fun r hr => by rcases hr with rfl | hr; exact .inr ⟨.ld, rfl, rfl, rfl⟩; exact .inl hr)
  have HB2 : Hid (But [x] w y2) := HB0.out.trans hK.but
  have HX2 : Hid (Blk y2 w.heap.size #[.int .i64 P, .int .i64 T, .int .i64 G] 23) := HX.out.but hK.but (by simp; omega)
  clear hL hK HB0 HX
  by_cases h0 : v = 0
  · subst h0
    clear hPA
    go_wp2_with fail
    go_ret
    refine ⟨-1, j + 1, .none', rfl, HR2.out, (HS2.out.as (t' := emb .none') (fun _ => by simp)).weak ?_, rfl, fun _ => rfl, HB2.out, Nat.le_succ j⟩
    rintro q (hq | ⟨p', h1, h2, h3⟩)
    · exact .inl ⟨hq, rfl⟩
    · exact .inr ⟨p', h1, h2, h3.symm⟩
  · have hd0 : (v == 0) = false := by simpa using h0
    have e1 : wrap64 (IntKind.i64.wrap v - 1) = gw v := gw_eq v HV2.out
    have HS2' : Hid (Syn M s0 g m (j + 1) (emb (.lk (gw v))) (fun q => Q q ∨ ∃ p', p'.live = true ∧ q = emb p' ∧ p'.obs = -1)) := HS2.out.as (fun _ => if_neg h0)
    clear HS2
    have HS2 := HS2'
    clear HS2'
    generalize hyy : gw v = y at *
    generalize hvv : IntKind.i64.wrap v = v' at *
    have hPA2 := hPA y
    clear hPA hyy HV2
    have k0 := HX2.out.cell 0 (v := .int .i64 P) rfl
    have k1 := HX2.out.cell 1 (v := .int .i64 T) rfl
    have k2 := HX2.out.cell 2 (v := .int .i64 G) rfl
    have hPl := hPA2 y2
    have HAc : Hid (∀ Y, Below y2.heap.size y2 Y → _) := fun Y (hY : Below y2.heap.size y2 Y) => syn_load (HR2.out.below hY) HS2.out HBD.out (wd 20 P 264 y 7) (fun _ => HE.out.lk y)
    go_wp2_with fail
    go_at_call 79; refine hPl.mono ?_; rintro e y3 ⟨rfl, h5⟩
    have hA := HAc.out y3 h5
    have HB3 : Hid (But [x] w y3) := HB2.out.trans (But.of_below h5)
    have HX3 : Hid (Blk y3 w.heap.size #[.int .i64 P, .int .i64 T, .int .i64 G] 23) := HX2.out.but (But.of_below (l := []) h5) (by simp)
    clear hPl h5 k0 k1 k2 HX2 HB2 HAc HR2
    go_wp2_with fail
    clear hPA2
    go_at_call 94; refine hA.mono ?_; rintro e y4 ⟨l, rfl, hK⟩
    have HR4 : Hid (RunOn y4 x A cap m g (M.rj s0 g m (j + 1 + 1))) := hK.run
    have HV4 : Hid (0 ≤ l ∧ l ≤ 18446744073709551615) := hK.bd
    have HS4 : Hid (Syn M s0 g m (j + 1 + 1) (emb (.ms y l)) (fun q => Q q ∨ ∃ p', p'.live = true ∧ q = emb p' ∧ p'.obs = -1)) := by
      have := hK.syn
      rw [HE.out.n2] at this
      exact this.weak (fun r hr => by rcases hr with rfl | hr; exact .inr ⟨.lk y, rfl, rfl, rfl⟩; exact hr)
    have HB4 : Hid (But [x] w y4) := HB3.out.trans hK.but
    have HX4 : Hid (Blk y4 w.heap.size #[.int .i64 P, .int .i64 T, .int .i64 G] 23) := HX3.out.but hK.but (by simp; omega)
    clear hA hK HB3 HX3
    have hL4 := syn_load HR4.out HS4.out HBD.out 19 (fun _ => HE.out.ms y l)
    clear HX4 HR4
    go_wp2_with fail
    go_at_call 94; refine hL4.mono ?_; rintro e y5 ⟨v2, rfl, hK⟩
    have HR5 : Hid (RunOn y5 x A cap m g (M.rj s0 g m (j + 1 + 1 + 1))) := hK.run
    have HV5 : Hid (0 ≤ v2 ∧ v2 ≤ 18446744073709551615) := hK.bd
    have HS5 : Hid (Syn M s0 g m (j + 1 + 1 + 1) (emb (.um y l v2)) (fun q => Q q ∨ ∃ p', p'.live = true ∧ q = emb p' ∧ p'.obs = -1)) := by
      have := hK.syn
      rw [HE.out.n3] at this
      exact this.weak (fun r hr => by rcases hr with rfl | hr; exact .inr ⟨.ms y l, rfl, rfl, rfl⟩; exact hr)
    have HB5 : Hid (But [x] w y5) := HB4.out.trans hK.but
    clear hL4 hK HB4
    clear HS4
    have hMk := rmasked_any v2 y y5 HV5.out
    have hBt := rbit_any y y5
    have han := an_bit v2 y HV5.out
    have HSt := syn_store HR5.out HS5.out HBD.out 19 (mskOut v2 y) (fun _ => HE.out.um y l v2)
    clear HR5 HV5
    cases hmb : mskB v2 y
    · rw [hmb] at hMk
      have hmv : mskOut v2 y = v2 := by unfold mskOut; rw [hmb]; rfl
      rw [hmv] at HSt
      clear hmb han hmv hBt
      go_wp2_with fail
      go_at_call 136; refine hMk.mono ?_; rintro e w1 ⟨rfl, rfl⟩
      clear hMk
      go_wp2_with fail
      go_at_call 77; refine HSt.mono ?_; rintro e y6 ⟨⟨u6, rfl⟩, v6, hK⟩
      have HR6 : Hid (RunOn y6 x A cap m g (M.rj s0 g m (j + 1 + 1 + 1 + 1))) := hK.run
      have HS6 : Hid (Syn M s0 g m (j + 1 + 1 + 1 + 1) (emb (.un y l)) (fun q => Q q ∨ ∃ p', p'.live = true ∧ q = emb p' ∧ p'.obs = -1)) := by
        have := hK.syn
        rw [HE.out.n4] at this
        exact this.weak (fun r hr => by rcases hr with rfl | hr; exact .inr ⟨.um y l v2, rfl, rfl, rfl⟩; exact hr)
      have HB6 : Hid (But [x] w y6) := HB5.out.trans hK.but
      clear HSt hK HB5
      have hSt2 := syn_store HR6.out HS6.out HBD.out 9 l (fun _ => HE.out.un y l)
      clear HR6 HS5
      go_wp2_with fail
      go_at_call 77; refine hSt2.mono ?_; rintro e y7 ⟨⟨u7, rfl⟩, v7, hK⟩
      have HR7 : Hid (RunOn y7 x A cap m g (M.rj s0 g m (j + 1 + 1 + 1 + 1 + 1))) := hK.run
      have HS7 : Hid (Syn M s0 g m (j + 1 + 1 + 1 + 1 + 1) (emb (.ct y l)) (fun q => Q q ∨ ∃ p', p'.live = true ∧ q = emb p' ∧ p'.obs = -1)) := by
        have := hK.syn
        rw [HE.out.n5] at this
        exact this.weak (fun r hr => by rcases hr with rfl | hr; exact .inr ⟨.un y l, rfl, rfl, rfl⟩; exact hr)
      have HB7 : Hid (But [x] w y7) := HB6.out.trans hK.but
      clear hSt2 hK HB6
      clear HS6
      have sc := HR7.out.blk.cell 2 (v := .bool (M.rj s0 g m (j + 1 + 1 + 1 + 1 + 1)).stop) rfl
      rw [rj_stop HS7.out] at sc
      by_cases hst : m < j + 1 + 1 + 1 + 1 + 1
      · have HST : Hid (m < j + 1 + 1 + 1 + 1 + 1) := hst
        have HPAST : Hid (IgQ Q emb (-1) (M.run s0 g m)) := by
          rcases (HS7.out.past hst).1 with hq | ⟨p', h1, h2, h3⟩
          · exact .inl ⟨hq, rfl⟩
          · exact .inr ⟨p', h1, h2, h3.symm⟩
        rw [decide_eq_true hst] at sc
        have hA7 := syn_add HR7.out HS7.out HBD.out 10 4294967295 (fun _ => HE.out.ct y l)
        clear hst
        go_wp2_with fail
        go_at_call 78; refine hA7.mono ?_; rintro e y9 ⟨v9, rfl, hK⟩
        have HF : Hid (RunOn y9 x A cap m g (M.rj s0 g m (j + 1 + 1 + 1 + 1 + 1 + 1)) ∧ Syn M s0 g m (j + 1 + 1 + 1 + 1 + 1 + 1) (emb (.over y l)) (IgQ Q emb (-1)) ∧ But [x] w y9) := by
          exact ⟨hK.run, ⟨fun h => absurd h (by have := HST.out; omega), fun h => ⟨HPAST.out, (HS7.out.past HST.out).2⟩⟩, HB7.out.trans hK.but⟩
        clear hA7 hK sc
        go_wp2_with fail
        go_ret
        exact ⟨-1, j + 1 + 1 + 1 + 1 + 1 + 1, .over y l, rfl, HF.out.1, HF.out.2.1, rfl, fun h => absurd h (by have := HST.out; omega), HF.out.2.2, by omega⟩
      · have HST : Hid (j + 1 + 1 + 1 + 1 + 1 ≤ m) := (by omega : j + 1 + 1 + 1 + 1 + 1 ≤ m)
        rw [decide_eq_false hst] at sc
        have hA7 := syn_add HR7.out HS7.out HBD.out 10 4294967295 (fun _ => HE.out.ct y l)
        clear hst
        go_wp2_with fail
        go_at_call 78; refine hA7.mono ?_; rintro e y9 ⟨v9, rfl, hK⟩
        have HF : Hid (RunOn y9 x A cap m g (M.rj s0 g m (j + 1 + 1 + 1 + 1 + 1 + 1)) ∧ Syn M s0 g m (j + 1 + 1 + 1 + 1 + 1 + 1) (emb (.over y l)) (IgQ Q emb y) ∧ But [x] w y9) := by
          have := hK.syn
          rw [HE.out.n6] at this
          refine ⟨hK.run, ⟨this.at', fun h => ⟨?_, (this.past h).2⟩⟩, HB7.out.trans hK.but⟩
          have hm : m = j + 1 + 1 + 1 + 1 + 1 := by have := HST.out; omega
          have h2 := HS7.out.at' HST.out
          rw [← hm] at h2
          exact .inr ⟨.ct y l, rfl, h2, rfl⟩
        clear hA7 hK sc
        go_wp2_with fail
        go_ret
        exact ⟨y, j + 1 + 1 + 1 + 1 + 1 + 1, .over y l, rfl, HF.out.1, HF.out.2.1, rfl, fun _ => rfl, HF.out.2.2, by omega⟩
    · rw [hmb] at hMk
      have hmv : mskOut v2 y = v2 - bitOf y := by unfold mskOut; rw [hmb]; rfl
      have hwv : IntKind.u64.wrap (v2 - bitOf y) = mskOut v2 y := by rw [← hmv]; exact wrap_u64 (by omega)
      clear hmb han hmv
      generalize mskOut v2 y = mv at *
      generalize bitOf y = bp at *
      go_wp2_with fail
      go_at_call 136; refine hMk.mono ?_; rintro e w1 ⟨rfl, rfl⟩
      go_wp2_with fail
      go_at_call 137; refine hBt.mono ?_; rintro e w1 ⟨rfl, rfl⟩
      clear hMk hBt
      go_wp2_with fail
      go_at_call 77; refine HSt.mono ?_; rintro e y6 ⟨⟨u6, rfl⟩, v6, hK⟩
      have HR6 : Hid (RunOn y6 x A cap m g (M.rj s0 g m (j + 1 + 1 + 1 + 1))) := hK.run
      have HS6 : Hid (Syn M s0 g m (j + 1 + 1 + 1 + 1) (emb (.un y l)) (fun q => Q q ∨ ∃ p', p'.live = true ∧ q = emb p' ∧ p'.obs = -1)) := by
        have := hK.syn
        rw [HE.out.n4] at this
        exact this.weak (fun r hr => by rcases hr with rfl | hr; exact .inr ⟨.um y l v2, rfl, rfl, rfl⟩; exact hr)
      have HB6 : Hid (But [x] w y6) := HB5.out.trans hK.but
      clear HSt hK HB5
      have hSt2 := syn_store HR6.out HS6.out HBD.out 9 l (fun _ => HE.out.un y l)
      clear HR6 HS5
      go_wp2_with fail
      go_at_call 77; refine hSt2.mono ?_; rintro e y7 ⟨⟨u7, rfl⟩, v7, hK⟩
      have HR7 : Hid (RunOn y7 x A cap m g (M.rj s0 g m (j + 1 + 1 + 1 + 1 + 1))) := hK.run
      have HS7 : Hid (Syn M s0 g m (j + 1 + 1 + 1 + 1 + 1) (emb (.ct y l)) (fun q => Q q ∨ ∃ p', p'.live = true ∧ q = emb p' ∧ p'.obs = -1)) := by
        have := hK.syn
        rw [HE.out.n5] at this
        exact this.weak (fun r hr => by rcases hr with rfl | hr; exact .inr ⟨.un y l, rfl, rfl, rfl⟩; exact hr)
      have HB7 : Hid (But [x] w y7) := HB6.out.trans hK.but
      clear hSt2 hK HB6
      clear HS6
      have sc := HR7.out.blk.cell 2 (v := .bool (M.rj s0 g m (j + 1 + 1 + 1 + 1 + 1)).stop) rfl
      rw [rj_stop HS7.out] at sc
      by_cases hst : m < j + 1 + 1 + 1 + 1 + 1
      · have HST : Hid (m < j + 1 + 1 + 1 + 1 + 1) := hst
        have HPAST : Hid (IgQ Q emb (-1) (M.run s0 g m)) := by
          rcases (HS7.out.past hst).1 with hq | ⟨p', h1, h2, h3⟩
          · exact .inl ⟨hq, rfl⟩
          · exact .inr ⟨p', h1, h2, h3.symm⟩
        rw [decide_eq_true hst] at sc
        have hA7 := syn_add HR7.out HS7.out HBD.out 10 4294967295 (fun _ => HE.out.ct y l)
        clear hst
        go_wp2_with fail
        go_at_call 78; refine hA7.mono ?_; rintro e y9 ⟨v9, rfl, hK⟩
        have HF : Hid (RunOn y9 x A cap m g (M.rj s0 g m (j + 1 + 1 + 1 + 1 + 1 + 1)) ∧ Syn M s0 g m (j + 1 + 1 + 1 + 1 + 1 + 1) (emb (.over y l)) (IgQ Q emb (-1)) ∧ But [x] w y9) := by
          exact ⟨hK.run, ⟨fun h => absurd h (by have := HST.out; omega), fun h => ⟨HPAST.out, (HS7.out.past HST.out).2⟩⟩, HB7.out.trans hK.but⟩
        clear hA7 hK sc
        go_wp2_with fail
        go_ret
        exact ⟨-1, j + 1 + 1 + 1 + 1 + 1 + 1, .over y l, rfl, HF.out.1, HF.out.2.1, rfl, fun h => absurd h (by have := HST.out; omega), HF.out.2.2, by omega⟩
      · have HST : Hid (j + 1 + 1 + 1 + 1 + 1 ≤ m) := (by omega : j + 1 + 1 + 1 + 1 + 1 ≤ m)
        rw [decide_eq_false hst] at sc
        have hA7 := syn_add HR7.out HS7.out HBD.out 10 4294967295 (fun _ => HE.out.ct y l)
        clear hst
        go_wp2_with fail
        go_at_call 78; refine hA7.mono ?_; rintro e y9 ⟨v9, rfl, hK⟩
        have HF : Hid (RunOn y9 x A cap m g (M.rj s0 g m (j + 1 + 1 + 1 + 1 + 1 + 1)) ∧ Syn M s0 g m (j + 1 + 1 + 1 + 1 + 1 + 1) (emb (.over y l)) (IgQ Q emb y) ∧ But [x] w y9) := by
          have := hK.syn
          rw [HE.out.n6] at this
          refine ⟨hK.run, ⟨this.at', fun h => ⟨?_, (this.past h).2⟩⟩, HB7.out.trans hK.but⟩
          have hm : m = j + 1 + 1 + 1 + 1 + 1 := by have := HST.out; omega
          have h2 := HS7.out.at' HST.out
          rw [← hm] at h2
          exact .inr ⟨.ct y l, rfl, h2, rfl⟩
        clear hA7 hK sc
        go_wp2_with fail
        go_ret
        exact ⟨y, j + 1 + 1 + 1 + 1 + 1 + 1, .over y l, rfl, HF.out.1, HF.out.2.1, rfl, fun _ => rfl, HF.out.2.2, by omega⟩

theorem rgiget_on (w : World) (x : Nat) (A : Option Addr) (cap m : Nat) (gf : Nat → Int) (P T G : Int) (t : IgT) (h : RunOn w x A cap m gf rn0) (hh : Hist (igPM P) IgT.ld gf m t) (hp : 0 ≤ P ∧ P ≤ 64) :
    Calls Tryz.prog 97 #[.pointer (some ⟨x, 0, none⟩), .agg #[.int .i64 P, .int .i64 T, .int .i64 G]] w fun e w' => e = .returned (.int .i64 t.obs) ∧ RunOn w' x A cap m gf ((igPM P).rn t m) ∧ But [x] w w' := by
  rw [← rj_start (M := igPM P) (s0 := IgT.ld) (g := gf) (m := m)] at h
  refine (syn_iget (ig_in P) hp h (Syn.start _ _ _ _) hh.bd).mono ?_
  rintro e w' ⟨r, j', p, rfl, h1, h2, h3, h4, h5, -⟩
  have hn : (igPM P).ax p = none := by cases p <;> first | rfl | cases h3
  have hr : r = t.obs := by
    rcases h2.fin hh (fun _ => hn) with ⟨e1, e2⟩ | ⟨-, (⟨hf, -⟩ | ⟨p', -, e1, e2⟩)⟩
    · rw [e1]; exact h4 (by omega)
    · exact hf.elim
    · rw [e1]; exact e2
  rw [hr]
  refine ⟨rfl, ?_, h5⟩
  rw [← rj_end h2 hh (fun _ => hn)]
  exact h1
end Go.Proofs.YthbgoakaijeemaaGreat

namespace Go.Proofs.YthbgoakaijeemaaGreat
open Go Go.RowKit
set_option linter.unusedVariables false
set_option maxRecDepth 100000
set_option linter.unusedSimpArgs false

theorem rws_word (w : World) (p : Int) (sp : Bool) : Calls Tryz.prog 32 #[.int .i64 p, .bool sp] w fun e w' => e = .returned (.int .u64 (wkWord p sp)) ∧ w = w' := by
  cases sp with
  | false =>
    have hlw : IntKind.u64.wrap (IntKind.u64.wrap p + 1) = wkWord p false := rfl
    generalize wkWord p false = v at *
    go_enter Tryz.func32, Tryz.ntmps32
    go_wp2_with fail
    go_ret
    exact ⟨rfl, rfl⟩
  | true =>
    have hlw : IntKind.u64.wrap (IntKind.u64.wrap (4294967296 + IntKind.u64.wrap p) + 1) = wkWord p true := by
      show _ = IntKind.u64.wrap (IntKind.u64.wrap (IntKind.u64.wrap p + 1) + 4294967296)
      simp only [IntKind.wrap, IntKind.bits, IntKind.signed]
      simp
      omega
    generalize wkWord p true = v at *
    go_enter Tryz.func32, Tryz.ntmps32
    go_wp2_with fail
    go_ret
    exact ⟨rfl, rfl⟩
/-- A machine that starts a thread within it. -/
structure WsIn {σ : Type} (M : PM σ) (P T p : Int) (sp lf : Bool) (emb : WsT → σ) : Prop where
  ax : ∀ t a, (wsPM P T p sp lf).ax t = some a → M.ax (emb t) = some a
  nx : ∀ t a v, (wsPM P T p sp lf).ax t = some a → M.nx (emb t) v = emb ((wsPM P T p sp lf).nx t v)
theorem ws_in (P T p : Int) (sp lf : Bool) : WsIn (wsPM P T p sp lf) P T p sp lf (fun t => t) := ⟨fun _ _ h => h, fun _ _ _ _ => rfl⟩
/-- Where it stopped, and what it answered. -/
def WsQ {σ : Type} (Q : σ → Prop) (emb : WsT → σ) (P T p : Int) (sp lf : Bool) (p' t' : Int) (q : σ) : Prop := (Q q ∧ p' = p ∧ t' = -1) ∨ ∃ s a, (wsPM P T p sp lf).ax s = some a ∧ q = emb s ∧ p' = s.holds p ∧ t' = s.q.obs
section
variable {σ : Type} {M : PM σ} {P T p : Int} {sp lf : Bool} {emb : WsT → σ}
theorem jg_live_ax {q : JgT} : ((jgPM P T).ax q).isSome = q.live := by cases q <;> rfl
def wsJ (emb : WsT → σ) (q : JgT) : σ := if q.live = true then emb (.get q) else if q.obs = -1 then emb (.need q) else emb (.rel1 q .fresh)
theorem ws_jgIn (hE : WsIn M P T p sp lf emb) : JgIn M P T (wsJ emb) := by
  have key : ∀ q a v, (jgPM P T).ax q = some a → M.nx (wsJ emb q) v = wsJ emb ((jgPM P T).nx q v) := fun q a v h => by
    have hl : q.live = true := by rw [← jg_live_ax (P := P) (T := T), h]; rfl
    have e1 : wsJ emb q = emb (.get q) := if_pos hl
    rw [e1, hE.nx (.get q) a v h]
    show emb (if ((jgPM P T).ax ((jgPM P T).nx q v)).isSome = true then .get ((jgPM P T).nx q v) else if ((jgPM P T).nx q v).obs = -1 then .need ((jgPM P T).nx q v) else .rel1 ((jgPM P T).nx q v) .fresh) = wsJ emb ((jgPM P T).nx q v)
    unfold wsJ
    rw [jg_live_ax]
    split
    · rfl
    · split <;> rfl
  exact ⟨hE.ax (.get .ld) _ rfl, fun y => hE.ax (.get (.lk y)) _ rfl, fun y l => hE.ax (.get (.un y l)) _ rfl, fun y => hE.ax (.get (.ct y)) _ rfl, hE.ax (.get .th) _ rfl, fun y => hE.ax (.get (.nw y)) _ rfl,
    fun v => (key .ld _ v rfl).trans (by show wsJ emb (if v = 0 then .th else .lk (gw v)) = _; split <;> rfl), fun y v => key (.lk y) _ v rfl, fun y l v => key (.un y l) _ v rfl, fun y v => key (.ct y) _ v rfl,
    fun v => (key .th _ v rfl).trans (by show wsJ emb (if T ≤ v then .none' else .nw v) = _; split <;> rfl), fun y v => key (.nw y) _ v rfl⟩
def wsI (emb : WsT → σ) (q : JgT) : IpT → σ
  | .over => emb (.rel2 q (some .over) .fresh)
  | b => emb (.back q b)
theorem ws_ipIn (hE : WsIn M P T p sp lf emb) (q : JgT) : IpIn M P p (wsI emb q) :=
  ⟨hE.ax (.back q .m0) _ rfl, fun w => hE.ax (.back q (.ms w)) _ rfl, hE.ax (.back q .h0) _ rfl, fun h => hE.ax (.back q (.ln h)) _ rfl, hE.ax (.back q .st) _ rfl, hE.ax (.back q .ct) _ rfl,
   fun v => hE.nx (.back q .m0) _ v rfl, fun w v => hE.nx (.back q (.ms w)) _ v rfl, fun v => hE.nx (.back q .h0) _ v rfl, fun h v => hE.nx (.back q (.ln h)) _ v rfl, fun v => hE.nx (.back q .st) _ v rfl, fun v => hE.nx (.back q .ct) _ v rfl⟩
def wsR1 (emb : WsT → σ) (q : JgT) : RelT → σ
  | .over => emb (.give q)
  | r => emb (.rel1 q r)
theorem ws_relIn1 (hE : WsIn M P T p sp lf emb) (q : JgT) : RelIn M 0 (wsR1 emb q) :=
  ⟨hE.ax (.rel1 q .fresh) _ rfl, hE.ax (.rel1 q .pass) _ rfl, fun v => hE.nx (.rel1 q .fresh) _ v rfl, fun v => hE.nx (.rel1 q .pass) _ v rfl⟩
def wsR2 (emb : WsT → σ) (q : JgT) (b : Option IpT) (r : RelT) : σ := emb (.rel2 q b r)
theorem ws_relIn2 (hE : WsIn M P T p sp lf emb) (q : JgT) (b : Option IpT) : RelIn M 0 (wsR2 emb q b) :=
  ⟨hE.ax (.rel2 q b .fresh) _ rfl, hE.ax (.rel2 q b .pass) _ rfl, fun v => hE.nx (.rel2 q b .fresh) _ v rfl, fun v => hE.nx (.rel2 q b .pass) _ v rfl⟩
end
/-- The document's wake of a note. -/
theorem syn_nwake {σ : Type} {M : PM σ} {P T G t : Int} {a b : σ} (hax : M.ax a = some (axSt (wd (20 + P * 264) T 3 t 0) 1)) (hnx : ∀ v, M.nx a v = b) (hp : 0 ≤ P ∧ P ≤ 64) (hT : 0 ≤ T ∧ T ≤ 65536)
    {w : World} {x : Nat} {A : Option Addr} {cap m : Nat} {g : Nat → Int} {s0 : σ} {j : Nat} {Q : σ → Prop} (hR : RunOn w x A cap m g (M.rj s0 g m j)) (hS : Syn M s0 g m j a Q) (hb : ∀ j, j < m → 0 ≤ g j ∧ g j ≤ 18446744073709551615) :
    Calls Tryz.prog 83 #[.pointer (some ⟨x, 0, none⟩), .agg #[.int .i64 P, .int .i64 T, .int .i64 G], .int .i64 t] w fun e w' => (∃ u, e = .returned u) ∧ RunOn w' x A cap m g (M.rj s0 g m (j + 1)) ∧ Syn M s0 g m (j + 1) b (fun q => Q q ∨ q = a) ∧ But [x] w w' := by
  have hb0 : Below w.heap.size w (w.alloc (.cells #[.int .i64 P, .int .i64 T, .int .i64 G] 23)) := (Below.refl _ _).alloc (Nat.le_refl _) _
  have HX : Blk (w.alloc (.cells #[.int .i64 P, .int .i64 T, .int .i64 G] 23)) w.heap.size #[.int .i64 P, .int .i64 T, .int .i64 G] 23 := Blk.new _ _ _
  have k0 := HX.cell 0 (v := .int .i64 P) rfl
  have k1 := HX.cell 1 (v := .int .i64 T) rfl
  have k2 := HX.cell 2 (v := .int .i64 G) rfl
  have HR : Hid (RunOn w x A cap m g (M.rj s0 g m j)) := hR
  have HB0 : Hid (Below w.heap.size w (w.alloc (.cells #[.int .i64 P, .int .i64 T, .int .i64 G] 23))) := hb0
  have HS : Hid (∀ Y, Below w.heap.size w Y → Calls Tryz.prog 77 #[.pointer (some ⟨x, 0, none⟩), .int .i64 (wd (20 + P * 264) T 3 t 0), .int .u64 1] Y fun e w' => (∃ u, e = .returned u) ∧ ∃ v, Kept' Y w' x A cap m g M s0 j a Q v) := fun Y hY => syn_store (hR.below hY) hS hb _ 1 (fun _ => hax)
  have HN : Hid (∀ v, M.nx a v = b) := hnx
  have hTh := rthrAt_all P T G t 0 (w.alloc (.cells #[.int .i64 P, .int .i64 T, .int .i64 G] 23)) hp hT.2 (by omega)
  generalize wd (20 + P * 264) T 3 t 0 = nt at *
  clear hR hS hb hax hnx hb0 HX hp hT
  go_enter Tryz.func83, Tryz.ntmps83
  go_wp2_with fail
  generalize w.alloc (.cells #[.int .i64 P, .int .i64 T, .int .i64 G] 23) = W at *
  go_at_call 82; refine hTh.mono ?_; rintro e y ⟨rfl, h1⟩
  have hY : Below w.heap.size w y := HB0.out.trans (h1.mono HB0.out.size)
  have hSt := HS.out y hY
  have HY : Hid (But [x] w y) := But.of_below hY
  clear hTh h1 HS hY k0 k1 k2 HB0
  go_wp2_with fail
  go_at_call 77; refine hSt.mono ?_; rintro e y2 ⟨⟨u, rfl⟩, v, hK⟩
  have HF : Hid (RunOn y2 x A cap m g (M.rj s0 g m (j + 1)) ∧ Syn M s0 g m (j + 1) b (fun q => Q q ∨ q = a) ∧ But [x] w y2) := by
    have h2 := hK.syn
    rw [HN.out] at h2
    exact ⟨hK.run, h2.weak (fun r hr => hr.symm), HY.out.trans hK.but⟩
  clear hSt hK
  go_wp2_with fail
  go_end0
  exact ⟨⟨_, rfl⟩, HF.out⟩
end Go.Proofs.YthbgoakaijeemaaGreat

namespace Go.Proofs.YthbgoakaijeemaaGreat
open Go Go.RowKit
set_option linter.unusedVariables false
set_option maxRecDepth 100000
set_option linter.unusedSimpArgs false

/-- What the document's Start answers. -/
def WsGot {σ : Type} (M : PM σ) (emb : WsT → σ) (P T p : Int) (sp lf : Bool) (w : World) (x : Nat) (A : Option Addr) (cap m : Nat) (g : Nat → Int) (s0 : σ) (Q : σ → Prop) (j : Nat) (e : Ending) (w' : World) : Prop :=
  ∃ p' t' j' s, e = .returned (.agg #[.int .i64 p', .int .i64 t', .bool false]) ∧ RunOn w' x A cap m g (M.rj s0 g m j') ∧ Syn M s0 g m j' (emb s) (WsQ Q emb P T p sp lf p' t') ∧ (wsPM P T p sp lf).ax s = none ∧ (j' ≤ m → p' = s.holds p ∧ t' = s.q.obs) ∧ But [x] w w' ∧ j ≤ j'
set_option maxHeartbeats 4000000 in
theorem syn_wstart {σ : Type} {M : PM σ} {P T G p : Int} {sp lf : Bool} {emb : WsT → σ} (hE : WsIn M P T p sp lf emb) (hp : 0 ≤ P ∧ P ≤ 64) (hT : 0 ≤ T ∧ T ≤ 65536)
    {w : World} {x : Nat} {A : Option Addr} {cap m : Nat} {g : Nat → Int} {s0 : σ} {j : Nat} {Q : σ → Prop} (hR : RunOn w x A cap m g (M.rj s0 g m j)) (hS : Syn M s0 g m j (emb (.get .ld)) Q) (hb : ∀ j, j < m → 0 ≤ g j ∧ g j ≤ 18446744073709551615) :
    Calls Tryz.prog 15 #[.pointer (some ⟨x, 0, none⟩), .agg #[.int .i64 P, .int .i64 T, .int .i64 G], .int .i64 p, .bool sp, .bool lf] w fun e w' => WsGot M emb P T p sp lf w x A cap m g s0 Q j e w' := by
  have hb2 : Below w.heap.size w ((w.alloc (.cells #[.int .i64 P, .int .i64 T, .int .i64 G] 23)).alloc (.cells #[.int .i64 0, .int .i64 0, .bool false] 50)) := ((Below.refl _ _).alloc (Nat.le_refl _) _).alloc (by rw [World.size_alloc]; omega) _
  have hB1 := Blk.new w #[.int .i64 P, .int .i64 T, .int .i64 G] 23
  have HX : Hid (Blk ((w.alloc (.cells #[.int .i64 P, .int .i64 T, .int .i64 G] 23)).alloc (.cells #[.int .i64 0, .int .i64 0, .bool false] 50)) w.heap.size #[.int .i64 P, .int .i64 T, .int .i64 G] 23) := hB1.but (l := []) (But.of_below ((Below.refl _ _).alloc (Nat.le_refl _) _)) (by simp)
  have HY : Hid (Blk ((w.alloc (.cells #[.int .i64 P, .int .i64 T, .int .i64 G] 23)).alloc (.cells #[.int .i64 0, .int .i64 0, .bool false] 50)) (w.heap.size + 1) #[.int .i64 0, .int .i64 0, .bool false] 50) := by
    have := Blk.new (w.alloc (.cells #[.int .i64 P, .int .i64 T, .int .i64 G] 23)) #[.int .i64 0, .int .i64 0, .bool false] 50
    rw [World.size_alloc] at this
    exact this
  have hxw := hR.blk.lt
  have HB0 : Hid (But [x] w ((w.alloc (.cells #[.int .i64 P, .int .i64 T, .int .i64 G] 23)).alloc (.cells #[.int .i64 0, .int .i64 0, .bool false] 50))) := But.of_below hb2
  have hG := syn_jget (G := G) (ws_jgIn hE) hp hT (hR.below hb2) hS hb
  have HE : Hid (WsIn M P T p sp lf emb) := hE
  have HBD : Hid (∀ j, j < m → 0 ≤ g j ∧ g j ≤ 18446744073709551615) := hb
  have HP : Hid ((0 ≤ P ∧ P ≤ 64) ∧ (0 ≤ T ∧ T ≤ 65536)) := ⟨hp, hT⟩
  have HGF : Hid (GotFar A [w.heap.size + 1]) := (fun b e hm => by
    simp at hm
    rcases hR.got.form with ⟨e0, _⟩ | ⟨gb, e0, hl⟩
    · rw [e0] at e; cases e
    · rw [e0] at e; cases e; omega)
  clear hR hS hb hp hT hb2 hB1 hE
  go_enter Tryz.func15, Tryz.ntmps15
  go_wp2_with fail
  generalize (w.alloc (.cells #[.int .i64 P, .int .i64 T, .int .i64 G] 23)).alloc (.cells #[.int .i64 0, .int .i64 0, .bool false] 50) = W at *
  go_at_call 76; refine hG.mono ?_; rintro e y1 ⟨r, j1, q, rfl, hR1, hS1, hq, hr, hB1, hj1⟩
  have hy1 : w.heap.size + 1 < y1.heap.size := Nat.lt_of_lt_of_le HY.out.lt hB1.size
  have HH : Hid (HdAt w (y1.alloc (.cells #[.int .i64 p, .int .i64 r, .bool false] 50)) x A cap m g M s0 j j1 (wsJ emb q) (JgQ Q (wsJ emb) r) #[.int .i64 P, .int .i64 T, .int .i64 G] 50 #[.int .i64 0, .int .i64 0, .bool false] y1.heap.size #[.int .i64 p, .int .i64 r, .bool false]) := by
    have hal : Below y1.heap.size y1 (y1.alloc (.cells #[.int .i64 p, .int .i64 r, .bool false] 50)) := (Below.refl _ _).alloc (Nat.le_refl _) _
    refine ⟨hR1.below hal, hS1, (HB0.out.trans hB1).trans (But.of_below hal), (HX.out.but hB1 (by simp; omega)).but (But.of_below (l := []) hal) (by simp), (HY.out.but hB1 (by simp; omega)).but (But.of_below (l := []) hal) (by simp), Blk.new _ _ _, hy1, hxw, fun b e hm => ?_, hj1⟩
    simp at hm
    rcases hR1.got.form with ⟨e0, _⟩ | ⟨gb, e0, hl⟩
    · rw [e0] at e; cases e
    · rw [e0] at e
      cases e
      rcases hm with hm | hm
      · exact HGF.out _ e0 (by simp [hm])
      · omega
  have HY1 : Hid (Blk y1 (w.heap.size + 1) #[.int .i64 0, .int .i64 0, .bool false] 50 ∧ RunOn y1 x A cap m g (M.rj s0 g m j1) ∧ But [x] w y1) := ⟨HY.out.but hB1 (by simp; omega), hR1, HB0.out.trans hB1⟩
  have HQ : Hid (JgT.live q = false ∧ (j1 ≤ m → r = q.obs)) := ⟨hq, hr⟩
  clear hG hR1 hS1 hq hr hB1 hj1 HX HY HB0 HGF
  have k0 := HH.out.cfg.cell 0 (v := .int .i64 P) rfl
  have k1 := HH.out.cfg.cell 1 (v := .int .i64 T) rfl
  have k2 := HH.out.cfg.cell 2 (v := .int .i64 G) rfl
  have sc := HH.out.stop
  by_cases hst : m < j1
  · rw [decide_eq_true hst] at sc
    have HST : Hid (m < j1) := hst
    have r0 := HY1.out.1.cell 0 (v := .int .i64 0) rfl
    have r1 := HY1.out.1.cell 1 (v := .int .i64 0) rfl
    have r2 := HY1.out.1.cell 2 (v := .bool false) rfl
    have f0 := HY1.out.1.fro 0
    have f1 := HY1.out.1.fro 1
    have f2 := HY1.out.1.fro 2
    have hlt1 := HY1.out.1.lt
    have HS1 : Hid _ := HH.out.syn
    have HGFo : Hid (GotFar A [w.heap.size + 1]) := HH.out.far.of (by intro k hk; simp at hk ⊢; omega)
    have HLE : Hid (j ≤ j1) := HH.out.le
    clear hst HH k0 k1 k2
    go_wp2_with fail
    have HN : Hid (RunOn ((((y1.setCell ⟨w.heap.size + 1, 0, none⟩ (.int .i64 p)).setCell ⟨w.heap.size + 1, 1, none⟩ (.int .i64 r)).setCell ⟨w.heap.size + 1, 2, none⟩ (.bool false)).alloc (.cells #[.int .i64 p, .int .i64 r, .bool false] 50)) x A cap m g (M.rj s0 g m j1) ∧ But [x] w ((((y1.setCell ⟨w.heap.size + 1, 0, none⟩ (.int .i64 p)).setCell ⟨w.heap.size + 1, 1, none⟩ (.int .i64 r)).setCell ⟨w.heap.size + 1, 2, none⟩ (.bool false)).alloc (.cells #[.int .i64 p, .int .i64 r, .bool false] 50)) ∧ ((((y1.setCell ⟨w.heap.size + 1, 0, none⟩ (.int .i64 p)).setCell ⟨w.heap.size + 1, 1, none⟩ (.int .i64 r)).setCell ⟨w.heap.size + 1, 2, none⟩ (.bool false)).alloc (.cells #[.int .i64 p, .int .i64 r, .bool false] 50)).heap[w.heap.size + 1]? = some (.cells #[.int .i64 p, .int .i64 r, .bool false] 50 (0, 0))) := by
      have hU : But [w.heap.size + 1] y1 (((y1.setCell ⟨w.heap.size + 1, 0, none⟩ (.int .i64 p)).setCell ⟨w.heap.size + 1, 1, none⟩ (.int .i64 r)).setCell ⟨w.heap.size + 1, 2, none⟩ (.bool false)) := (((But.refl _ y1).set (g := w.heap.size + 1) (.inl (by simp)) 0 _).set (g := w.heap.size + 1) (.inl (by simp)) 1 _).set (g := w.heap.size + 1) (.inl (by simp)) 2 _
      have hal : Below (((y1.setCell ⟨w.heap.size + 1, 0, none⟩ (.int .i64 p)).setCell ⟨w.heap.size + 1, 1, none⟩ (.int .i64 r)).setCell ⟨w.heap.size + 1, 2, none⟩ (.bool false)).heap.size (((y1.setCell ⟨w.heap.size + 1, 0, none⟩ (.int .i64 p)).setCell ⟨w.heap.size + 1, 1, none⟩ (.int .i64 r)).setCell ⟨w.heap.size + 1, 2, none⟩ (.bool false)) ((((y1.setCell ⟨w.heap.size + 1, 0, none⟩ (.int .i64 p)).setCell ⟨w.heap.size + 1, 1, none⟩ (.int .i64 r)).setCell ⟨w.heap.size + 1, 2, none⟩ (.bool false)).alloc (.cells #[.int .i64 p, .int .i64 r, .bool false] 50)) := (Below.refl _ _).alloc (Nat.le_refl _) _
      have hZ := ((HY1.out.1.set 0 (.int .i64 p)).set 1 (.int .i64 r)).set 2 (.bool false)
      exact ⟨(HY1.out.2.1.but hU (by simp; omega) HGFo.out).below hal, But.lowk (HY1.out.2.2) hU (by omega) |>.trans (But.of_below hal), (hZ.but (But.of_below (l := []) hal) (by simp)).heap⟩
    generalize ((((y1.setCell ⟨w.heap.size + 1, 0, none⟩ (.int .i64 p)).setCell ⟨w.heap.size + 1, 1, none⟩ (.int .i64 r)).setCell ⟨w.heap.size + 1, 2, none⟩ (.bool false)).alloc (.cells #[.int .i64 p, .int .i64 r, .bool false] 50)) = yz at *
    have hfr := HN.out.2.2
    refine bodyPost_ret (v := .agg #[.int .i64 p, .int .i64 r, .bool false]) (results_cell_row rfl _ _ (w.heap.size + 1) 50 #[.int .i64 p, .int .i64 r, .bool false] _ _ rfl hfr Tryz.underlying50 rfl (by kernel_rfl)) rfl ?_
    refine ⟨p, r, j1, .note q .over, rfl, HN.out.1, ⟨fun h => absurd h (by have := HST.out; omega), fun h => ⟨?_, (HS1.out.past h).2⟩⟩, rfl, fun h => absurd h (by have := HST.out; omega), HN.out.2.1, HLE.out⟩
    rcases (HS1.out.past HST.out).1 with ⟨hq, e1⟩ | ⟨p', hl, hq, e1⟩
    · exact .inl ⟨hq, rfl, e1⟩
    · obtain ⟨a, ha⟩ := Option.isSome_iff_exists.1 ((jg_live_ax (P := P) (T := T) (q := p')).trans hl)
      exact .inr ⟨.get p', a, ha, hq.trans (if_pos hl), rfl, e1⟩
  · rw [decide_eq_false hst] at sc
    have HST : Hid (j1 ≤ m) := (by omega : j1 ≤ m)
    have HRQ : Hid (r = q.obs) := HQ.out.2 HST.out
    by_cases hr1 : r = -1
    · have HS1 : Hid (Syn M s0 g m j1 (emb (.need q)) (fun _ => False)) := ⟨fun h => (HH.out.syn.at' h).trans ((if_neg (by rw [HQ.out.1]; decide)).trans (if_pos (HRQ.out.symm.trans hr1))), fun h => absurd h (by have := HST.out; omega)⟩
      have HH1 : Hid _ := HH.out.as HS1.out
      have hA := syn_store HH1.out.run HS1.out HBD.out 14 1 (fun _ => HE.out.ax (.need q) _ rfl)
      have hd : (r == -1) = true := by simpa using hr1
      have HR1 : Hid (r = -1) := hr1
      clear hst HH HS1 hr1
      go_wp2_with fail
      go_at_call 77; refine hA.mono ?_; rintro e y2 ⟨⟨u, rfl⟩, v2, hK⟩
      have HH2 : Hid (HdAt w y2 x A cap m g M s0 j (j1 + 1) (emb (if sp = true then .cnt q else wsPut lf q)) (fun q' => q' = emb (.need q) ∨ False) #[.int .i64 P, .int .i64 T, .int .i64 G] 50 #[.int .i64 0, .int .i64 0, .bool false] y1.heap.size #[.int .i64 p, .int .i64 r, .bool false]) := by
        have h := HH1.out.step hK
        rw [HE.out.nx (.need q) _ _ rfl] at h
        exact h
      clear hA hK HH1 sc k0 k1 k2 HST hy1
      generalize y1.heap.size = o at *
      cases hsp : sp with
      | true =>
        subst hsp
        have HH3 : Hid (HdAt w y2 x A cap m g M s0 j (j1 + 1) (emb (.cnt q)) (fun q' => q' = emb (.need q) ∨ False) #[.int .i64 P, .int .i64 T, .int .i64 G] 50 #[.int .i64 0, .int .i64 0, .bool false] o #[.int .i64 p, .int .i64 r, .bool false]) := HH2.out.as (HH2.out.syn.as (fun _ => rfl))
        have hA := syn_add HH3.out.run HH3.out.syn HBD.out 13 4294967295 (fun _ => HE.out.ax (.cnt q) _ rfl)
        clear HH2
        go_wp2_with fail
        go_at_call 78; refine hA.mono ?_; rintro e y3 ⟨v3, rfl, hK⟩
        have HH : Hid (HdAt w y3 x A cap m g M s0 j (j1 + 1 + 1) (emb (wsPut lf q)) (WsQ Q emb P T p true lf p r) #[.int .i64 P, .int .i64 T, .int .i64 G] 50 #[.int .i64 0, .int .i64 0, .bool false] o #[.int .i64 p, .int .i64 r, .bool false]) := by
          have h := HH3.out.step hK
          rw [HE.out.nx (.cnt q) _ _ rfl] at h
          exact h.as (h.syn.weak (fun q' h' => by
            rcases h' with h' | h' | h'
            · exact .inr ⟨.cnt q, _, rfl, h', rfl, HRQ.out⟩
            · exact .inr ⟨.need q, _, rfl, h', rfl, HRQ.out⟩
            · exact h'.elim))
        clear hA hK HH3
        have sc := HH.out.stop
        by_cases hst : m < j1 + 1 + 1
        · rw [decide_eq_true hst] at sc
          have HST : Hid (m < j1 + 1 + 1) := hst
          clear hst
          have o0 := HH.out.out.cell 0 (v := .int .i64 p) rfl
          have o1 := HH.out.out.cell 1 (v := .int .i64 r) rfl
          have o2 := HH.out.out.cell 2 (v := .bool false) rfl
          have r0 := HH.out.res.cell 0 (v := .int .i64 0) rfl
          have r1 := HH.out.res.cell 1 (v := .int .i64 0) rfl
          have r2 := HH.out.res.cell 2 (v := .bool false) rfl
          have f0 := HH.out.res.fro 0
          have f1 := HH.out.res.fro 1
          have f2 := HH.out.res.fro 2
          have HN : Hid _ := HH.out.ret (a := .int .i64 p) (b := .int .i64 r) (c := .bool false) rfl
          go_wp2_with fail
          generalize ((y3.setCell ⟨w.heap.size + 1, 0, none⟩ (.int .i64 p)).setCell ⟨w.heap.size + 1, 1, none⟩ (.int .i64 r)).setCell ⟨w.heap.size + 1, 2, none⟩ (.bool false) = yz at *
          have hfr := HN.out.2.2
          refine bodyPost_ret (v := .agg #[.int .i64 p, .int .i64 r, .bool false]) (results_cell_row rfl _ _ (w.heap.size + 1) 50 #[.int .i64 p, .int .i64 r, .bool false] _ _ rfl hfr Tryz.underlying50 rfl (by kernel_rfl)) rfl ?_
          exact ⟨p, r, _, .note q .over, rfl, HN.out.1, ⟨fun h => absurd h (by have := HST.out; omega), fun h => HH.out.syn.past h⟩, rfl, fun h => absurd h (by have := HST.out; omega), HN.out.2.1, HH.out.le⟩
        · rw [decide_eq_false hst] at sc
          have HST : Hid (j1 + 1 + 1 ≤ m) := (by omega : j1 + 1 + 1 ≤ m)
          have k0 := HH.out.cfg.cell 0 (v := .int .i64 P) rfl
          have k1 := HH.out.cfg.cell 1 (v := .int .i64 T) rfl
          have k2 := HH.out.cfg.cell 2 (v := .int .i64 G) rfl
          clear hst
          cases hlf : lf with
          | true =>
            subst hlf
            have HS1 : Hid (Syn M s0 g m (j1 + 1 + 1) (emb (.lft q)) (fun _ => False)) := ⟨HH.out.syn.at', fun h => absurd h (by have := HST.out; omega)⟩
            have HH1 : Hid _ := HH.out.as HS1.out
            have hPA := rprcAt_all P T G p 0 y3 HP.out.1.2 (by omega)
            have HAc : Hid (∀ Y, Below y3.heap.size y3 Y → _) := fun Y (hY : Below y3.heap.size y3 Y) => syn_store (HH1.out.low hY).run HS1.out HBD.out (wd 20 P 264 p 0) 2 (fun _ => HE.out.ax (.lft q) _ rfl)
            clear HH HS1
            go_wp2_with fail
            go_at_call 79; refine hPA.mono ?_; rintro e y5 ⟨rfl, h5⟩
            have hA := HAc.out y5 h5
            have HH5 : Hid _ := HH1.out.low h5
            clear hPA h5 k0 k1 k2 HAc HH1 sc HST
            go_wp2_with fail
            go_at_call 77; refine hA.mono ?_; rintro e y6 ⟨⟨u, rfl⟩, v6, hK⟩
            have HH6 : Hid (HdAt w y6 x A cap m g M s0 j (j1 + 1 + 1 + 1) (emb (.rel2 q none .fresh)) (fun q' => q' = emb (.lft q) ∨ False) #[.int .i64 P, .int .i64 T, .int .i64 G] 50 #[.int .i64 0, .int .i64 0, .bool false] o #[.int .i64 p, .int .i64 r, .bool false]) := by
              have h := HH5.out.step hK
              rw [HE.out.nx (.lft q) _ _ rfl] at h
              exact h
            clear hA hK HH5
            have sc := HH6.out.stop
            by_cases hst : m < j1 + 1 + 1 + 1
            · rw [decide_eq_true hst] at sc
              have HST : Hid (m < j1 + 1 + 1 + 1) := hst
              have hRl := syn_release (ws_relIn2 HE.out q none) (by omega) HH6.out.run HH6.out.syn HBD.out
              clear hst
              go_wp2_with fail
              go_at_call 81; refine hRl.mono ?_; rintro e y9 ⟨⟨u9, rfl⟩, j9, hR9, hS9, hB9, hj9⟩
              have HH : Hid (HdAt w y9 x A cap m g M s0 j j9 (emb (.rel2 q none .over)) (WsQ Q emb P T p true true p r) #[.int .i64 P, .int .i64 T, .int .i64 G] 50 #[.int .i64 0, .int .i64 0, .bool false] o #[.int .i64 p, .int .i64 r, .bool false]) := HH6.out.go hR9 ⟨hS9.at', fun h => ⟨by
                rcases (HH6.out.syn.past HST.out).1 with h1 | h1
                · exact .inr ⟨.lft q, _, rfl, h1, rfl, HRQ.out⟩
                · exact h1.elim, (HH6.out.syn.past HST.out).2⟩⟩ hB9 hj9
              have HST9 : Hid (m < j9) := Nat.lt_of_lt_of_le HST.out hj9
              clear hRl hR9 hS9 hB9 hj9 sc HST HH6
              have HST := HST9
              have o0 := HH.out.out.cell 0 (v := .int .i64 p) rfl
              have o1 := HH.out.out.cell 1 (v := .int .i64 r) rfl
              have o2 := HH.out.out.cell 2 (v := .bool false) rfl
              have r0 := HH.out.res.cell 0 (v := .int .i64 0) rfl
              have r1 := HH.out.res.cell 1 (v := .int .i64 0) rfl
              have r2 := HH.out.res.cell 2 (v := .bool false) rfl
              have f0 := HH.out.res.fro 0
              have f1 := HH.out.res.fro 1
              have f2 := HH.out.res.fro 2
              have HN : Hid _ := HH.out.ret (a := .int .i64 p) (b := .int .i64 r) (c := .bool false) rfl
              go_wp2_with fail
              generalize ((y9.setCell ⟨w.heap.size + 1, 0, none⟩ (.int .i64 p)).setCell ⟨w.heap.size + 1, 1, none⟩ (.int .i64 r)).setCell ⟨w.heap.size + 1, 2, none⟩ (.bool false) = yz at *
              have hfr := HN.out.2.2
              refine bodyPost_ret (v := .agg #[.int .i64 p, .int .i64 r, .bool false]) (results_cell_row rfl _ _ (w.heap.size + 1) 50 #[.int .i64 p, .int .i64 r, .bool false] _ _ rfl hfr Tryz.underlying50 rfl (by kernel_rfl)) rfl ?_
              exact ⟨p, r, _, .note q .over, rfl, HN.out.1, ⟨fun h => absurd h (by have := HST.out; omega), fun h => HH.out.syn.past h⟩, rfl, fun h => absurd h (by have := HST.out; omega), HN.out.2.1, HH.out.le⟩
            · rw [decide_eq_false hst] at sc
              have HST : Hid (j1 + 1 + 1 + 1 ≤ m) := (by omega : j1 + 1 + 1 + 1 ≤ m)
              have HS6 : Hid (Syn M s0 g m (j1 + 1 + 1 + 1) (emb (.rel2 q none .fresh)) (fun _ => False)) := ⟨HH6.out.syn.at', fun h => absurd h (by have := HST.out; omega)⟩
              have HH7 : Hid (HdAt w (y6.setCell ⟨o, 0, none⟩ (.int .i64 (-1))) x A cap m g M s0 j (j1 + 1 + 1 + 1) (emb (.rel2 q none .fresh)) (fun _ => False) #[.int .i64 P, .int .i64 T, .int .i64 G] 50 #[.int .i64 0, .int .i64 0, .bool false] o #[.int .i64 (-1), .int .i64 r, .bool false]) := (HH6.out.as HS6.out).set 0 (.int .i64 (-1))
              have hRl := syn_release (ws_relIn2 HE.out q none) (by omega) HH7.out.run HH7.out.syn HBD.out
              have o0 := HH6.out.out.cell 0 (v := .int .i64 p) rfl
              have f0 := HH6.out.out.fro 0
              clear hst
              go_wp2_with fail
              clear o0 f0
              generalize y6.setCell ⟨o, 0, none⟩ (.int .i64 (-1)) = V at *
              go_at_call 81; refine hRl.mono ?_; rintro e y9 ⟨⟨u9, rfl⟩, j9, hR9, hS9, hB9, hj9⟩
              have HH : Hid (HdAt w y9 x A cap m g M s0 j j9 (emb (.rel2 q none .over)) (WsQ Q emb P T p true true (-1) r) #[.int .i64 P, .int .i64 T, .int .i64 G] 50 #[.int .i64 0, .int .i64 0, .bool false] o #[.int .i64 (-1), .int .i64 r, .bool false]) := HH7.out.go hR9 (hS9.weak (fun q' h => by
                rcases h with h | h | h
                · exact h.elim
                · exact .inr ⟨.rel2 q none .fresh, _, rfl, h, rfl, HRQ.out⟩
                · exact .inr ⟨.rel2 q none .pass, _, rfl, h, rfl, HRQ.out⟩)) hB9 hj9
              clear hRl hR9 hS9 hB9 hj9 sc HST HH6 HH7 HS6
              have o0 := HH.out.out.cell 0 (v := .int .i64 (-1)) rfl
              have o1 := HH.out.out.cell 1 (v := .int .i64 r) rfl
              have o2 := HH.out.out.cell 2 (v := .bool false) rfl
              have r0 := HH.out.res.cell 0 (v := .int .i64 0) rfl
              have r1 := HH.out.res.cell 1 (v := .int .i64 0) rfl
              have r2 := HH.out.res.cell 2 (v := .bool false) rfl
              have f0 := HH.out.res.fro 0
              have f1 := HH.out.res.fro 1
              have f2 := HH.out.res.fro 2
              have HN : Hid _ := HH.out.ret (a := .int .i64 (-1)) (b := .int .i64 r) (c := .bool false) rfl
              go_wp2_with fail
              generalize ((y9.setCell ⟨w.heap.size + 1, 0, none⟩ (.int .i64 (-1))).setCell ⟨w.heap.size + 1, 1, none⟩ (.int .i64 r)).setCell ⟨w.heap.size + 1, 2, none⟩ (.bool false) = yz at *
              have hfr := HN.out.2.2
              refine bodyPost_ret (v := .agg #[.int .i64 (-1), .int .i64 r, .bool false]) (results_cell_row rfl _ _ (w.heap.size + 1) 50 #[.int .i64 (-1), .int .i64 r, .bool false] _ _ rfl hfr Tryz.underlying50 rfl (by kernel_rfl)) rfl ?_
              exact ⟨-1, r, j9, .rel2 q none .over, rfl, HN.out.1, HH.out.syn, rfl, fun _ => ⟨rfl, HRQ.out⟩, HN.out.2.1, HH.out.le⟩
          | false =>
            subst hlf
            have HS1 : Hid (Syn M s0 g m (j1 + 1 + 1) (wsI emb q .m0) (fun _ => False)) := ⟨HH.out.syn.at', fun h => absurd h (by have := HST.out; omega)⟩
            have HH1 : Hid _ := HH.out.as HS1.out
            have hP := syn_iput (T := T) (G := G) (ws_ipIn HE.out q) HP.out.1 HH1.out.run HS1.out HBD.out
            clear HH HS1
            go_wp2_with fail
            go_at_call 80; refine hP.mono ?_; rintro e y5 ⟨r5, j5, rfl, hR5, hS5, h5, hB5, hj5⟩
            have HH5 : Hid (HdAt w y5 x A cap m g M s0 j j5 (emb (.rel2 q (some .over) .fresh)) (IpQ (fun _ => False) (wsI emb q) p r5) #[.int .i64 P, .int .i64 T, .int .i64 G] 50 #[.int .i64 0, .int .i64 0, .bool false] o #[.int .i64 p, .int .i64 r, .bool false]) := HH1.out.go hR5 hS5 hB5 hj5
            have H5 : Hid (j5 ≤ m → r5 = -1) := h5
            have HH7 : Hid (HdAt w (y5.setCell ⟨o, 0, none⟩ (.int .i64 r5)) x A cap m g M s0 j j5 (emb (.rel2 q (some .over) .fresh)) (IpQ (fun _ => False) (wsI emb q) p r5) #[.int .i64 P, .int .i64 T, .int .i64 G] 50 #[.int .i64 0, .int .i64 0, .bool false] o #[.int .i64 r5, .int .i64 r, .bool false]) := HH5.out.set 0 (.int .i64 r5)
            have hRl := syn_release (ws_relIn2 HE.out q (some .over)) (by omega) HH7.out.run HH7.out.syn HBD.out
            have o0 := HH5.out.out.cell 0 (v := .int .i64 p) rfl
            have f0 := HH5.out.out.fro 0
            clear hP hR5 hS5 h5 hB5 hj5 k0 k1 k2 sc HST HH1
            go_wp2_with fail
            clear o0 f0
            generalize y5.setCell ⟨o, 0, none⟩ (.int .i64 r5) = V at *
            go_at_call 81; refine hRl.mono ?_; rintro e y9 ⟨⟨u9, rfl⟩, j9, hR9, hS9, hB9, hj9⟩
            have HH : Hid (HdAt w y9 x A cap m g M s0 j j9 (emb (.rel2 q (some .over) .over)) (WsQ Q emb P T p true false r5 r) #[.int .i64 P, .int .i64 T, .int .i64 G] 50 #[.int .i64 0, .int .i64 0, .bool false] o #[.int .i64 r5, .int .i64 r, .bool false]) := HH7.out.go hR9 ⟨hS9.at', fun h => ⟨by
              by_cases h5 : m < j5
              · rcases (HH5.out.syn.past h5).1 with ⟨h1, -⟩ | ⟨p', h1, h2, h3⟩
                · exact h1.elim
                · have hb : wsI emb q p' = emb (.back q p') := by cases p' <;> first | rfl | exact absurd rfl h1
                  obtain ⟨a, ha⟩ : ∃ a, (wsPM P T p true false).ax (.back q p') = some a := by cases p' <;> first | exact ⟨_, rfl⟩ | exact absurd rfl h1
                  exact .inr ⟨.back q p', a, ha, h2.trans hb, h3, HRQ.out⟩
              · have e5 : r5 = -1 := H5.out (by omega)
                rcases (hS9.past h).1 with h1 | h1 | h1
                · rcases h1 with ⟨h1, -⟩ | ⟨p', h1, h2, h3⟩
                  · exact h1.elim
                  · have hb : wsI emb q p' = emb (.back q p') := by cases p' <;> first | rfl | exact absurd rfl h1
                    obtain ⟨a, ha⟩ : ∃ a, (wsPM P T p true false).ax (.back q p') = some a := by cases p' <;> first | exact ⟨_, rfl⟩ | exact absurd rfl h1
                    exact .inr ⟨.back q p', a, ha, h2.trans hb, h3, HRQ.out⟩
                · exact .inr ⟨.rel2 q (some .over) .fresh, _, rfl, h1, e5, HRQ.out⟩
                · exact .inr ⟨.rel2 q (some .over) .pass, _, rfl, h1, e5, HRQ.out⟩, (hS9.past h).2⟩⟩ hB9 hj9
            have H9 : Hid (j9 ≤ m → r5 = -1) := fun h => H5.out (Nat.le_trans hj9 h)
            clear hRl hR9 hS9 hB9 hj9 HH5 HH7 H5
            have o0 := HH.out.out.cell 0 (v := .int .i64 r5) rfl
            have o1 := HH.out.out.cell 1 (v := .int .i64 r) rfl
            have o2 := HH.out.out.cell 2 (v := .bool false) rfl
            have r0 := HH.out.res.cell 0 (v := .int .i64 0) rfl
            have r1 := HH.out.res.cell 1 (v := .int .i64 0) rfl
            have r2 := HH.out.res.cell 2 (v := .bool false) rfl
            have f0 := HH.out.res.fro 0
            have f1 := HH.out.res.fro 1
            have f2 := HH.out.res.fro 2
            have HN : Hid _ := HH.out.ret (a := .int .i64 r5) (b := .int .i64 r) (c := .bool false) rfl
            go_wp2_with fail
            generalize ((y9.setCell ⟨w.heap.size + 1, 0, none⟩ (.int .i64 r5)).setCell ⟨w.heap.size + 1, 1, none⟩ (.int .i64 r)).setCell ⟨w.heap.size + 1, 2, none⟩ (.bool false) = yz at *
            have hfr := HN.out.2.2
            refine bodyPost_ret (v := .agg #[.int .i64 r5, .int .i64 r, .bool false]) (results_cell_row rfl _ _ (w.heap.size + 1) 50 #[.int .i64 r5, .int .i64 r, .bool false] _ _ rfl hfr Tryz.underlying50 rfl (by kernel_rfl)) rfl ?_
            exact ⟨r5, r, j9, .rel2 q (some .over) .over, rfl, HN.out.1, HH.out.syn, rfl, fun h => ⟨H9.out h, HRQ.out⟩, HN.out.2.1, HH.out.le⟩
      | false =>
        subst hsp
        have HH : Hid (HdAt w y2 x A cap m g M s0 j (j1 + 1) (emb (wsPut lf q)) (WsQ Q emb P T p false lf p r) #[.int .i64 P, .int .i64 T, .int .i64 G] 50 #[.int .i64 0, .int .i64 0, .bool false] o #[.int .i64 p, .int .i64 r, .bool false]) := HH2.out.as (HH2.out.syn.weak (fun q' h' => by
            rcases h' with h' | h'
            · exact .inr ⟨.need q, _, rfl, h', rfl, HRQ.out⟩
            · exact h'.elim))
        clear HH2
        have sc := HH.out.stop
        by_cases hst : m < j1 + 1
        · rw [decide_eq_true hst] at sc
          have HST : Hid (m < j1 + 1) := hst
          clear hst
          have o0 := HH.out.out.cell 0 (v := .int .i64 p) rfl
          have o1 := HH.out.out.cell 1 (v := .int .i64 r) rfl
          have o2 := HH.out.out.cell 2 (v := .bool false) rfl
          have r0 := HH.out.res.cell 0 (v := .int .i64 0) rfl
          have r1 := HH.out.res.cell 1 (v := .int .i64 0) rfl
          have r2 := HH.out.res.cell 2 (v := .bool false) rfl
          have f0 := HH.out.res.fro 0
          have f1 := HH.out.res.fro 1
          have f2 := HH.out.res.fro 2
          have HN : Hid _ := HH.out.ret (a := .int .i64 p) (b := .int .i64 r) (c := .bool false) rfl
          go_wp2_with fail
          generalize ((y2.setCell ⟨w.heap.size + 1, 0, none⟩ (.int .i64 p)).setCell ⟨w.heap.size + 1, 1, none⟩ (.int .i64 r)).setCell ⟨w.heap.size + 1, 2, none⟩ (.bool false) = yz at *
          have hfr := HN.out.2.2
          refine bodyPost_ret (v := .agg #[.int .i64 p, .int .i64 r, .bool false]) (results_cell_row rfl _ _ (w.heap.size + 1) 50 #[.int .i64 p, .int .i64 r, .bool false] _ _ rfl hfr Tryz.underlying50 rfl (by kernel_rfl)) rfl ?_
          exact ⟨p, r, _, .note q .over, rfl, HN.out.1, ⟨fun h => absurd h (by have := HST.out; omega), fun h => HH.out.syn.past h⟩, rfl, fun h => absurd h (by have := HST.out; omega), HN.out.2.1, HH.out.le⟩
        · rw [decide_eq_false hst] at sc
          have HST : Hid (j1 + 1 ≤ m) := (by omega : j1 + 1 ≤ m)
          have k0 := HH.out.cfg.cell 0 (v := .int .i64 P) rfl
          have k1 := HH.out.cfg.cell 1 (v := .int .i64 T) rfl
          have k2 := HH.out.cfg.cell 2 (v := .int .i64 G) rfl
          clear hst
          cases hlf : lf with
          | true =>
            subst hlf
            have HS1 : Hid (Syn M s0 g m (j1 + 1) (emb (.lft q)) (fun _ => False)) := ⟨HH.out.syn.at', fun h => absurd h (by have := HST.out; omega)⟩
            have HH1 : Hid _ := HH.out.as HS1.out
            have hPA := rprcAt_all P T G p 0 y2 HP.out.1.2 (by omega)
            have HAc : Hid (∀ Y, Below y2.heap.size y2 Y → _) := fun Y (hY : Below y2.heap.size y2 Y) => syn_store (HH1.out.low hY).run HS1.out HBD.out (wd 20 P 264 p 0) 2 (fun _ => HE.out.ax (.lft q) _ rfl)
            clear HH HS1
            go_wp2_with fail
            go_at_call 79; refine hPA.mono ?_; rintro e y5 ⟨rfl, h5⟩
            have hA := HAc.out y5 h5
            have HH5 : Hid _ := HH1.out.low h5
            clear hPA h5 k0 k1 k2 HAc HH1 sc HST
            go_wp2_with fail
            go_at_call 77; refine hA.mono ?_; rintro e y6 ⟨⟨u, rfl⟩, v6, hK⟩
            have HH6 : Hid (HdAt w y6 x A cap m g M s0 j (j1 + 1 + 1) (emb (.rel2 q none .fresh)) (fun q' => q' = emb (.lft q) ∨ False) #[.int .i64 P, .int .i64 T, .int .i64 G] 50 #[.int .i64 0, .int .i64 0, .bool false] o #[.int .i64 p, .int .i64 r, .bool false]) := by
              have h := HH5.out.step hK
              rw [HE.out.nx (.lft q) _ _ rfl] at h
              exact h
            clear hA hK HH5
            have sc := HH6.out.stop
            by_cases hst : m < j1 + 1 + 1
            · rw [decide_eq_true hst] at sc
              have HST : Hid (m < j1 + 1 + 1) := hst
              have hRl := syn_release (ws_relIn2 HE.out q none) (by omega) HH6.out.run HH6.out.syn HBD.out
              clear hst
              go_wp2_with fail
              go_at_call 81; refine hRl.mono ?_; rintro e y9 ⟨⟨u9, rfl⟩, j9, hR9, hS9, hB9, hj9⟩
              have HH : Hid (HdAt w y9 x A cap m g M s0 j j9 (emb (.rel2 q none .over)) (WsQ Q emb P T p false true p r) #[.int .i64 P, .int .i64 T, .int .i64 G] 50 #[.int .i64 0, .int .i64 0, .bool false] o #[.int .i64 p, .int .i64 r, .bool false]) := HH6.out.go hR9 ⟨hS9.at', fun h => ⟨by
                rcases (HH6.out.syn.past HST.out).1 with h1 | h1
                · exact .inr ⟨.lft q, _, rfl, h1, rfl, HRQ.out⟩
                · exact h1.elim, (HH6.out.syn.past HST.out).2⟩⟩ hB9 hj9
              have HST9 : Hid (m < j9) := Nat.lt_of_lt_of_le HST.out hj9
              clear hRl hR9 hS9 hB9 hj9 sc HST HH6
              have HST := HST9
              have o0 := HH.out.out.cell 0 (v := .int .i64 p) rfl
              have o1 := HH.out.out.cell 1 (v := .int .i64 r) rfl
              have o2 := HH.out.out.cell 2 (v := .bool false) rfl
              have r0 := HH.out.res.cell 0 (v := .int .i64 0) rfl
              have r1 := HH.out.res.cell 1 (v := .int .i64 0) rfl
              have r2 := HH.out.res.cell 2 (v := .bool false) rfl
              have f0 := HH.out.res.fro 0
              have f1 := HH.out.res.fro 1
              have f2 := HH.out.res.fro 2
              have HN : Hid _ := HH.out.ret (a := .int .i64 p) (b := .int .i64 r) (c := .bool false) rfl
              go_wp2_with fail
              generalize ((y9.setCell ⟨w.heap.size + 1, 0, none⟩ (.int .i64 p)).setCell ⟨w.heap.size + 1, 1, none⟩ (.int .i64 r)).setCell ⟨w.heap.size + 1, 2, none⟩ (.bool false) = yz at *
              have hfr := HN.out.2.2
              refine bodyPost_ret (v := .agg #[.int .i64 p, .int .i64 r, .bool false]) (results_cell_row rfl _ _ (w.heap.size + 1) 50 #[.int .i64 p, .int .i64 r, .bool false] _ _ rfl hfr Tryz.underlying50 rfl (by kernel_rfl)) rfl ?_
              exact ⟨p, r, _, .note q .over, rfl, HN.out.1, ⟨fun h => absurd h (by have := HST.out; omega), fun h => HH.out.syn.past h⟩, rfl, fun h => absurd h (by have := HST.out; omega), HN.out.2.1, HH.out.le⟩
            · rw [decide_eq_false hst] at sc
              have HST : Hid (j1 + 1 + 1 ≤ m) := (by omega : j1 + 1 + 1 ≤ m)
              have HS6 : Hid (Syn M s0 g m (j1 + 1 + 1) (emb (.rel2 q none .fresh)) (fun _ => False)) := ⟨HH6.out.syn.at', fun h => absurd h (by have := HST.out; omega)⟩
              have HH7 : Hid (HdAt w (y6.setCell ⟨o, 0, none⟩ (.int .i64 (-1))) x A cap m g M s0 j (j1 + 1 + 1) (emb (.rel2 q none .fresh)) (fun _ => False) #[.int .i64 P, .int .i64 T, .int .i64 G] 50 #[.int .i64 0, .int .i64 0, .bool false] o #[.int .i64 (-1), .int .i64 r, .bool false]) := (HH6.out.as HS6.out).set 0 (.int .i64 (-1))
              have hRl := syn_release (ws_relIn2 HE.out q none) (by omega) HH7.out.run HH7.out.syn HBD.out
              have o0 := HH6.out.out.cell 0 (v := .int .i64 p) rfl
              have f0 := HH6.out.out.fro 0
              clear hst
              go_wp2_with fail
              clear o0 f0
              generalize y6.setCell ⟨o, 0, none⟩ (.int .i64 (-1)) = V at *
              go_at_call 81; refine hRl.mono ?_; rintro e y9 ⟨⟨u9, rfl⟩, j9, hR9, hS9, hB9, hj9⟩
              have HH : Hid (HdAt w y9 x A cap m g M s0 j j9 (emb (.rel2 q none .over)) (WsQ Q emb P T p false true (-1) r) #[.int .i64 P, .int .i64 T, .int .i64 G] 50 #[.int .i64 0, .int .i64 0, .bool false] o #[.int .i64 (-1), .int .i64 r, .bool false]) := HH7.out.go hR9 (hS9.weak (fun q' h => by
                rcases h with h | h | h
                · exact h.elim
                · exact .inr ⟨.rel2 q none .fresh, _, rfl, h, rfl, HRQ.out⟩
                · exact .inr ⟨.rel2 q none .pass, _, rfl, h, rfl, HRQ.out⟩)) hB9 hj9
              clear hRl hR9 hS9 hB9 hj9 sc HST HH6 HH7 HS6
              have o0 := HH.out.out.cell 0 (v := .int .i64 (-1)) rfl
              have o1 := HH.out.out.cell 1 (v := .int .i64 r) rfl
              have o2 := HH.out.out.cell 2 (v := .bool false) rfl
              have r0 := HH.out.res.cell 0 (v := .int .i64 0) rfl
              have r1 := HH.out.res.cell 1 (v := .int .i64 0) rfl
              have r2 := HH.out.res.cell 2 (v := .bool false) rfl
              have f0 := HH.out.res.fro 0
              have f1 := HH.out.res.fro 1
              have f2 := HH.out.res.fro 2
              have HN : Hid _ := HH.out.ret (a := .int .i64 (-1)) (b := .int .i64 r) (c := .bool false) rfl
              go_wp2_with fail
              generalize ((y9.setCell ⟨w.heap.size + 1, 0, none⟩ (.int .i64 (-1))).setCell ⟨w.heap.size + 1, 1, none⟩ (.int .i64 r)).setCell ⟨w.heap.size + 1, 2, none⟩ (.bool false) = yz at *
              have hfr := HN.out.2.2
              refine bodyPost_ret (v := .agg #[.int .i64 (-1), .int .i64 r, .bool false]) (results_cell_row rfl _ _ (w.heap.size + 1) 50 #[.int .i64 (-1), .int .i64 r, .bool false] _ _ rfl hfr Tryz.underlying50 rfl (by kernel_rfl)) rfl ?_
              exact ⟨-1, r, j9, .rel2 q none .over, rfl, HN.out.1, HH.out.syn, rfl, fun _ => ⟨rfl, HRQ.out⟩, HN.out.2.1, HH.out.le⟩
          | false =>
            subst hlf
            have HS1 : Hid (Syn M s0 g m (j1 + 1) (wsI emb q .m0) (fun _ => False)) := ⟨HH.out.syn.at', fun h => absurd h (by have := HST.out; omega)⟩
            have HH1 : Hid _ := HH.out.as HS1.out
            have hP := syn_iput (T := T) (G := G) (ws_ipIn HE.out q) HP.out.1 HH1.out.run HS1.out HBD.out
            clear HH HS1
            go_wp2_with fail
            go_at_call 80; refine hP.mono ?_; rintro e y5 ⟨r5, j5, rfl, hR5, hS5, h5, hB5, hj5⟩
            have HH5 : Hid (HdAt w y5 x A cap m g M s0 j j5 (emb (.rel2 q (some .over) .fresh)) (IpQ (fun _ => False) (wsI emb q) p r5) #[.int .i64 P, .int .i64 T, .int .i64 G] 50 #[.int .i64 0, .int .i64 0, .bool false] o #[.int .i64 p, .int .i64 r, .bool false]) := HH1.out.go hR5 hS5 hB5 hj5
            have H5 : Hid (j5 ≤ m → r5 = -1) := h5
            have HH7 : Hid (HdAt w (y5.setCell ⟨o, 0, none⟩ (.int .i64 r5)) x A cap m g M s0 j j5 (emb (.rel2 q (some .over) .fresh)) (IpQ (fun _ => False) (wsI emb q) p r5) #[.int .i64 P, .int .i64 T, .int .i64 G] 50 #[.int .i64 0, .int .i64 0, .bool false] o #[.int .i64 r5, .int .i64 r, .bool false]) := HH5.out.set 0 (.int .i64 r5)
            have hRl := syn_release (ws_relIn2 HE.out q (some .over)) (by omega) HH7.out.run HH7.out.syn HBD.out
            have o0 := HH5.out.out.cell 0 (v := .int .i64 p) rfl
            have f0 := HH5.out.out.fro 0
            clear hP hR5 hS5 h5 hB5 hj5 k0 k1 k2 sc HST HH1
            go_wp2_with fail
            clear o0 f0
            generalize y5.setCell ⟨o, 0, none⟩ (.int .i64 r5) = V at *
            go_at_call 81; refine hRl.mono ?_; rintro e y9 ⟨⟨u9, rfl⟩, j9, hR9, hS9, hB9, hj9⟩
            have HH : Hid (HdAt w y9 x A cap m g M s0 j j9 (emb (.rel2 q (some .over) .over)) (WsQ Q emb P T p false false r5 r) #[.int .i64 P, .int .i64 T, .int .i64 G] 50 #[.int .i64 0, .int .i64 0, .bool false] o #[.int .i64 r5, .int .i64 r, .bool false]) := HH7.out.go hR9 ⟨hS9.at', fun h => ⟨by
              by_cases h5 : m < j5
              · rcases (HH5.out.syn.past h5).1 with ⟨h1, -⟩ | ⟨p', h1, h2, h3⟩
                · exact h1.elim
                · have hb : wsI emb q p' = emb (.back q p') := by cases p' <;> first | rfl | exact absurd rfl h1
                  obtain ⟨a, ha⟩ : ∃ a, (wsPM P T p false false).ax (.back q p') = some a := by cases p' <;> first | exact ⟨_, rfl⟩ | exact absurd rfl h1
                  exact .inr ⟨.back q p', a, ha, h2.trans hb, h3, HRQ.out⟩
              · have e5 : r5 = -1 := H5.out (by omega)
                rcases (hS9.past h).1 with h1 | h1 | h1
                · rcases h1 with ⟨h1, -⟩ | ⟨p', h1, h2, h3⟩
                  · exact h1.elim
                  · have hb : wsI emb q p' = emb (.back q p') := by cases p' <;> first | rfl | exact absurd rfl h1
                    obtain ⟨a, ha⟩ : ∃ a, (wsPM P T p false false).ax (.back q p') = some a := by cases p' <;> first | exact ⟨_, rfl⟩ | exact absurd rfl h1
                    exact .inr ⟨.back q p', a, ha, h2.trans hb, h3, HRQ.out⟩
                · exact .inr ⟨.rel2 q (some .over) .fresh, _, rfl, h1, e5, HRQ.out⟩
                · exact .inr ⟨.rel2 q (some .over) .pass, _, rfl, h1, e5, HRQ.out⟩, (hS9.past h).2⟩⟩ hB9 hj9
            have H9 : Hid (j9 ≤ m → r5 = -1) := fun h => H5.out (Nat.le_trans hj9 h)
            clear hRl hR9 hS9 hB9 hj9 HH5 HH7 H5
            have o0 := HH.out.out.cell 0 (v := .int .i64 r5) rfl
            have o1 := HH.out.out.cell 1 (v := .int .i64 r) rfl
            have o2 := HH.out.out.cell 2 (v := .bool false) rfl
            have r0 := HH.out.res.cell 0 (v := .int .i64 0) rfl
            have r1 := HH.out.res.cell 1 (v := .int .i64 0) rfl
            have r2 := HH.out.res.cell 2 (v := .bool false) rfl
            have f0 := HH.out.res.fro 0
            have f1 := HH.out.res.fro 1
            have f2 := HH.out.res.fro 2
            have HN : Hid _ := HH.out.ret (a := .int .i64 r5) (b := .int .i64 r) (c := .bool false) rfl
            go_wp2_with fail
            generalize ((y9.setCell ⟨w.heap.size + 1, 0, none⟩ (.int .i64 r5)).setCell ⟨w.heap.size + 1, 1, none⟩ (.int .i64 r)).setCell ⟨w.heap.size + 1, 2, none⟩ (.bool false) = yz at *
            have hfr := HN.out.2.2
            refine bodyPost_ret (v := .agg #[.int .i64 r5, .int .i64 r, .bool false]) (results_cell_row rfl _ _ (w.heap.size + 1) 50 #[.int .i64 r5, .int .i64 r, .bool false] _ _ rfl hfr Tryz.underlying50 rfl (by kernel_rfl)) rfl ?_
            exact ⟨r5, r, j9, .rel2 q (some .over) .over, rfl, HN.out.1, HH.out.syn, rfl, fun h => ⟨H9.out h, HRQ.out⟩, HN.out.2.1, HH.out.le⟩
    · have HR1 : Hid (r ≠ -1) := hr1
      have hd : (r == -1) = false := by simpa using hr1
      have HS1 : Hid (Syn M s0 g m j1 (wsR1 emb q .fresh) (fun _ => False)) := ⟨fun h => (HH.out.syn.at' h).trans ((if_neg (by rw [HQ.out.1]; decide)).trans (if_neg (fun e => hr1 (HRQ.out.trans e)))), fun h => absurd h (by have := HST.out; omega)⟩
      have HH1 : Hid _ := HH.out.as HS1.out
      have hRl := syn_release (ws_relIn1 HE.out q) (by omega) HH1.out.run HS1.out HBD.out
      clear hst HH HS1 hr1
      go_wp2_with fail
      go_at_call 81; refine hRl.mono ?_; rintro e y2 ⟨⟨u2, rfl⟩, j2, hR2, hS2, hB2, hj2⟩
      have HH2 : Hid (HdAt w y2 x A cap m g M s0 j j2 (emb (.give q)) (WsQ Q emb P T p sp lf p r) #[.int .i64 P, .int .i64 T, .int .i64 G] 50 #[.int .i64 0, .int .i64 0, .bool false] y1.heap.size #[.int .i64 p, .int .i64 r, .bool false]) := HH1.out.go hR2 (hS2.weak (fun q' h => by
        rcases h with h | h | h
        · exact h.elim
        · exact .inr ⟨.rel1 q .fresh, _, rfl, h, rfl, HRQ.out⟩
        · exact .inr ⟨.rel1 q .pass, _, rfl, h, rfl, HRQ.out⟩)) hB2 hj2
      clear hRl hR2 hS2 hB2 hj2 HH1 sc k0 k1 k2 HST hy1
      generalize y1.heap.size = o at *
      have k0 := HH2.out.cfg.cell 0 (v := .int .i64 P) rfl
      have k1 := HH2.out.cfg.cell 1 (v := .int .i64 T) rfl
      have k2 := HH2.out.cfg.cell 2 (v := .int .i64 G) rfl
      have hTh := rthrAt_all P T G r 1 y2 HP.out.1 HP.out.2.2 (by omega)
      have hWd := fun Y => rws_word Y p sp
      have HAX : Hid (M.ax (emb (.give q)) = some (axSt (wd (20 + P * 264) T 3 r 1) (wkWord p sp))) := by rw [HRQ.out]; exact HE.out.ax (.give q) _ rfl
      have HAX2 : Hid (M.ax (emb (.note q .fresh)) = some (axSt (wd (20 + P * 264) T 3 r 0) 1)) := by rw [HRQ.out]; exact HE.out.ax (.note q .fresh) _ rfl
      have HAc : Hid (∀ Y, Below y2.heap.size y2 Y → _) := fun Y (hY : Below y2.heap.size y2 Y) => syn_store (HH2.out.low hY).run HH2.out.syn HBD.out (wd (20 + P * 264) T 3 r 1) (wkWord p sp) (fun _ => HAX.out)
      have HWk : Hid (∀ {j : Nat} {w : World} {Q : σ → Prop}, RunOn w x A cap m g (M.rj s0 g m j) → Syn M s0 g m j (emb (.note q .fresh)) Q → Calls Tryz.prog 83 #[.pointer (some ⟨x, 0, none⟩), .agg #[.int .i64 P, .int .i64 T, .int .i64 G] , .int .i64 r] w fun e w' => (∃ u, e = .returned u) ∧ RunOn w' x A cap m g (M.rj s0 g m (j + 1)) ∧ Syn M s0 g m (j + 1) (emb (.note q .over)) (fun q' => Q q' ∨ q' = emb (.note q .fresh)) ∧ But [x] w w') := fun hR hS => syn_nwake HAX2.out (fun v => HE.out.nx (.note q .fresh) _ v rfl) HP.out.1 HP.out.2 hR hS HBD.out
      generalize wkWord p sp = ww at *
      generalize wd (20 + P * 264) T 3 r 1 = n1 at *
      go_wp2_with fail
      go_at_call 82; refine hTh.mono ?_; rintro e y5 ⟨rfl, h5⟩
      have hA := HAc.out y5 h5
      have HH5 : Hid _ := HH2.out.low h5
      clear hTh h5 k0 k1 k2 HAc HH2
      go_wp2_with fail
      go_at_call 32; refine (hWd _).mono ?_; rintro e y9 ⟨rfl, rfl⟩
      clear hWd
      go_wp2_with fail
      go_at_call 77; refine hA.mono ?_; rintro e y6 ⟨⟨u, rfl⟩, v6, hK⟩
      have HH6 : Hid (HdAt w y6 x A cap m g M s0 j (j2 + 1) (emb (.note q .fresh)) (WsQ Q emb P T p sp lf p r) #[.int .i64 P, .int .i64 T, .int .i64 G] 50 #[.int .i64 0, .int .i64 0, .bool false] o #[.int .i64 p, .int .i64 r, .bool false]) := by
        have h := HH5.out.step hK
        rw [HE.out.nx (.give q) _ _ rfl] at h
        exact h.as (h.syn.weak (fun q' h' => by
          rcases h' with h' | h'
          · exact .inr ⟨.give q, _, rfl, h', rfl, HRQ.out⟩
          · exact h'))
      clear hA hK HH5
      have sc := HH6.out.stop
      have k0 := HH6.out.cfg.cell 0 (v := .int .i64 P) rfl
      have k1 := HH6.out.cfg.cell 1 (v := .int .i64 T) rfl
      have k2 := HH6.out.cfg.cell 2 (v := .int .i64 G) rfl
      by_cases hst : m < j2 + 1
      · rw [decide_eq_true hst] at sc
        have HST : Hid (m < j2 + 1) := hst
        have hWk := HWk.out HH6.out.run HH6.out.syn
        clear hst
        go_wp2_with fail
        go_at_call 83; refine hWk.mono ?_; rintro e y9 ⟨⟨u9, rfl⟩, hR9, hS9, hB9⟩
        have HH : Hid (HdAt w y9 x A cap m g M s0 j (j2 + 1 + 1) (emb (.note q .over)) (WsQ Q emb P T p sp lf p r) #[.int .i64 P, .int .i64 T, .int .i64 G] 50 #[.int .i64 0, .int .i64 0, .bool false] o #[.int .i64 p, .int .i64 r, .bool false]) := HH6.out.go hR9 ⟨hS9.at', fun h => HH6.out.syn.past HST.out⟩ hB9 (Nat.le_succ _)
        clear hWk hR9 hS9 hB9 sc HH6 k0 k1 k2
        have o0 := HH.out.out.cell 0 (v := .int .i64 p) rfl
        have o1 := HH.out.out.cell 1 (v := .int .i64 r) rfl
        have o2 := HH.out.out.cell 2 (v := .bool false) rfl
        have r0 := HH.out.res.cell 0 (v := .int .i64 0) rfl
        have r1 := HH.out.res.cell 1 (v := .int .i64 0) rfl
        have r2 := HH.out.res.cell 2 (v := .bool false) rfl
        have f0 := HH.out.res.fro 0
        have f1 := HH.out.res.fro 1
        have f2 := HH.out.res.fro 2
        have HN : Hid _ := HH.out.ret (a := .int .i64 p) (b := .int .i64 r) (c := .bool false) rfl
        go_wp2_with fail
        generalize ((y9.setCell ⟨w.heap.size + 1, 0, none⟩ (.int .i64 p)).setCell ⟨w.heap.size + 1, 1, none⟩ (.int .i64 r)).setCell ⟨w.heap.size + 1, 2, none⟩ (.bool false) = yz at *
        have hfr := HN.out.2.2
        refine bodyPost_ret (v := .agg #[.int .i64 p, .int .i64 r, .bool false]) (results_cell_row rfl _ _ (w.heap.size + 1) 50 #[.int .i64 p, .int .i64 r, .bool false] _ _ rfl hfr Tryz.underlying50 rfl (by kernel_rfl)) rfl ?_
        exact ⟨p, r, _, .note q .over, rfl, HN.out.1, HH.out.syn, rfl, fun h => absurd h (by have := HST.out; omega), HN.out.2.1, HH.out.le⟩
      · rw [decide_eq_false hst] at sc
        have HST : Hid (j2 + 1 ≤ m) := (by omega : j2 + 1 ≤ m)
        have HS6 : Hid (Syn M s0 g m (j2 + 1) (emb (.note q .fresh)) (fun _ => False)) := ⟨HH6.out.syn.at', fun h => absurd h (by have := HST.out; omega)⟩
        have HH7 : Hid (HdAt w (y6.setCell ⟨o, 0, none⟩ (.int .i64 (-1))) x A cap m g M s0 j (j2 + 1) (emb (.note q .fresh)) (fun _ => False) #[.int .i64 P, .int .i64 T, .int .i64 G] 50 #[.int .i64 0, .int .i64 0, .bool false] o #[.int .i64 (-1), .int .i64 r, .bool false]) := (HH6.out.as HS6.out).set 0 (.int .i64 (-1))
        have hWk := HWk.out HH7.out.run HH7.out.syn
        have o0 := HH6.out.out.cell 0 (v := .int .i64 p) rfl
        have f0 := HH6.out.out.fro 0
        have hne : o ≠ w.heap.size := by have := HH6.out.lo; omega
        have k0' := HH7.out.cfg.cell 0 (v := .int .i64 P) rfl
        have k1' := HH7.out.cfg.cell 1 (v := .int .i64 T) rfl
        have k2' := HH7.out.cfg.cell 2 (v := .int .i64 G) rfl
        clear hst
        go_wp2_with fail
        clear o0 f0 k0 k1 k2 k0' k1' k2'
        generalize y6.setCell ⟨o, 0, none⟩ (.int .i64 (-1)) = V at *
        go_at_call 83; refine hWk.mono ?_; rintro e y9 ⟨⟨u9, rfl⟩, hR9, hS9, hB9⟩
        have HH : Hid (HdAt w y9 x A cap m g M s0 j (j2 + 1 + 1) (emb (.note q .over)) (WsQ Q emb P T p sp lf (-1) r) #[.int .i64 P, .int .i64 T, .int .i64 G] 50 #[.int .i64 0, .int .i64 0, .bool false] o #[.int .i64 (-1), .int .i64 r, .bool false]) := HH7.out.go hR9 (hS9.weak (fun q' h => by
          rcases h with h | h
          · exact h.elim
          · exact .inr ⟨.note q .fresh, _, rfl, h, rfl, HRQ.out⟩)) hB9 (Nat.le_succ _)
        clear hWk hR9 hS9 hB9 sc HH6 HH7 HS6
        have o0 := HH.out.out.cell 0 (v := .int .i64 (-1)) rfl
        have o1 := HH.out.out.cell 1 (v := .int .i64 r) rfl
        have o2 := HH.out.out.cell 2 (v := .bool false) rfl
        have r0 := HH.out.res.cell 0 (v := .int .i64 0) rfl
        have r1 := HH.out.res.cell 1 (v := .int .i64 0) rfl
        have r2 := HH.out.res.cell 2 (v := .bool false) rfl
        have f0 := HH.out.res.fro 0
        have f1 := HH.out.res.fro 1
        have f2 := HH.out.res.fro 2
        have HN : Hid _ := HH.out.ret (a := .int .i64 (-1)) (b := .int .i64 r) (c := .bool false) rfl
        go_wp2_with fail
        generalize ((y9.setCell ⟨w.heap.size + 1, 0, none⟩ (.int .i64 (-1))).setCell ⟨w.heap.size + 1, 1, none⟩ (.int .i64 r)).setCell ⟨w.heap.size + 1, 2, none⟩ (.bool false) = yz at *
        have hfr := HN.out.2.2
        refine bodyPost_ret (v := .agg #[.int .i64 (-1), .int .i64 r, .bool false]) (results_cell_row rfl _ _ (w.heap.size + 1) 50 #[.int .i64 (-1), .int .i64 r, .bool false] _ _ rfl hfr Tryz.underlying50 rfl (by kernel_rfl)) rfl ?_
        exact ⟨-1, r, _, .note q .over, rfl, HN.out.1, HH.out.syn, rfl, fun _ => ⟨rfl, HRQ.out⟩, HN.out.2.1, HH.out.le⟩
end Go.Proofs.YthbgoakaijeemaaGreat
