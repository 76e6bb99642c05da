/- The reference's routine that puts a thread on the list. -/
import Derived.Test.YthbgoakaijeemaaGreatLkFl
import Derived.Test.YthbgoakaijeemaaGreatIl0
import Derived.Test.YthbgoakaijeemaaGreatIm1
namespace Go.Proofs.YthbgoakaijeemaaGreat
open Go Go.RowKit
set_option linter.unusedVariables false
set_option maxRecDepth 100000
set_option linter.unusedSimpArgs false

theorem But.lowk {w w1 w2 : World} {x k : Nat} (h : But [x] w w1) (h2 : But [k] w1 w2) (hk : w.heap.size ≤ k) : But [x] w w2 :=
  ⟨h2.os.trans h.os, h2.tape.trans h.tape, h2.output.trans h.output, Nat.le_trans h.size h2.size, fun i hi hc => (h2.block i (Nat.lt_of_lt_of_le hi h.size) (by simp; omega)).trans (h.block i hi hc)⟩
/-- Behind j accesses: the run, the config, the result's block, and the hand's. -/
structure HdAt {σ : Type} (w y : World) (x : Nat) (A : Option Addr) (cap m : Nat) (g : Nat → Int) (M : PM σ) (s0 : σ) (j0 j : Nat) (t : σ) (Q : σ → Prop) (cf : Array Value) (HT : TypeId) (z : Array Value) (o : Nat) (oc : Array Value) : Prop where
  run : RunOn y x A cap m g (M.rj s0 g m j)
  syn : Syn M s0 g m j t Q
  but : But [x] w y
  cfg : Blk y w.heap.size cf 23
  res : Blk y (w.heap.size + 1) z HT
  out : Blk y o oc HT
  lo : w.heap.size + 1 < o
  x : x < w.heap.size
  far : GotFar A [w.heap.size + 1, o]
  le : j0 ≤ j
section
variable {σ : Type} {w y : World} {x : Nat} {A : Option Addr} {cap m : Nat} {g : Nat → Int} {M : PM σ} {s0 : σ} {j0 j : Nat} {t : σ} {Q : σ → Prop} {cf : Array Value} {HT : TypeId} {z : Array Value} {o : Nat} {oc : Array Value} (h : HdAt w y x A cap m g M s0 j0 j t Q cf HT z o oc)
include h
theorem HdAt.go {y2 : World} {j2 : Nat} {t2 : σ} {Q2 : σ → Prop} (hR : RunOn y2 x A cap m g (M.rj s0 g m j2)) (hS : Syn M s0 g m j2 t2 Q2) (hB : But [x] y y2) (hj : j ≤ j2) : HdAt w y2 x A cap m g M s0 j0 j2 t2 Q2 cf HT z o oc := by
  have hx := h.x
  have hl := h.lo
  exact ⟨hR, hS, h.but.trans hB, h.cfg.but hB (by simp; omega), h.res.but hB (by simp; omega), h.out.but hB (by simp; omega), hl, hx, h.far, Nat.le_trans h.le hj⟩
theorem HdAt.low {Y : World} (hY : Below y.heap.size y Y) : HdAt w Y x A cap m g M s0 j0 j t Q cf HT z o oc :=
  ⟨h.run.below hY, h.syn, h.but.trans (But.of_below hY), h.cfg.but (But.of_below (l := []) hY) (by simp), h.res.but (But.of_below (l := []) hY) (by simp), h.out.but (But.of_below (l := []) hY) (by simp), h.lo, h.x, h.far, h.le⟩
theorem HdAt.as {t2 : σ} {Q2 : σ → Prop} (hS : Syn M s0 g m j t2 Q2) : HdAt w y x A cap m g M s0 j0 j t2 Q2 cf HT z o oc :=
  ⟨h.run, hS, h.but, h.cfg, h.res, h.out, h.lo, h.x, h.far, h.le⟩
theorem HdAt.set (i : Nat) (v : Value) : HdAt w (y.setCell ⟨o, i, none⟩ v) x A cap m g M s0 j0 j t Q cf HT z o (oc.setIfInBounds i v) := by
  have hx := h.x
  have hl := h.lo
  have hU : But [o] y (y.setCell ⟨o, i, none⟩ v) := (But.refl _ y).set (g := o) (.inl (by simp)) i _
  exact ⟨h.run.but hU (by simp; omega) (h.far.of (by intro k hk; simp at hk ⊢; omega)), h.syn, But.lowk h.but hU (by omega), h.cfg.but hU (by simp; omega), h.res.but hU (by simp; omega), h.out.set i v, hl, hx, h.far, h.le⟩
/-- An access: what is so behind it. -/
theorem HdAt.step {y2 : World} {v : Int} (hK : Kept' y y2 x A cap m g M s0 j t Q v) : HdAt w y2 x A cap m g M s0 j0 (j + 1) (M.nx t v) (fun r => r = t ∨ Q r) cf HT z o oc :=
  h.go hK.run hK.syn hK.but (Nat.le_succ _)
theorem HdAt.stop : y.cell? ⟨x, 2, none⟩ = some (.bool (decide (m < j))) := by
  have := h.run.blk.cell 2 (v := .bool (M.rj s0 g m j).stop) rfl
  rw [rj_stop h.syn] at this
  exact this
/-- The result is laid. -/
theorem HdAt.ret {a b c : Value} {z0 z1 z2 : Value} (hz : z = #[z0, z1, z2]) : RunOn (((y.setCell ⟨w.heap.size + 1, 0, none⟩ a).setCell ⟨w.heap.size + 1, 1, none⟩ b).setCell ⟨w.heap.size + 1, 2, none⟩ c) x A cap m g (M.rj s0 g m j) ∧ But [x] w (((y.setCell ⟨w.heap.size + 1, 0, none⟩ a).setCell ⟨w.heap.size + 1, 1, none⟩ b).setCell ⟨w.heap.size + 1, 2, none⟩ c) ∧ (((y.setCell ⟨w.heap.size + 1, 0, none⟩ a).setCell ⟨w.heap.size + 1, 1, none⟩ b).setCell ⟨w.heap.size + 1, 2, none⟩ c).heap[w.heap.size + 1]? = some (.cells #[a, b, c] HT (0, 0)) := by
  subst hz
  have hx := h.x
  have hU : But [w.heap.size + 1] y (((y.setCell ⟨w.heap.size + 1, 0, none⟩ a).setCell ⟨w.heap.size + 1, 1, none⟩ b).setCell ⟨w.heap.size + 1, 2, none⟩ c) := (((But.refl _ y).set (g := w.heap.size + 1) (.inl (by simp)) 0 _).set (g := w.heap.size + 1) (.inl (by simp)) 1 _).set (g := w.heap.size + 1) (.inl (by simp)) 2 _
  have hZ := ((h.res.set 0 a).set 1 b).set 2 c
  exact ⟨h.run.but hU (by simp; omega) (h.far.of (by intro k hk; simp at hk ⊢; omega)), But.lowk h.but hU (by omega), hZ.heap⟩
end
end Go.Proofs.YthbgoakaijeemaaGreat

namespace Go.Proofs.YthbgoakaijeemaaGreat
open Go Go.RowKit
set_option linter.unusedVariables false
set_option maxRecDepth 100000
set_option linter.unusedSimpArgs false

theorem rbit_any (p : Int) (w : World) : Calls Tryz.prog 137 #[.int .i64 p] w fun e w' => e = .returned (.int .u64 (bitOf p)) ∧ w = w' := by
  by_cases h0 : p < 0
  · have e : bitOf p = 0 := by unfold bitOf; rw [if_neg (by omega)]
    rw [e]
    go_enter Tryz.func137, Tryz.ntmps137
    go_wp2_with fail
    go_ret
    exact ⟨rfl, rfl⟩
  · have d0 : decide (p < 0) = false := decide_eq_false h0
    by_cases h1 : 63 < p
    · have e : bitOf p = 0 := by unfold bitOf; rw [if_neg (by omega)]
      rw [e]
      clear h0
      go_enter Tryz.func137, Tryz.ntmps137
      go_wp2_with fail
      go_ret
      exact ⟨rfl, rfl⟩
    · have d1 : decide (63 < p) = false := decide_eq_false h1
      obtain ⟨n, rfl⟩ : ∃ n : Nat, p = n := ⟨p.toNat, by omega⟩
      have e : bitOf (n : Int) = ((2 ^ n : Nat) : Int) := by unfold bitOf; rw [if_pos (by omega)]; rfl
      have HN : Hid (n ≤ 63) := (by omega : n ≤ 63)
      rw [e]
      clear h0 h1 e
      go_enter Tryz.func137, Tryz.ntmps137
      go_wp2_with fail
      go_loopw [3, 4] (fun o i wr => ∃ k z : Nat, k ≤ n ∧ o = .int .u64 (z : Int) ∧ i = .int .i64 k ∧ wr = w ∧ Hid (z = 2 ^ k)) (fun _ i _ => n - (intOf i).toNat)
      case atStart => exact ⟨0, 1, Nat.zero_le _, rfl, rfl, rfl, rfl⟩
      case round =>
        obtain ⟨k, z, hk, rfl, rfl, rfl, HZ⟩ := hrel
        have hn63 := HN.out
        by_cases hlt : k < n
        · have hz : z ≤ 2 ^ 62 := by rw [HZ.out]; exact Nat.pow_le_pow_right (by omega) (by omega)
          have e2 : IntKind.u64.wrap (2 * (z : Int)) = ((2 * z : Nat) : Int) := by rw [wrap_u64 (by omega)]; omega
          have HZ2 : Hid (2 * z = 2 ^ (k + 1)) := (by rw [Nat.pow_succ, HZ.out]; omega : 2 * z = 2 ^ (k + 1))
          generalize 2 * z = z' at *
          have hk1 : (k : Int) < (n : Int) := by omega
          clear hz
          go_wp2_with fail
          go_roundw
          case rel => exact ⟨k + 1, z', by omega, rfl, by go_num, trivial, HZ2⟩
          case measure => simp [intOf]; omega
        · obtain rfl : k = n := by omega
          have hgd : decide ((k : Int) < (k : Int)) = false := by simp
          go_wp2_with fail
          go_ret
          rw [← HZ.out]
          exact ⟨rfl, rfl⟩
theorem rmasked_any (v p : Int) (w : World) (hv : 0 ≤ v ∧ v ≤ 18446744073709551615) : Calls Tryz.prog 136 #[.int .u64 v, .int .i64 p] w fun e w' => e = .returned (.bool (mskB v p)) ∧ w = w' := by
  have hB := fun W => rbit_any p W
  have hbd := bitOf_bd p
  unfold mskB
  by_cases h0 : bitOf p = 0
  · rw [h0] at hB ⊢
    clear h0 hbd
    go_enter Tryz.func136, Tryz.ntmps136
    go_wp2_with fail
    go_at_call 137; refine (hB _).mono ?_; rintro e w1 ⟨rfl, rfl⟩
    go_wp2_with fail
    go_ret
    exact ⟨rfl, rfl⟩
  · rw [decide_eq_true h0, Bool.true_and]
    have t1 : v.tdiv (bitOf p) = v / bitOf p := Int.tdiv_eq_ediv_of_nonneg hv.1
    have hq : 0 ≤ v / bitOf p := Int.ediv_nonneg hv.1 hbd.1
    have hq2 : v / bitOf p ≤ v := Int.ediv_le_self _ hv.1
    have t2 : (v / bitOf p).tmod 2 = v / bitOf p % 2 := Int.tmod_eq_emod_of_nonneg hq
    have t3 : IntKind.u64.wrap (v / bitOf p) = v / bitOf p := wrap_u64 (by omega)
    have t4 : IntKind.u64.wrap (v / bitOf p % 2) = v / bitOf p % 2 := wrap_u64 (by omega)
    have hd0 : (bitOf p == 0) = false := by simpa using h0
    generalize v / bitOf p = q at *
    generalize bitOf p = b at *
    have hr : 0 ≤ q % 2 := by omega
    generalize q % 2 = r at *
    have HH0 : Hid (b ≠ 0) := h0
    clear hbd hq hq2
    go_enter Tryz.func136, Tryz.ntmps136
    go_wp2_with fail
    go_at_call 137; refine (hB _).mono ?_; rintro e w1 ⟨rfl, rfl⟩
    go_wp2_with fail
    go_at_call 137; refine (hB _).mono ?_; rintro e w1 ⟨rfl, rfl⟩
    go_wp2_with fail
    go_ret
    have hb0 : (b != 0) = true := by simpa using HH0.out
    rw [← Bool.true_and (decide (r = 1)), ← hb0]
    exact ⟨rfl, rfl⟩
end Go.Proofs.YthbgoakaijeemaaGreat

namespace Go.Proofs.YthbgoakaijeemaaGreat
open Go Go.RowKit
set_option linter.unusedVariables false
set_option maxRecDepth 100000
set_option linter.unusedSimpArgs false

set_option maxHeartbeats 4000000 in
theorem rgmput_on (w : World) (x : Nat) (A : Option Addr) (cap m : Nat) (g : Nat → Int) (P T G t : Int) (u : ImT) (hR : RunOn w x A cap m g rn0) (hh : Hist (imPM P T t) .h0 g m u) (hp : 0 ≤ P ∧ P ≤ 64) (hT : 0 ≤ T ∧ T ≤ 65536) :
    Calls Tryz.prog 115 #[.pointer (some ⟨x, 0, none⟩), .agg #[.int .i64 P, .int .i64 T, .int .i64 G], .int .i64 t] w fun e w' => (∃ v, e = .returned v) ∧ RunOn w' x A cap m g ((imPM P T t).rn u m) ∧ But [x] w w' := by
  obtain ⟨M, hM⟩ : ∃ M, M = imPM P T t := ⟨_, rfl⟩
  obtain ⟨s0, hs0⟩ : ∃ s0, s0 = ImT.h0 := ⟨_, rfl⟩
  rw [← rj_start (M := imPM P T t) (s0 := ImT.h0) (g := g) (m := m)] at hR
  have HH : Hid (Hist (imPM P T t) .h0 g m u) := hh
  have hS : Syn (imPM P T t) .h0 g m 0 .h0 (fun _ => False) := Syn.start _ _ _ _
  have hb := hh.bd
  have hb0 : Below w.heap.size w (w.alloc (.cells #[.int .i64 P, .int .i64 T, .int .i64 G] 23)) := (Below.refl _ _).alloc (Nat.le_refl _) _
  have HX : Hid (Blk (w.alloc (.cells #[.int .i64 P, .int .i64 T, .int .i64 G] 23)) w.heap.size #[.int .i64 P, .int .i64 T, .int .i64 G] 23) := Blk.new _ _ _
  have hxw := hR.blk.lt
  have HB0 : Hid (But [x] w (w.alloc (.cells #[.int .i64 P, .int .i64 T, .int .i64 G] 23))) := But.of_below hb0
  have HBD : Hid (∀ j, j < m → 0 ≤ g j ∧ g j ≤ 18446744073709551615) := hb
  have hPA := fun W => rthrAt_all P T G t 2 W hp hT.2 (by omega)
  have hL := syn_load (hR.below hb0) hS hb 11 (fun _ => rfl)
  clear hR hS hb hb0 hp hT hh hM hs0 M s0
  go_enter Tryz.func115, Tryz.ntmps115
  go_wp2_with fail
  generalize w.alloc (.cells #[.int .i64 P, .int .i64 T, .int .i64 G] 23) = W at *
  go_at_call 94; refine hL.mono ?_; rintro e y2 ⟨v, rfl, hK⟩
  have HR2 : Hid (RunOn y2 x A cap m g ((imPM P T t).rj .h0 g m 1)) := hK.run
  have HS2 : Hid (Syn (imPM P T t) .h0 g m 1 (.ln v) (fun _ => True)) := hK.syn.weak (fun _ _ => trivial)
  have HX2 : Hid (Blk y2 w.heap.size #[.int .i64 P, .int .i64 T, .int .i64 G] 23) := HX.out.but hK.but (by simp; omega)
  have HB2 : Hid (But [x] w y2) := HB0.out.trans hK.but
  have k0 := HX2.out.cell 0 (v := .int .i64 P) rfl
  have k1 := HX2.out.cell 1 (v := .int .i64 T) rfl
  have k2 := HX2.out.cell 2 (v := .int .i64 G) rfl
  have hPl := hPA y2
  clear hL hK HX HB0 hPA
  go_wp2_with fail
  go_at_call 82; refine hPl.mono ?_; rintro e y3 ⟨rfl, h5⟩
  have hA := syn_store (HR2.out.below h5) HS2.out HBD.out (wd (20 + P * 264) T 3 t 2) v (fun _ => rfl)
  have HB3 : Hid (But [x] w y3) := HB2.out.trans (But.of_below h5)
  clear hPl h5 k0 k1 k2 HX2 HB2 HR2 HS2
  go_wp2_with fail
  go_at_call 77; refine hA.mono ?_; rintro e y4 ⟨⟨u4, rfl⟩, v4, hK⟩
  have hlw : IntKind.u64.wrap (IntKind.u64.wrap t + 1) = ilw t := rfl
  have hA4 := syn_store hK.run (hK.syn.weak (Q' := fun _ => True) (fun _ _ => trivial)) HBD.out 11 (ilw t) (fun _ => rfl)
  have HB4 : Hid (But [x] w y4) := HB3.out.trans hK.but
  have HLW : Hid (ilw t = ilw t) := rfl
  generalize hlt : ilw t = lp at hlw hA4
  clear hA hK HB3
  go_wp2_with fail
  go_at_call 77; refine hA4.mono ?_; rintro e y5 ⟨⟨u5, rfl⟩, v5, hK⟩
  have hA5 := syn_add hK.run (hK.syn.weak (Q' := fun _ => True) (fun _ _ => trivial)) HBD.out 12 1 (fun _ => rfl)
  have HB5 : Hid (But [x] w y5) := HB4.out.trans hK.but
  clear hA4 hK HB4 hlw
  go_wp2_with fail
  go_at_call 78; refine hA5.mono ?_; rintro e y6 ⟨v6, rfl, hK⟩
  have HF : Hid (RunOn y6 x A cap m g ((imPM P T t).rn u m) ∧ But [x] w y6) := by
    refine ⟨?_, HB5.out.trans hK.but⟩
    rw [← rj_end hK.syn HH.out (fun _ => rfl)]
    exact hK.run
  clear hA5 hK HB5
  go_wp2_with fail
  go_end0
  exact ⟨⟨_, rfl⟩, HF.out⟩
end Go.Proofs.YthbgoakaijeemaaGreat
