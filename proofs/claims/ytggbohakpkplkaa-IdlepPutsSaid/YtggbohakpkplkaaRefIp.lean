/- The reference's routine that puts a processor on the list keeps step with any machine that has it within it. -/
import Derived.Test.YtggbohakpkplkaaRefIb
import Derived.Test.YtggbohakpkplkaaIp1
namespace Go.Proofs.Ytggbohakpkplkaa
open Go Go.RowKit
set_option linter.unusedVariables false
set_option maxRecDepth 100000
set_option linter.unusedSimpArgs false

structure IpIn {σ : Type} (M : PM σ) (P p : Int) (emb : IpT → σ) : Prop where
  m0 : M.ax (emb .m0) = some (axLd 19)
  ms : ∀ w, M.ax (emb (.ms w)) = some (axSt 19 (mskIn w p))
  h0 : M.ax (emb .h0) = some (axLd 9)
  ln : ∀ h, M.ax (emb (.ln h)) = some (axSt (wd 20 P 264 p 7) h)
  st : M.ax (emb .st) = some (axSt 9 (ilw p))
  ct : M.ax (emb .ct) = some (axAd 10 1)
  n1 : ∀ v, M.nx (emb .m0) v = emb (.ms v)
  n2 : ∀ w v, M.nx (emb (.ms w)) v = emb .h0
  n3 : ∀ v, M.nx (emb .h0) v = emb (.ln v)
  n4 : ∀ h v, M.nx (emb (.ln h)) v = emb .st
  n5 : ∀ v, M.nx (emb .st) v = emb .ct
  n6 : ∀ v, M.nx (emb .ct) v = emb .over
/-- Where a put stopped, and what it answered. -/
def IpQ {σ : Type} (Q : σ → Prop) (emb : IpT → σ) (p r : Int) (q : σ) : Prop := (Q q ∧ r = p) ∨ ∃ p', p' ≠ IpT.over ∧ q = emb p' ∧ r = p'.obs p
theorem ip_in (P p : Int) : IpIn (ipPM P p) P p (fun t => t) := ⟨rfl, fun _ => rfl, rfl, fun _ => rfl, rfl, rfl, fun _ => rfl, fun _ _ => rfl, fun _ => rfl, fun _ _ => rfl, fun _ => rfl, fun _ => rfl⟩

set_option maxHeartbeats 4000000 in
theorem syn_iput {σ : Type} {M : PM σ} {P T G p : Int} {emb : IpT → σ} (hE : IpIn M P p emb) (hp : 0 ≤ P ∧ P ≤ 64)
    {w : World} {x : Nat} {A : Option Addr} {cap m : Nat} {g : Nat → Int} {s0 : σ} {j : Nat} {Q : σ → Prop} (hR : RunOn w x A cap m g (M.rj s0 g m j)) (hS : Syn M s0 g m j (emb .m0) Q) (hb : ∀ j, j < m → 0 ≤ g j ∧ g j ≤ 18446744073709551615) :
    Calls Try.prog 14 #[.pointer (some ⟨x, 0, none⟩), .agg #[.int .i64 P, .int .i64 T, .int .i64 G], .int .i64 p] w fun e w' => ∃ r j', e = .returned (.int .i64 r) ∧ RunOn w' x A cap m g (M.rj s0 g m j') ∧ Syn M s0 g m j' (emb .over) (IpQ Q emb p r) ∧ (j' ≤ m → r = -1) ∧ But [x] w w' ∧ j ≤ j' := by
  have hb0 : Below w.heap.size w (w.alloc (.cells #[.int .i64 P, .int .i64 T, .int .i64 G] 23)) := (Below.refl _ _).alloc (Nat.le_refl _) _
  have HX : Hid (Blk (w.alloc (.cells #[.int .i64 P, .int .i64 T, .int .i64 G] 23)) w.heap.size #[.int .i64 P, .int .i64 T, .int .i64 G] 23) := Blk.new _ _ _
  have hxw := hR.blk.lt
  have HB0 : Hid (But [x] w (w.alloc (.cells #[.int .i64 P, .int .i64 T, .int .i64 G] 23))) := But.of_below hb0
  have HE : Hid (IpIn M P p emb) := hE
  have HBD : Hid (∀ j, j < m → 0 ≤ g j ∧ g j ≤ 18446744073709551615) := hb
  have hPA := fun W => rprcAt_all P T G p 7 W hp.2 (by omega)
  have hL := syn_load (hR.below hb0) hS hb 19 (fun _ => hE.m0)
  clear hR hS hE hb hb0 hp
  go_enter Try.func14, Try.ntmps14
  go_wp2_with fail
  generalize w.alloc (.cells #[.int .i64 P, .int .i64 T, .int .i64 G] 23) = W at *
  go_at_call 63; refine hL.mono ?_; rintro e y2 ⟨v, rfl, hK⟩
  have HR2 : Hid (RunOn y2 x A cap m g (M.rj s0 g m (j + 1))) := hK.run
  have hvb := hK.bd
  have HS2 : Hid (Syn M s0 g m (j + 1) (emb (.ms v)) (fun q => Q q ∨ ∃ p', p' ≠ IpT.over ∧ q = emb p' ∧ p'.obs p = p)) := by
    have := hK.syn
    rw [HE.out.n1] at this
    exact this.weak (fun r hr => by rcases hr with rfl | hr; exact .inr ⟨.m0, (fun h => by cases h), rfl, rfl⟩; exact .inl hr)
  have HX2 : Hid (Blk y2 w.heap.size #[.int .i64 P, .int .i64 T, .int .i64 G] 23) := HX.out.but hK.but (by simp; omega)
  have HB2 : Hid (But [x] w y2) := HB0.out.trans hK.but
  have hMk := rmasked_any v p y2 hvb
  have hBt := rbit_any p y2
  have hor := or_bit v p hvb
  have hSt2 := syn_store HR2.out HS2.out HBD.out 19 (mskIn v p) (fun _ => HE.out.ms v)
  clear hL hK HX HB0
  cases hmb : mskB v p
  · rw [hmb] at hMk
    have hmv : mskIn v p = v + bitOf p := by unfold mskIn; rw [hmb]; rfl
    have hwv : IntKind.u64.wrap (v + bitOf p) = mskIn v p := by rw [← hmv]; exact wrap_u64 (by omega)
    have HIN : Hid (True) := trivial
    clear hmb hor hmv
    generalize mskIn v p = mv at *
    generalize bitOf p = bp at *
    go_wp2_with fail
    go_at_call 33; refine hMk.mono ?_; rintro e w1 ⟨rfl, rfl⟩
    go_wp2_with fail
    go_at_call 31; refine hBt.mono ?_; rintro e w1 ⟨rfl, rfl⟩
    clear hMk hBt
    go_wp2_with fail
    go_at_call 64; refine hSt2.mono ?_; rintro e y3 ⟨⟨u3, rfl⟩, v3, hK⟩
    have HS3 : Hid (Syn M s0 g m (j + 1 + 1) (emb .h0) (fun q => Q q ∨ ∃ p', p' ≠ IpT.over ∧ q = emb p' ∧ p'.obs p = p)) := by
      have := hK.syn
      rw [HE.out.n2] at this
      exact this.weak (fun r hr => by rcases hr with rfl | hr; exact .inr ⟨.ms v, (fun h => by cases h), rfl, rfl⟩; exact hr)
    have HX3 : Hid (Blk y3 w.heap.size #[.int .i64 P, .int .i64 T, .int .i64 G] 23) := HX2.out.but hK.but (by simp; omega)
    have HB3 : Hid (But [x] w y3) := HB2.out.trans hK.but
    have hL3 := syn_load hK.run HS3.out HBD.out 9 (fun _ => HE.out.h0)
    clear hSt2 hK HX2 HB2 HS2 HR2
    go_wp2_with fail
    go_at_call 63; refine hL3.mono ?_; rintro e y4 ⟨h, rfl, hK⟩
    have HR4 : Hid (RunOn y4 x A cap m g (M.rj s0 g m (j + 1 + 1 + 1))) := hK.run
    have HS4 : Hid (Syn M s0 g m (j + 1 + 1 + 1) (emb (.ln h)) (fun q => Q q ∨ ∃ p', p' ≠ IpT.over ∧ q = emb p' ∧ p'.obs p = p)) := by
      have := hK.syn
      rw [HE.out.n3] at this
      exact this.weak (fun r hr => by rcases hr with rfl | hr; exact .inr ⟨.h0, (fun h => by cases h), rfl, rfl⟩; exact hr)
    have HX4 : Hid (Blk y4 w.heap.size #[.int .i64 P, .int .i64 T, .int .i64 G] 23) := HX3.out.but hK.but (by simp; omega)
    have HB4 : Hid (But [x] w y4) := HB3.out.trans hK.but
    have k0 := HX4.out.cell 0 (v := .int .i64 P) rfl
    have k1 := HX4.out.cell 1 (v := .int .i64 T) rfl
    have k2 := HX4.out.cell 2 (v := .int .i64 G) rfl
    have hPA4 := hPA y4
    have HSt4 : Hid (∀ Y, Below y4.heap.size y4 Y → _) := fun Y (hY : Below y4.heap.size y4 Y) => syn_store (HR4.out.below hY) HS4.out HBD.out (wd 20 P 264 p 7) h (fun _ => HE.out.ln h)
    clear hL3 hK HX3 HB3 HS3 hPA
    go_wp2_with fail
    go_at_call 65; refine hPA4.mono ?_; rintro e y5 ⟨rfl, h5⟩
    have hSt4 := HSt4.out y5 h5
    have HB5 : Hid (But [x] w y5) := HB4.out.trans (But.of_below h5)
    clear hPA4 h5 k0 k1 k2 HX4 HB4 HSt4 HR4
    go_wp2_with fail
    go_at_call 64; refine hSt4.mono ?_; rintro e y6 ⟨⟨u6, rfl⟩, v6, hK⟩
    have HS6 : Hid (Syn M s0 g m (j + 1 + 1 + 1 + 1) (emb .st) (fun q => Q q ∨ ∃ p', p' ≠ IpT.over ∧ q = emb p' ∧ p'.obs p = p)) := by
      have := hK.syn
      rw [HE.out.n4] at this
      exact this.weak (fun r hr => by rcases hr with rfl | hr; exact .inr ⟨.ln h, (fun h => by cases h), rfl, rfl⟩; exact hr)
    have HB6 : Hid (But [x] w y6) := HB5.out.trans hK.but
    have hSt6 := syn_store hK.run HS6.out HBD.out 9 (ilw p) (fun _ => HE.out.st)
    have hlw : IntKind.u64.wrap (IntKind.u64.wrap p + 1) = ilw p := rfl
    generalize ilw p = lp at *
    clear hSt4 hK HB5 HS4
    go_wp2_with fail
    go_at_call 64; refine hSt6.mono ?_; rintro e y7 ⟨⟨u7, rfl⟩, v7, hK⟩
    have HR7 : Hid (RunOn y7 x A cap m g (M.rj s0 g m (j + 1 + 1 + 1 + 1 + 1))) := hK.run
    have HS7 : Hid (Syn M s0 g m (j + 1 + 1 + 1 + 1 + 1) (emb .ct) (fun q => Q q ∨ ∃ p', p' ≠ IpT.over ∧ q = emb p' ∧ p'.obs p = p)) := by
      have := hK.syn
      rw [HE.out.n5] at this
      exact this.weak (fun r hr => by rcases hr with rfl | hr; exact .inr ⟨.st, (fun h => by cases h), rfl, rfl⟩; exact hr)
    have HB7 : Hid (But [x] w y7) := HB6.out.trans hK.but
    have hA7 := syn_add hK.run HS7.out HBD.out 10 1 (fun _ => HE.out.ct)
    have sc := HR7.out.blk.cell 2 (v := .bool (M.rj s0 g m (j + 1 + 1 + 1 + 1 + 1)).stop) rfl
    rw [rj_stop HS7.out] at sc
    clear hSt6 hK HB6 HS6 hlw
    by_cases hst : m < j + 1 + 1 + 1 + 1 + 1
    · have HST : Hid (m < j + 1 + 1 + 1 + 1 + 1) := hst
      have HPAST : Hid (IpQ Q emb p p (M.run s0 g m)) := by
        rcases (HS7.out.past hst).1 with hq | ⟨p', h1, h2, h3⟩
        · exact .inl ⟨hq, rfl⟩
        · exact .inr ⟨p', h1, h2, h3.symm⟩
      rw [decide_eq_true hst] at sc
      clear hst
      go_wp2_with fail
      go_at_call 66; refine hA7.mono ?_; rintro e y8 ⟨v8, rfl, hK⟩
      have HF : Hid (RunOn y8 x A cap m g (M.rj s0 g m (j + 1 + 1 + 1 + 1 + 1 + 1)) ∧ Syn M s0 g m (j + 1 + 1 + 1 + 1 + 1 + 1) (emb .over) (IpQ Q emb p p) ∧ But [x] w y8) := by
        exact ⟨hK.run, ⟨fun h => absurd h (by have := HST.out; omega), fun h => ⟨HPAST.out, (HS7.out.past HST.out).2⟩⟩, HB7.out.trans hK.but⟩
      clear hA7 hK sc
      go_wp2_with fail
      go_ret
      exact ⟨p, j + 1 + 1 + 1 + 1 + 1 + 1, rfl, HF.out.1, HF.out.2.1, fun h => absurd h (by have := HST.out; omega), HF.out.2.2, by omega⟩
    · have HST : Hid (j + 1 + 1 + 1 + 1 + 1 ≤ m) := (by omega : j + 1 + 1 + 1 + 1 + 1 ≤ m)
      rw [decide_eq_false hst] at sc
      clear hst
      go_wp2_with fail
      go_at_call 66; refine hA7.mono ?_; rintro e y8 ⟨v8, rfl, hK⟩
      have HF : Hid (RunOn y8 x A cap m g (M.rj s0 g m (j + 1 + 1 + 1 + 1 + 1 + 1)) ∧ Syn M s0 g m (j + 1 + 1 + 1 + 1 + 1 + 1) (emb .over) (IpQ Q emb p (-1)) ∧ But [x] w y8) := by
        have := hK.syn
        rw [HE.out.n6] at this
        refine ⟨hK.run, ⟨this.at', fun h => ⟨?_, (this.past h).2⟩⟩, HB7.out.trans hK.but⟩
        have hm : m = j + 1 + 1 + 1 + 1 + 1 := by have := HST.out; omega
        have h2 := HS7.out.at' HST.out
        rw [← hm] at h2
        exact .inr ⟨.ct, (fun h => by cases h), h2, rfl⟩
      clear hA7 hK sc
      go_wp2_with fail
      go_ret
      exact ⟨-1, j + 1 + 1 + 1 + 1 + 1 + 1, rfl, HF.out.1, HF.out.2.1, fun _ => rfl, HF.out.2.2, by omega⟩
  · rw [hmb] at hMk
    have hmv : mskIn v p = v := by unfold mskIn; rw [hmb]; rfl
    rw [hmv] at hSt2
    clear hmb hor hmv hBt
    go_wp2_with fail
    go_at_call 33; refine hMk.mono ?_; rintro e w1 ⟨rfl, rfl⟩
    clear hMk
    go_wp2_with fail
    go_at_call 64; refine hSt2.mono ?_; rintro e y3 ⟨⟨u3, rfl⟩, v3, hK⟩
    have HS3 : Hid (Syn M s0 g m (j + 1 + 1) (emb .h0) (fun q => Q q ∨ ∃ p', p' ≠ IpT.over ∧ q = emb p' ∧ p'.obs p = p)) := by
      have := hK.syn
      rw [HE.out.n2] at this
      exact this.weak (fun r hr => by rcases hr with rfl | hr; exact .inr ⟨.ms v, (fun h => by cases h), rfl, rfl⟩; exact hr)
    have HX3 : Hid (Blk y3 w.heap.size #[.int .i64 P, .int .i64 T, .int .i64 G] 23) := HX2.out.but hK.but (by simp; omega)
    have HB3 : Hid (But [x] w y3) := HB2.out.trans hK.but
    have hL3 := syn_load hK.run HS3.out HBD.out 9 (fun _ => HE.out.h0)
    clear hSt2 hK HX2 HB2 HS2 HR2
    go_wp2_with fail
    go_at_call 63; refine hL3.mono ?_; rintro e y4 ⟨h, rfl, hK⟩
    have HR4 : Hid (RunOn y4 x A cap m g (M.rj s0 g m (j + 1 + 1 + 1))) := hK.run
    have HS4 : Hid (Syn M s0 g m (j + 1 + 1 + 1) (emb (.ln h)) (fun q => Q q ∨ ∃ p', p' ≠ IpT.over ∧ q = emb p' ∧ p'.obs p = p)) := by
      have := hK.syn
      rw [HE.out.n3] at this
      exact this.weak (fun r hr => by rcases hr with rfl | hr; exact .inr ⟨.h0, (fun h => by cases h), rfl, rfl⟩; exact hr)
    have HX4 : Hid (Blk y4 w.heap.size #[.int .i64 P, .int .i64 T, .int .i64 G] 23) := HX3.out.but hK.but (by simp; omega)
    have HB4 : Hid (But [x] w y4) := HB3.out.trans hK.but
    have k0 := HX4.out.cell 0 (v := .int .i64 P) rfl
    have k1 := HX4.out.cell 1 (v := .int .i64 T) rfl
    have k2 := HX4.out.cell 2 (v := .int .i64 G) rfl
    have hPA4 := hPA y4
    have HSt4 : Hid (∀ Y, Below y4.heap.size y4 Y → _) := fun Y (hY : Below y4.heap.size y4 Y) => syn_store (HR4.out.below hY) HS4.out HBD.out (wd 20 P 264 p 7) h (fun _ => HE.out.ln h)
    clear hL3 hK HX3 HB3 HS3 hPA
    go_wp2_with fail
    go_at_call 65; refine hPA4.mono ?_; rintro e y5 ⟨rfl, h5⟩
    have hSt4 := HSt4.out y5 h5
    have HB5 : Hid (But [x] w y5) := HB4.out.trans (But.of_below h5)
    clear hPA4 h5 k0 k1 k2 HX4 HB4 HSt4 HR4
    go_wp2_with fail
    go_at_call 64; refine hSt4.mono ?_; rintro e y6 ⟨⟨u6, rfl⟩, v6, hK⟩
    have HS6 : Hid (Syn M s0 g m (j + 1 + 1 + 1 + 1) (emb .st) (fun q => Q q ∨ ∃ p', p' ≠ IpT.over ∧ q = emb p' ∧ p'.obs p = p)) := by
      have := hK.syn
      rw [HE.out.n4] at this
      exact this.weak (fun r hr => by rcases hr with rfl | hr; exact .inr ⟨.ln h, (fun h => by cases h), rfl, rfl⟩; exact hr)
    have HB6 : Hid (But [x] w y6) := HB5.out.trans hK.but
    have hSt6 := syn_store hK.run HS6.out HBD.out 9 (ilw p) (fun _ => HE.out.st)
    have hlw : IntKind.u64.wrap (IntKind.u64.wrap p + 1) = ilw p := rfl
    generalize ilw p = lp at *
    clear hSt4 hK HB5 HS4
    go_wp2_with fail
    go_at_call 64; refine hSt6.mono ?_; rintro e y7 ⟨⟨u7, rfl⟩, v7, hK⟩
    have HR7 : Hid (RunOn y7 x A cap m g (M.rj s0 g m (j + 1 + 1 + 1 + 1 + 1))) := hK.run
    have HS7 : Hid (Syn M s0 g m (j + 1 + 1 + 1 + 1 + 1) (emb .ct) (fun q => Q q ∨ ∃ p', p' ≠ IpT.over ∧ q = emb p' ∧ p'.obs p = p)) := by
      have := hK.syn
      rw [HE.out.n5] at this
      exact this.weak (fun r hr => by rcases hr with rfl | hr; exact .inr ⟨.st, (fun h => by cases h), rfl, rfl⟩; exact hr)
    have HB7 : Hid (But [x] w y7) := HB6.out.trans hK.but
    have hA7 := syn_add hK.run HS7.out HBD.out 10 1 (fun _ => HE.out.ct)
    have sc := HR7.out.blk.cell 2 (v := .bool (M.rj s0 g m (j + 1 + 1 + 1 + 1 + 1)).stop) rfl
    rw [rj_stop HS7.out] at sc
    clear hSt6 hK HB6 HS6 hlw
    by_cases hst : m < j + 1 + 1 + 1 + 1 + 1
    · have HST : Hid (m < j + 1 + 1 + 1 + 1 + 1) := hst
      have HPAST : Hid (IpQ Q emb p p (M.run s0 g m)) := by
        rcases (HS7.out.past hst).1 with hq | ⟨p', h1, h2, h3⟩
        · exact .inl ⟨hq, rfl⟩
        · exact .inr ⟨p', h1, h2, h3.symm⟩
      rw [decide_eq_true hst] at sc
      clear hst
      go_wp2_with fail
      go_at_call 66; refine hA7.mono ?_; rintro e y8 ⟨v8, rfl, hK⟩
      have HF : Hid (RunOn y8 x A cap m g (M.rj s0 g m (j + 1 + 1 + 1 + 1 + 1 + 1)) ∧ Syn M s0 g m (j + 1 + 1 + 1 + 1 + 1 + 1) (emb .over) (IpQ Q emb p p) ∧ But [x] w y8) := by
        exact ⟨hK.run, ⟨fun h => absurd h (by have := HST.out; omega), fun h => ⟨HPAST.out, (HS7.out.past HST.out).2⟩⟩, HB7.out.trans hK.but⟩
      clear hA7 hK sc
      go_wp2_with fail
      go_ret
      exact ⟨p, j + 1 + 1 + 1 + 1 + 1 + 1, rfl, HF.out.1, HF.out.2.1, fun h => absurd h (by have := HST.out; omega), HF.out.2.2, by omega⟩
    · have HST : Hid (j + 1 + 1 + 1 + 1 + 1 ≤ m) := (by omega : j + 1 + 1 + 1 + 1 + 1 ≤ m)
      rw [decide_eq_false hst] at sc
      clear hst
      go_wp2_with fail
      go_at_call 66; refine hA7.mono ?_; rintro e y8 ⟨v8, rfl, hK⟩
      have HF : Hid (RunOn y8 x A cap m g (M.rj s0 g m (j + 1 + 1 + 1 + 1 + 1 + 1)) ∧ Syn M s0 g m (j + 1 + 1 + 1 + 1 + 1 + 1) (emb .over) (IpQ Q emb p (-1)) ∧ But [x] w y8) := by
        have := hK.syn
        rw [HE.out.n6] at this
        refine ⟨hK.run, ⟨this.at', fun h => ⟨?_, (this.past h).2⟩⟩, HB7.out.trans hK.but⟩
        have hm : m = j + 1 + 1 + 1 + 1 + 1 := by have := HST.out; omega
        have h2 := HS7.out.at' HST.out
        rw [← hm] at h2
        exact .inr ⟨.ct, (fun h => by cases h), h2, rfl⟩
      clear hA7 hK sc
      go_wp2_with fail
      go_ret
      exact ⟨-1, j + 1 + 1 + 1 + 1 + 1 + 1, rfl, HF.out.1, HF.out.2.1, fun _ => rfl, HF.out.2.2, by omega⟩

theorem rgiput_on (w : World) (x : Nat) (A : Option Addr) (cap m : Nat) (gf : Nat → Int) (P T G p : Int) (t : IpT) (h : RunOn w x A cap m gf rn0) (hh : Hist (ipPM P p) .m0 gf m t) (hp : 0 ≤ P ∧ P ≤ 64) :
    Calls Try.prog 14 #[.pointer (some ⟨x, 0, none⟩), .agg #[.int .i64 P, .int .i64 T, .int .i64 G], .int .i64 p] w fun e w' => e = .returned (.int .i64 (t.obs p)) ∧ RunOn w' x A cap m gf ((ipPM P p).rn t m) ∧ But [x] w w' := by
  rw [← rj_start (M := ipPM P p) (s0 := IpT.m0) (g := gf) (m := m)] at h
  refine (syn_iput (ip_in P p) hp h (Syn.start _ _ _ _) hh.bd).mono ?_
  rintro e w' ⟨r, j', rfl, h1, h2, h4, h5, -⟩
  have hr : r = t.obs p := by
    rcases h2.fin hh (fun _ => rfl) with ⟨e1, e2⟩ | ⟨-, (⟨hf, -⟩ | ⟨p', -, e1, e2⟩)⟩
    · rw [e1]; exact h4 (by omega)
    · exact hf.elim
    · rw [e1]; exact e2
  rw [hr]
  refine ⟨rfl, ?_, h5⟩
  rw [← rj_end h2 hh (fun _ => rfl)]
  exact h1
end Go.Proofs.Ytggbohakpkplkaa
