/- The reference's routine that gets a processor keeps step with any machine that has it within it. -/
import Derived.Test.YtggbohakpkplkaaRefIb
import Derived.Test.YtggbohakpkplkaaIp2
namespace Go.Proofs.Ytggbohakpkplkaa
open Go Go.RowKit
set_option linter.unusedVariables false
set_option maxRecDepth 100000
set_option linter.unusedSimpArgs false

structure IgIn {σ : Type} (M : PM σ) (P : Int) (emb : IgT → σ) : Prop where
  ld : M.ax (emb .ld) = some (axLd 9)
  lk : ∀ y, M.ax (emb (.lk y)) = some (axLd (wd 20 P 264 y 7))
  ms : ∀ y l, M.ax (emb (.ms y l)) = some (axLd 19)
  um : ∀ y l w, M.ax (emb (.um y l w)) = some (axSt 19 (mskOut w y))
  un : ∀ y l, M.ax (emb (.un y l)) = some (axSt 9 l)
  ct : ∀ y l, M.ax (emb (.ct y l)) = some (axAd 10 4294967295)
  n1 : ∀ v, M.nx (emb .ld) v = if v = 0 then emb .none' else emb (.lk (gw v))
  n2 : ∀ y v, M.nx (emb (.lk y)) v = emb (.ms y v)
  n3 : ∀ y l v, M.nx (emb (.ms y l)) v = emb (.um y l v)
  n4 : ∀ y l w v, M.nx (emb (.um y l w)) v = emb (.un y l)
  n5 : ∀ y l v, M.nx (emb (.un y l)) v = emb (.ct y l)
  n6 : ∀ y l v, M.nx (emb (.ct y l)) v = emb (.over y l)
def IgT.live : IgT → Bool
  | .none' => false
  | .over _ _ => false
  | _ => true
/-- Where a get stopped, and what it answered. -/
def IgQ {σ : Type} (Q : σ → Prop) (emb : IgT → σ) (r : Int) (q : σ) : Prop := (Q q ∧ r = -1) ∨ ∃ p', IgT.live p' = true ∧ q = emb p' ∧ r = p'.obs
theorem ig_in (P : Int) : IgIn (igPM P) P (fun t => t) := ⟨rfl, fun _ => rfl, fun _ _ => rfl, fun _ _ _ => rfl, fun _ _ => rfl, fun _ _ => rfl, fun _ => rfl, fun _ _ => rfl, fun _ _ _ => rfl, fun _ _ _ _ => rfl, fun _ _ _ => rfl, fun _ _ _ => rfl⟩

set_option maxHeartbeats 4000000 in
theorem syn_iget {σ : Type} {M : PM σ} {P T G : Int} {emb : IgT → σ} (hE : IgIn M P emb) (hp : 0 ≤ P ∧ P ≤ 64)
    {w : World} {x : Nat} {A : Option Addr} {cap m : Nat} {g : Nat → Int} {s0 : σ} {j : Nat} {Q : σ → Prop} (hR : RunOn w x A cap m g (M.rj s0 g m j)) (hS : Syn M s0 g m j (emb .ld) Q) (hb : ∀ j, j < m → 0 ≤ g j ∧ g j ≤ 18446744073709551615) :
    Calls Try.prog 26 #[.pointer (some ⟨x, 0, none⟩), .agg #[.int .i64 P, .int .i64 T, .int .i64 G]] w fun e w' => ∃ r j' p, e = .returned (.int .i64 r) ∧ RunOn w' x A cap m g (M.rj s0 g m j') ∧ Syn M s0 g m j' (emb p) (IgQ Q emb r) ∧ p.live = false ∧ (j' ≤ m → r = p.obs) ∧ But [x] w w' ∧ j ≤ j' := by
  have hb0 : Below w.heap.size w (w.alloc (.cells #[.int .i64 P, .int .i64 T, .int .i64 G] 23)) := (Below.refl _ _).alloc (Nat.le_refl _) _
  have HX : Hid (Blk (w.alloc (.cells #[.int .i64 P, .int .i64 T, .int .i64 G] 23)) w.heap.size #[.int .i64 P, .int .i64 T, .int .i64 G] 23) := Blk.new _ _ _
  have hxw := hR.blk.lt
  have HB0 : Hid (But [x] w (w.alloc (.cells #[.int .i64 P, .int .i64 T, .int .i64 G] 23))) := But.of_below hb0
  have HE : Hid (IgIn M P emb) := hE
  have HBD : Hid (∀ j, j < m → 0 ≤ g j ∧ g j ≤ 18446744073709551615) := hb
  have hPA := fun (y : Int) W => rprcAt_all P T G y 7 W hp.2 (by omega)
  have hL := syn_load (hR.below hb0) hS hb 9 (fun _ => hE.ld)
  clear hR hS hE hb hb0 hp
  go_enter Try.func26, Try.ntmps26
  go_wp2_with fail
  generalize w.alloc (.cells #[.int .i64 P, .int .i64 T, .int .i64 G] 23) = W at *
  go_at_call 63; refine hL.mono ?_; rintro e y2 ⟨v, rfl, hK⟩
  have HR2 : Hid (RunOn y2 x A cap m g (M.rj s0 g m (j + 1))) := hK.run
  have HV2 : Hid (0 ≤ v ∧ v ≤ 18446744073709551615) := hK.bd
  have HS2 : Hid (Syn M s0 g m (j + 1) ((if v = 0 then emb .none' else emb (.lk (gw v)))) (fun q => Q q ∨ ∃ p', p'.live = true ∧ q = emb p' ∧ p'.obs = -1)) := by
    have := hK.syn
    rw [HE.out.n1] at this
    exact this.weak (fun r hr => by rcases hr with rfl | hr; exact .inr ⟨.ld, rfl, rfl, rfl⟩; exact .inl hr)
  have HB2 : Hid (But [x] w y2) := HB0.out.trans hK.but
  have HX2 : Hid (Blk y2 w.heap.size #[.int .i64 P, .int .i64 T, .int .i64 G] 23) := HX.out.but hK.but (by simp; omega)
  clear hL hK HB0 HX
  by_cases h0 : v = 0
  · subst h0
    clear hPA
    go_wp2_with fail
    go_ret
    refine ⟨-1, j + 1, .none', rfl, HR2.out, (HS2.out.as (t' := emb .none') (fun _ => by simp)).weak ?_, rfl, fun _ => rfl, HB2.out, Nat.le_succ j⟩
    rintro q (hq | ⟨p', h1, h2, h3⟩)
    · exact .inl ⟨hq, rfl⟩
    · exact .inr ⟨p', h1, h2, h3.symm⟩
  · have hd0 : (v == 0) = false := by simpa using h0
    have e1 : wrap64 (IntKind.i64.wrap v - 1) = gw v := gw_eq v HV2.out
    have HS2' : Hid (Syn M s0 g m (j + 1) (emb (.lk (gw v))) (fun q => Q q ∨ ∃ p', p'.live = true ∧ q = emb p' ∧ p'.obs = -1)) := HS2.out.as (fun _ => if_neg h0)
    clear HS2
    have HS2 := HS2'
    clear HS2'
    generalize hyy : gw v = y at *
    generalize hvv : IntKind.i64.wrap v = v' at *
    have hPA2 := hPA y
    clear hPA hyy HV2
    have k0 := HX2.out.cell 0 (v := .int .i64 P) rfl
    have k1 := HX2.out.cell 1 (v := .int .i64 T) rfl
    have k2 := HX2.out.cell 2 (v := .int .i64 G) rfl
    have hPl := hPA2 y2
    have HAc : Hid (∀ Y, Below y2.heap.size y2 Y → _) := fun Y (hY : Below y2.heap.size y2 Y) => syn_load (HR2.out.below hY) HS2.out HBD.out (wd 20 P 264 y 7) (fun _ => HE.out.lk y)
    go_wp2_with fail
    go_at_call 65; refine hPl.mono ?_; rintro e y3 ⟨rfl, h5⟩
    have hA := HAc.out y3 h5
    have HB3 : Hid (But [x] w y3) := HB2.out.trans (But.of_below h5)
    have HX3 : Hid (Blk y3 w.heap.size #[.int .i64 P, .int .i64 T, .int .i64 G] 23) := HX2.out.but (But.of_below (l := []) h5) (by simp)
    clear hPl h5 k0 k1 k2 HX2 HB2 HAc HR2
    go_wp2_with fail
    clear hPA2
    go_at_call 63; refine hA.mono ?_; rintro e y4 ⟨l, rfl, hK⟩
    have HR4 : Hid (RunOn y4 x A cap m g (M.rj s0 g m (j + 1 + 1))) := hK.run
    have HV4 : Hid (0 ≤ l ∧ l ≤ 18446744073709551615) := hK.bd
    have HS4 : Hid (Syn M s0 g m (j + 1 + 1) (emb (.ms y l)) (fun q => Q q ∨ ∃ p', p'.live = true ∧ q = emb p' ∧ p'.obs = -1)) := by
      have := hK.syn
      rw [HE.out.n2] at this
      exact this.weak (fun r hr => by rcases hr with rfl | hr; exact .inr ⟨.lk y, rfl, rfl, rfl⟩; exact hr)
    have HB4 : Hid (But [x] w y4) := HB3.out.trans hK.but
    have HX4 : Hid (Blk y4 w.heap.size #[.int .i64 P, .int .i64 T, .int .i64 G] 23) := HX3.out.but hK.but (by simp; omega)
    clear hA hK HB3 HX3
    have hL4 := syn_load HR4.out HS4.out HBD.out 19 (fun _ => HE.out.ms y l)
    clear HX4 HR4
    go_wp2_with fail
    go_at_call 63; refine hL4.mono ?_; rintro e y5 ⟨v2, rfl, hK⟩
    have HR5 : Hid (RunOn y5 x A cap m g (M.rj s0 g m (j + 1 + 1 + 1))) := hK.run
    have HV5 : Hid (0 ≤ v2 ∧ v2 ≤ 18446744073709551615) := hK.bd
    have HS5 : Hid (Syn M s0 g m (j + 1 + 1 + 1) (emb (.um y l v2)) (fun q => Q q ∨ ∃ p', p'.live = true ∧ q = emb p' ∧ p'.obs = -1)) := by
      have := hK.syn
      rw [HE.out.n3] at this
      exact this.weak (fun r hr => by rcases hr with rfl | hr; exact .inr ⟨.ms y l, rfl, rfl, rfl⟩; exact hr)
    have HB5 : Hid (But [x] w y5) := HB4.out.trans hK.but
    clear hL4 hK HB4
    clear HS4
    have hMk := rmasked_any v2 y y5 HV5.out
    have hBt := rbit_any y y5
    have han := an_bit v2 y HV5.out
    have HSt := syn_store HR5.out HS5.out HBD.out 19 (mskOut v2 y) (fun _ => HE.out.um y l v2)
    clear HR5 HV5
    cases hmb : mskB v2 y
    · rw [hmb] at hMk
      have hmv : mskOut v2 y = v2 := by unfold mskOut; rw [hmb]; rfl
      rw [hmv] at HSt
      clear hmb han hmv hBt
      go_wp2_with fail
      go_at_call 33; refine hMk.mono ?_; rintro e w1 ⟨rfl, rfl⟩
      clear hMk
      go_wp2_with fail
      go_at_call 64; refine HSt.mono ?_; rintro e y6 ⟨⟨u6, rfl⟩, v6, hK⟩
      have HR6 : Hid (RunOn y6 x A cap m g (M.rj s0 g m (j + 1 + 1 + 1 + 1))) := hK.run
      have HS6 : Hid (Syn M s0 g m (j + 1 + 1 + 1 + 1) (emb (.un y l)) (fun q => Q q ∨ ∃ p', p'.live = true ∧ q = emb p' ∧ p'.obs = -1)) := by
        have := hK.syn
        rw [HE.out.n4] at this
        exact this.weak (fun r hr => by rcases hr with rfl | hr; exact .inr ⟨.um y l v2, rfl, rfl, rfl⟩; exact hr)
      have HB6 : Hid (But [x] w y6) := HB5.out.trans hK.but
      clear HSt hK HB5
      have hSt2 := syn_store HR6.out HS6.out HBD.out 9 l (fun _ => HE.out.un y l)
      clear HR6 HS5
      go_wp2_with fail
      go_at_call 64; refine hSt2.mono ?_; rintro e y7 ⟨⟨u7, rfl⟩, v7, hK⟩
      have HR7 : Hid (RunOn y7 x A cap m g (M.rj s0 g m (j + 1 + 1 + 1 + 1 + 1))) := hK.run
      have HS7 : Hid (Syn M s0 g m (j + 1 + 1 + 1 + 1 + 1) (emb (.ct y l)) (fun q => Q q ∨ ∃ p', p'.live = true ∧ q = emb p' ∧ p'.obs = -1)) := by
        have := hK.syn
        rw [HE.out.n5] at this
        exact this.weak (fun r hr => by rcases hr with rfl | hr; exact .inr ⟨.un y l, rfl, rfl, rfl⟩; exact hr)
      have HB7 : Hid (But [x] w y7) := HB6.out.trans hK.but
      clear hSt2 hK HB6
      clear HS6
      have sc := HR7.out.blk.cell 2 (v := .bool (M.rj s0 g m (j + 1 + 1 + 1 + 1 + 1)).stop) rfl
      rw [rj_stop HS7.out] at sc
      by_cases hst : m < j + 1 + 1 + 1 + 1 + 1
      · have HST : Hid (m < j + 1 + 1 + 1 + 1 + 1) := hst
        have HPAST : Hid (IgQ Q emb (-1) (M.run s0 g m)) := by
          rcases (HS7.out.past hst).1 with hq | ⟨p', h1, h2, h3⟩
          · exact .inl ⟨hq, rfl⟩
          · exact .inr ⟨p', h1, h2, h3.symm⟩
        rw [decide_eq_true hst] at sc
        have hA7 := syn_add HR7.out HS7.out HBD.out 10 4294967295 (fun _ => HE.out.ct y l)
        clear hst
        go_wp2_with fail
        go_at_call 66; refine hA7.mono ?_; rintro e y9 ⟨v9, rfl, hK⟩
        have HF : Hid (RunOn y9 x A cap m g (M.rj s0 g m (j + 1 + 1 + 1 + 1 + 1 + 1)) ∧ Syn M s0 g m (j + 1 + 1 + 1 + 1 + 1 + 1) (emb (.over y l)) (IgQ Q emb (-1)) ∧ But [x] w y9) := by
          exact ⟨hK.run, ⟨fun h => absurd h (by have := HST.out; omega), fun h => ⟨HPAST.out, (HS7.out.past HST.out).2⟩⟩, HB7.out.trans hK.but⟩
        clear hA7 hK sc
        go_wp2_with fail
        go_ret
        exact ⟨-1, j + 1 + 1 + 1 + 1 + 1 + 1, .over y l, rfl, HF.out.1, HF.out.2.1, rfl, fun h => absurd h (by have := HST.out; omega), HF.out.2.2, by omega⟩
      · have HST : Hid (j + 1 + 1 + 1 + 1 + 1 ≤ m) := (by omega : j + 1 + 1 + 1 + 1 + 1 ≤ m)
        rw [decide_eq_false hst] at sc
        have hA7 := syn_add HR7.out HS7.out HBD.out 10 4294967295 (fun _ => HE.out.ct y l)
        clear hst
        go_wp2_with fail
        go_at_call 66; refine hA7.mono ?_; rintro e y9 ⟨v9, rfl, hK⟩
        have HF : Hid (RunOn y9 x A cap m g (M.rj s0 g m (j + 1 + 1 + 1 + 1 + 1 + 1)) ∧ Syn M s0 g m (j + 1 + 1 + 1 + 1 + 1 + 1) (emb (.over y l)) (IgQ Q emb y) ∧ But [x] w y9) := by
          have := hK.syn
          rw [HE.out.n6] at this
          refine ⟨hK.run, ⟨this.at', fun h => ⟨?_, (this.past h).2⟩⟩, HB7.out.trans hK.but⟩
          have hm : m = j + 1 + 1 + 1 + 1 + 1 := by have := HST.out; omega
          have h2 := HS7.out.at' HST.out
          rw [← hm] at h2
          exact .inr ⟨.ct y l, rfl, h2, rfl⟩
        clear hA7 hK sc
        go_wp2_with fail
        go_ret
        exact ⟨y, j + 1 + 1 + 1 + 1 + 1 + 1, .over y l, rfl, HF.out.1, HF.out.2.1, rfl, fun _ => rfl, HF.out.2.2, by omega⟩
    · rw [hmb] at hMk
      have hmv : mskOut v2 y = v2 - bitOf y := by unfold mskOut; rw [hmb]; rfl
      have hwv : IntKind.u64.wrap (v2 - bitOf y) = mskOut v2 y := by rw [← hmv]; exact wrap_u64 (by omega)
      clear hmb han hmv
      generalize mskOut v2 y = mv at *
      generalize bitOf y = bp at *
      go_wp2_with fail
      go_at_call 33; refine hMk.mono ?_; rintro e w1 ⟨rfl, rfl⟩
      go_wp2_with fail
      go_at_call 31; refine hBt.mono ?_; rintro e w1 ⟨rfl, rfl⟩
      clear hMk hBt
      go_wp2_with fail
      go_at_call 64; refine HSt.mono ?_; rintro e y6 ⟨⟨u6, rfl⟩, v6, hK⟩
      have HR6 : Hid (RunOn y6 x A cap m g (M.rj s0 g m (j + 1 + 1 + 1 + 1))) := hK.run
      have HS6 : Hid (Syn M s0 g m (j + 1 + 1 + 1 + 1) (emb (.un y l)) (fun q => Q q ∨ ∃ p', p'.live = true ∧ q = emb p' ∧ p'.obs = -1)) := by
        have := hK.syn
        rw [HE.out.n4] at this
        exact this.weak (fun r hr => by rcases hr with rfl | hr; exact .inr ⟨.um y l v2, rfl, rfl, rfl⟩; exact hr)
      have HB6 : Hid (But [x] w y6) := HB5.out.trans hK.but
      clear HSt hK HB5
      have hSt2 := syn_store HR6.out HS6.out HBD.out 9 l (fun _ => HE.out.un y l)
      clear HR6 HS5
      go_wp2_with fail
      go_at_call 64; refine hSt2.mono ?_; rintro e y7 ⟨⟨u7, rfl⟩, v7, hK⟩
      have HR7 : Hid (RunOn y7 x A cap m g (M.rj s0 g m (j + 1 + 1 + 1 + 1 + 1))) := hK.run
      have HS7 : Hid (Syn M s0 g m (j + 1 + 1 + 1 + 1 + 1) (emb (.ct y l)) (fun q => Q q ∨ ∃ p', p'.live = true ∧ q = emb p' ∧ p'.obs = -1)) := by
        have := hK.syn
        rw [HE.out.n5] at this
        exact this.weak (fun r hr => by rcases hr with rfl | hr; exact .inr ⟨.un y l, rfl, rfl, rfl⟩; exact hr)
      have HB7 : Hid (But [x] w y7) := HB6.out.trans hK.but
      clear hSt2 hK HB6
      clear HS6
      have sc := HR7.out.blk.cell 2 (v := .bool (M.rj s0 g m (j + 1 + 1 + 1 + 1 + 1)).stop) rfl
      rw [rj_stop HS7.out] at sc
      by_cases hst : m < j + 1 + 1 + 1 + 1 + 1
      · have HST : Hid (m < j + 1 + 1 + 1 + 1 + 1) := hst
        have HPAST : Hid (IgQ Q emb (-1) (M.run s0 g m)) := by
          rcases (HS7.out.past hst).1 with hq | ⟨p', h1, h2, h3⟩
          · exact .inl ⟨hq, rfl⟩
          · exact .inr ⟨p', h1, h2, h3.symm⟩
        rw [decide_eq_true hst] at sc
        have hA7 := syn_add HR7.out HS7.out HBD.out 10 4294967295 (fun _ => HE.out.ct y l)
        clear hst
        go_wp2_with fail
        go_at_call 66; refine hA7.mono ?_; rintro e y9 ⟨v9, rfl, hK⟩
        have HF : Hid (RunOn y9 x A cap m g (M.rj s0 g m (j + 1 + 1 + 1 + 1 + 1 + 1)) ∧ Syn M s0 g m (j + 1 + 1 + 1 + 1 + 1 + 1) (emb (.over y l)) (IgQ Q emb (-1)) ∧ But [x] w y9) := by
          exact ⟨hK.run, ⟨fun h => absurd h (by have := HST.out; omega), fun h => ⟨HPAST.out, (HS7.out.past HST.out).2⟩⟩, HB7.out.trans hK.but⟩
        clear hA7 hK sc
        go_wp2_with fail
        go_ret
        exact ⟨-1, j + 1 + 1 + 1 + 1 + 1 + 1, .over y l, rfl, HF.out.1, HF.out.2.1, rfl, fun h => absurd h (by have := HST.out; omega), HF.out.2.2, by omega⟩
      · have HST : Hid (j + 1 + 1 + 1 + 1 + 1 ≤ m) := (by omega : j + 1 + 1 + 1 + 1 + 1 ≤ m)
        rw [decide_eq_false hst] at sc
        have hA7 := syn_add HR7.out HS7.out HBD.out 10 4294967295 (fun _ => HE.out.ct y l)
        clear hst
        go_wp2_with fail
        go_at_call 66; refine hA7.mono ?_; rintro e y9 ⟨v9, rfl, hK⟩
        have HF : Hid (RunOn y9 x A cap m g (M.rj s0 g m (j + 1 + 1 + 1 + 1 + 1 + 1)) ∧ Syn M s0 g m (j + 1 + 1 + 1 + 1 + 1 + 1) (emb (.over y l)) (IgQ Q emb y) ∧ But [x] w y9) := by
          have := hK.syn
          rw [HE.out.n6] at this
          refine ⟨hK.run, ⟨this.at', fun h => ⟨?_, (this.past h).2⟩⟩, HB7.out.trans hK.but⟩
          have hm : m = j + 1 + 1 + 1 + 1 + 1 := by have := HST.out; omega
          have h2 := HS7.out.at' HST.out
          rw [← hm] at h2
          exact .inr ⟨.ct y l, rfl, h2, rfl⟩
        clear hA7 hK sc
        go_wp2_with fail
        go_ret
        exact ⟨y, j + 1 + 1 + 1 + 1 + 1 + 1, .over y l, rfl, HF.out.1, HF.out.2.1, rfl, fun _ => rfl, HF.out.2.2, by omega⟩

theorem rgiget_on (w : World) (x : Nat) (A : Option Addr) (cap m : Nat) (gf : Nat → Int) (P T G : Int) (t : IgT) (h : RunOn w x A cap m gf rn0) (hh : Hist (igPM P) IgT.ld gf m t) (hp : 0 ≤ P ∧ P ≤ 64) :
    Calls Try.prog 26 #[.pointer (some ⟨x, 0, none⟩), .agg #[.int .i64 P, .int .i64 T, .int .i64 G]] w fun e w' => e = .returned (.int .i64 t.obs) ∧ RunOn w' x A cap m gf ((igPM P).rn t m) ∧ But [x] w w' := by
  rw [← rj_start (M := igPM P) (s0 := IgT.ld) (g := gf) (m := m)] at h
  refine (syn_iget (ig_in P) hp h (Syn.start _ _ _ _) hh.bd).mono ?_
  rintro e w' ⟨r, j', p, rfl, h1, h2, h3, h4, h5, -⟩
  have hn : (igPM P).ax p = none := by cases p <;> first | rfl | cases h3
  have hr : r = t.obs := by
    rcases h2.fin hh (fun _ => hn) with ⟨e1, e2⟩ | ⟨-, (⟨hf, -⟩ | ⟨p', -, e1, e2⟩)⟩
    · rw [e1]; exact h4 (by omega)
    · exact hf.elim
    · rw [e1]; exact e2
  rw [hr]
  refine ⟨rfl, ?_, h5⟩
  rw [← rj_end h2 hh (fun _ => hn)]
  exact h1
end Go.Proofs.Ytggbohakpkplkaa
