/- The reference's routine that gets a thread keeps step with any machine that has it within it. -/
import Derived.Test.YtggbohakpkplkaaRefIb
import Derived.Test.YtggbohakpkplkaaIm2
namespace Go.Proofs.Ytggbohakpkplkaa
open Go Go.RowKit
set_option linter.unusedVariables false
set_option maxRecDepth 100000
set_option linter.unusedSimpArgs false

structure JgIn {σ : Type} (M : PM σ) (P T : Int) (emb : JgT → σ) : Prop where
  ld : M.ax (emb .ld) = some (axLd 11)
  lk : ∀ y, M.ax (emb (.lk y)) = some (axLd (wd (20 + P * 264) T 3 y 2))
  un : ∀ y l, M.ax (emb (.un y l)) = some (axSt 11 l)
  ct : ∀ y, M.ax (emb (.ct y)) = some (axAd 12 4294967295)
  th : M.ax (emb .th) = some (axLd 15)
  nw : ∀ y, M.ax (emb (.nw y)) = some (axSt 15 (y + 1))
  n1 : ∀ v, M.nx (emb .ld) v = if v = 0 then emb .th else emb (.lk (gw v))
  n2 : ∀ y v, M.nx (emb (.lk y)) v = emb (.un y v)
  n3 : ∀ y l v, M.nx (emb (.un y l)) v = emb (.ct y)
  n4 : ∀ y v, M.nx (emb (.ct y)) v = emb (.over y)
  n5 : ∀ v, M.nx (emb .th) v = if T ≤ v then emb .none' else emb (.nw v)
  n6 : ∀ y v, M.nx (emb (.nw y)) v = emb (.over y)
def JgT.live : JgT → Bool
  | .none' => false
  | .over _ => false
  | _ => true
/-- Where a get stopped, and what it answered. -/
def JgQ {σ : Type} (Q : σ → Prop) (emb : JgT → σ) (r : Int) (q : σ) : Prop := (Q q ∧ r = -1) ∨ ∃ p', JgT.live p' = true ∧ q = emb p' ∧ r = p'.obs
theorem jg_in (P T : Int) : JgIn (jgPM P T) P T (fun t => t) := ⟨rfl, fun _ => rfl, fun _ _ => rfl, fun _ => rfl, rfl, fun _ => rfl, fun _ => rfl, fun _ _ => rfl, fun _ _ _ => rfl, fun _ _ => rfl, fun _ => rfl, fun _ _ => rfl⟩

set_option maxHeartbeats 4000000 in
theorem syn_jget {σ : Type} {M : PM σ} {P T G : Int} {emb : JgT → σ} (hE : JgIn M P T emb) (hp : 0 ≤ P ∧ P ≤ 64) (hT : 0 ≤ T ∧ T ≤ 65536)
    {w : World} {x : Nat} {A : Option Addr} {cap m : Nat} {g : Nat → Int} {s0 : σ} {j : Nat} {Q : σ → Prop} (hR : RunOn w x A cap m g (M.rj s0 g m j)) (hS : Syn M s0 g m j (emb .ld) Q) (hb : ∀ j, j < m → 0 ≤ g j ∧ g j ≤ 18446744073709551615) :
    Calls Try.prog 45 #[.pointer (some ⟨x, 0, none⟩), .agg #[.int .i64 P, .int .i64 T, .int .i64 G]] w fun e w' => ∃ r j' p, e = .returned (.int .i64 r) ∧ RunOn w' x A cap m g (M.rj s0 g m j') ∧ Syn M s0 g m j' (emb p) (JgQ Q emb r) ∧ p.live = false ∧ (j' ≤ m → r = p.obs) ∧ But [x] w w' ∧ j ≤ j' := by
  have hb0 : Below w.heap.size w (w.alloc (.cells #[.int .i64 P, .int .i64 T, .int .i64 G] 23)) := (Below.refl _ _).alloc (Nat.le_refl _) _
  have HX : Hid (Blk (w.alloc (.cells #[.int .i64 P, .int .i64 T, .int .i64 G] 23)) w.heap.size #[.int .i64 P, .int .i64 T, .int .i64 G] 23) := Blk.new _ _ _
  have hxw := hR.blk.lt
  have HB0 : Hid (But [x] w (w.alloc (.cells #[.int .i64 P, .int .i64 T, .int .i64 G] 23))) := But.of_below hb0
  have HE : Hid (JgIn M P T emb) := hE
  have HBD : Hid (∀ j, j < m → 0 ≤ g j ∧ g j ≤ 18446744073709551615) := hb
  have hPA := fun (y : Int) W => rthrAt_all P T G y 2 W hp hT.2 (by omega)
  have HT : Hid (0 ≤ T ∧ T ≤ 65536) := hT
  have hL := syn_load (hR.below hb0) hS hb 11 (fun _ => hE.ld)
  clear hR hS hE hb hb0 hp hT
  go_enter Try.func45, Try.ntmps45
  go_wp2_with fail
  generalize w.alloc (.cells #[.int .i64 P, .int .i64 T, .int .i64 G] 23) = W at *
  go_at_call 63; refine hL.mono ?_; rintro e y2 ⟨v, rfl, hK⟩
  have HR2 : Hid (RunOn y2 x A cap m g (M.rj s0 g m (j + 1))) := hK.run
  have HV2 : Hid (0 ≤ v ∧ v ≤ 18446744073709551615) := hK.bd
  have HS2 : Hid (Syn M s0 g m (j + 1) ((if v = 0 then emb .th else emb (.lk (gw v)))) (fun q => Q q ∨ ∃ p', p'.live = true ∧ q = emb p' ∧ p'.obs = -1)) := by
    have := hK.syn
    rw [HE.out.n1] at this
    exact this.weak (fun r hr => by rcases hr with rfl | hr; exact .inr ⟨.ld, rfl, rfl, rfl⟩; exact .inl hr)
  have HB2 : Hid (But [x] w y2) := HB0.out.trans hK.but
  have HX2 : Hid (Blk y2 w.heap.size #[.int .i64 P, .int .i64 T, .int .i64 G] 23) := HX.out.but hK.but (by simp; omega)
  clear hL hK HB0 HX
  by_cases h0 : v = 0
  · subst h0
    have HS2' : Hid (Syn M s0 g m (j + 1) (emb .th) (fun q => Q q ∨ ∃ p', p'.live = true ∧ q = emb p' ∧ p'.obs = -1)) := HS2.out.as (fun _ => if_pos rfl)
    have hL3 := syn_load HR2.out HS2'.out HBD.out 15 (fun _ => HE.out.th)
    have k1 := HX2.out.cell 1 (v := .int .i64 T) rfl
    clear hPA HS2 HR2 HV2
    go_wp2_with fail
    go_at_call 63; refine hL3.mono ?_; rintro e y3 ⟨v3, rfl, hK⟩
    have HR3 : Hid (RunOn y3 x A cap m g (M.rj s0 g m (j + 1 + 1))) := hK.run
    have HV3 : Hid (0 ≤ v3 ∧ v3 ≤ 18446744073709551615) := hK.bd
    have HS3 : Hid (Syn M s0 g m (j + 1 + 1) ((if T ≤ v3 then emb .none' else emb (.nw v3))) (fun q => Q q ∨ ∃ p', p'.live = true ∧ q = emb p' ∧ p'.obs = -1)) := by
      have := hK.syn
      rw [HE.out.n5] at this
      exact this.weak (fun r hr => by rcases hr with rfl | hr; exact .inr ⟨.th, rfl, rfl, rfl⟩; exact hr)
    have HB3 : Hid (But [x] w y3) := HB2.out.trans hK.but
    have HX3 : Hid (Blk y3 w.heap.size #[.int .i64 P, .int .i64 T, .int .i64 G] 23) := HX2.out.but hK.but (by simp; omega)
    clear hL3 hK HB2 HX2
    have k1 := HX3.out.cell 1 (v := .int .i64 T) rfl
    have hw1 : IntKind.u64.wrap T = T := wrap_u64 (by have := HT.out; omega)
    have hwv := HV3.out
    have hT0 := HT.out
    by_cases h1 : T ≤ v3
    · have d1 : decide (v3 < T) = false := decide_eq_false (by omega)
      clear hT0 hwv
      go_wp2_with fail
      go_ret
      refine ⟨-1, j + 1 + 1, .none', rfl, HR3.out, (HS3.out.as (t' := emb .none') (fun _ => if_pos h1)).weak ?_, rfl, fun _ => rfl, HB3.out, by omega⟩
      rintro q (hq | ⟨p', h1, h2, h3⟩)
      · exact .inl ⟨hq, rfl⟩
      · exact .inr ⟨p', h1, h2, h3.symm⟩
    · have d1 : v3 < T := by omega
      have HS3' : Hid (Syn M s0 g m (j + 1 + 1) (emb (.nw v3)) (fun q => Q q ∨ ∃ p', p'.live = true ∧ q = emb p' ∧ p'.obs = -1)) := HS3.out.as (fun _ => if_neg h1)
      have hw2 : IntKind.u64.wrap (v3 + 1) = v3 + 1 := wrap_u64 (by omega)
      have hw3 : IntKind.i64.wrap v3 = v3 := by simp [IntKind.wrap, IntKind.bits, IntKind.signed]; omega
      have hSt := syn_store HR3.out HS3'.out HBD.out 15 (v3 + 1) (fun _ => HE.out.nw v3)
      clear HS3 HR3 h1 HV3 hwv hT0
      have HS3 := HS3'
      clear HS3'
      go_wp2_with fail
      go_at_call 64; refine hSt.mono ?_; rintro e y4 ⟨⟨u4, rfl⟩, v4, hK⟩
      have HR4 : Hid (RunOn y4 x A cap m g (M.rj s0 g m (j + 1 + 1 + 1))) := hK.run
      have HSr : Hid _ := hK.syn
      have HB4 : Hid (But [x] w y4) := HB3.out.trans hK.but
      clear hSt hK HB3
      have sc := HR4.out.blk.cell 2 (v := .bool (M.rj s0 g m (j + 1 + 1 + 1)).stop) rfl
      rw [rj_stop HSr.out] at sc
      by_cases hst : m < j + 1 + 1 + 1
      · have HST : Hid (m < j + 1 + 1 + 1) := hst
        rw [decide_eq_true hst] at sc
        clear hst
        go_wp2_with fail
        go_ret
        refine ⟨-1, j + 1 + 1 + 1, .over v3, rfl, HR4.out, ⟨fun h => absurd h (by have := HST.out; omega), fun h => ⟨?_, (HSr.out.past HST.out).2⟩⟩, rfl, fun h => absurd h (by have := HST.out; omega), HB4.out, by omega⟩
        rcases (HSr.out.past HST.out).1 with hr | hq | ⟨p', h1, h2, h3⟩
        · exact .inr ⟨.nw v3, rfl, hr, rfl⟩
        · exact .inl ⟨hq, rfl⟩
        · exact .inr ⟨p', h1, h2, h3.symm⟩
      · have HST : Hid (j + 1 + 1 + 1 ≤ m) := (by omega : j + 1 + 1 + 1 ≤ m)
        rw [decide_eq_false hst] at sc
        clear hst
        go_wp2_with fail
        go_ret
        refine ⟨v3, j + 1 + 1 + 1, .over v3, rfl, HR4.out, ⟨fun h => ?_, fun h => absurd h (by have := HST.out; omega)⟩, rfl, fun _ => rfl, HB4.out, by omega⟩
        have := HSr.out.at' h
        rw [HE.out.n6] at this
        exact this
  · have hd0 : (v == 0) = false := by simpa using h0
    have hd1 : (v != 0) = true := by simpa using h0
    have e1 : wrap64 (IntKind.i64.wrap v - 1) = gw v := gw_eq v HV2.out
    have HS2' : Hid (Syn M s0 g m (j + 1) (emb (.lk (gw v))) (fun q => Q q ∨ ∃ p', p'.live = true ∧ q = emb p' ∧ p'.obs = -1)) := HS2.out.as (fun _ => if_neg h0)
    clear HS2
    have HS2 := HS2'
    clear HS2'
    generalize hyy : gw v = y at *
    generalize hvv : IntKind.i64.wrap v = v' at *
    have hPA2 := hPA y
    clear hPA hyy HV2
    have k0 := HX2.out.cell 0 (v := .int .i64 P) rfl
    have k1 := HX2.out.cell 1 (v := .int .i64 T) rfl
    have k2 := HX2.out.cell 2 (v := .int .i64 G) rfl
    have hPl := hPA2 y2
    have HAc : Hid (∀ Y, Below y2.heap.size y2 Y → _) := fun Y (hY : Below y2.heap.size y2 Y) => syn_load (HR2.out.below hY) HS2.out HBD.out (wd (20 + P * 264) T 3 y 2) (fun _ => HE.out.lk y)
    go_wp2_with fail
    go_at_call 82; refine hPl.mono ?_; rintro e y3 ⟨rfl, h5⟩
    have hA := HAc.out y3 h5
    have HB3 : Hid (But [x] w y3) := HB2.out.trans (But.of_below h5)
    have HX3 : Hid (Blk y3 w.heap.size #[.int .i64 P, .int .i64 T, .int .i64 G] 23) := HX2.out.but (But.of_below (l := []) h5) (by simp)
    clear hPl h5 k0 k1 k2 HX2 HB2 HAc HR2
    go_wp2_with fail
    clear hPA2
    go_at_call 63; refine hA.mono ?_; rintro e y4 ⟨l, rfl, hK⟩
    have HR4 : Hid (RunOn y4 x A cap m g (M.rj s0 g m (j + 1 + 1))) := hK.run
    have HV4 : Hid (0 ≤ l ∧ l ≤ 18446744073709551615) := hK.bd
    have HS4 : Hid (Syn M s0 g m (j + 1 + 1) (emb (.un y l)) (fun q => Q q ∨ ∃ p', p'.live = true ∧ q = emb p' ∧ p'.obs = -1)) := by
      have := hK.syn
      rw [HE.out.n2] at this
      exact this.weak (fun r hr => by rcases hr with rfl | hr; exact .inr ⟨.lk y, rfl, rfl, rfl⟩; exact hr)
    have HB4 : Hid (But [x] w y4) := HB3.out.trans hK.but
    have HX4 : Hid (Blk y4 w.heap.size #[.int .i64 P, .int .i64 T, .int .i64 G] 23) := HX3.out.but hK.but (by simp; omega)
    clear hA hK HB3 HX3
    have hSt := syn_store HR4.out HS4.out HBD.out 11 l (fun _ => HE.out.un y l)
    clear HX4 HR4
    go_wp2_with fail
    go_at_call 64; refine hSt.mono ?_; rintro e y5 ⟨⟨u5, rfl⟩, v5, hK⟩
    have HR5 : Hid (RunOn y5 x A cap m g (M.rj s0 g m (j + 1 + 1 + 1))) := hK.run
    have HS5 : Hid (Syn M s0 g m (j + 1 + 1 + 1) (emb (.ct y)) (fun q => Q q ∨ ∃ p', p'.live = true ∧ q = emb p' ∧ p'.obs = -1)) := by
      have := hK.syn
      rw [HE.out.n3] at this
      exact this.weak (fun r hr => by rcases hr with rfl | hr; exact .inr ⟨.un y l, rfl, rfl, rfl⟩; exact hr)
    have HB5 : Hid (But [x] w y5) := HB4.out.trans hK.but
    clear hSt hK HB4
    clear HS4
    have sc := HR5.out.blk.cell 2 (v := .bool (M.rj s0 g m (j + 1 + 1 + 1)).stop) rfl
    rw [rj_stop HS5.out] at sc
    by_cases hst : m < j + 1 + 1 + 1
    · have HST : Hid (m < j + 1 + 1 + 1) := hst
      have HPAST : Hid (JgQ Q emb (-1) (M.run s0 g m)) := by
        rcases (HS5.out.past hst).1 with hq | ⟨p', h1, h2, h3⟩
        · exact .inl ⟨hq, rfl⟩
        · exact .inr ⟨p', h1, h2, h3.symm⟩
      rw [decide_eq_true hst] at sc
      have hA7 := syn_add HR5.out HS5.out HBD.out 12 4294967295 (fun _ => HE.out.ct y)
      clear hst
      go_wp2_with fail
      go_at_call 66; refine hA7.mono ?_; rintro e y9 ⟨v9, rfl, hK⟩
      have HF : Hid (RunOn y9 x A cap m g (M.rj s0 g m (j + 1 + 1 + 1 + 1)) ∧ Syn M s0 g m (j + 1 + 1 + 1 + 1) (emb (.over y)) (JgQ Q emb (-1)) ∧ But [x] w y9) := by
        exact ⟨hK.run, ⟨fun h => absurd h (by have := HST.out; omega), fun h => ⟨HPAST.out, (HS5.out.past HST.out).2⟩⟩, HB5.out.trans hK.but⟩
      clear hA7 hK sc
      go_wp2_with fail
      go_ret
      exact ⟨-1, j + 1 + 1 + 1 + 1, .over y, rfl, HF.out.1, HF.out.2.1, rfl, fun h => absurd h (by have := HST.out; omega), HF.out.2.2, by omega⟩
    · have HST : Hid (j + 1 + 1 + 1 ≤ m) := (by omega : j + 1 + 1 + 1 ≤ m)
      rw [decide_eq_false hst] at sc
      have hA7 := syn_add HR5.out HS5.out HBD.out 12 4294967295 (fun _ => HE.out.ct y)
      clear hst
      go_wp2_with fail
      go_at_call 66; refine hA7.mono ?_; rintro e y9 ⟨v9, rfl, hK⟩
      have HF : Hid (RunOn y9 x A cap m g (M.rj s0 g m (j + 1 + 1 + 1 + 1)) ∧ Syn M s0 g m (j + 1 + 1 + 1 + 1) (emb (.over y)) (JgQ Q emb y) ∧ But [x] w y9) := by
        have := hK.syn
        rw [HE.out.n4] at this
        refine ⟨hK.run, ⟨this.at', fun h => ⟨?_, (this.past h).2⟩⟩, HB5.out.trans hK.but⟩
        have hm : m = j + 1 + 1 + 1 := by have := HST.out; omega
        have h2 := HS5.out.at' HST.out
        rw [← hm] at h2
        exact .inr ⟨.ct y, rfl, h2, rfl⟩
      clear hA7 hK sc
      go_wp2_with fail
      go_ret
      exact ⟨y, j + 1 + 1 + 1 + 1, .over y, rfl, HF.out.1, HF.out.2.1, rfl, fun _ => rfl, HF.out.2.2, by omega⟩

theorem rgjget_on (w : World) (x : Nat) (A : Option Addr) (cap m : Nat) (gf : Nat → Int) (P T G : Int) (t : JgT) (h : RunOn w x A cap m gf rn0) (hh : Hist (jgPM P T) JgT.ld gf m t) (hp : 0 ≤ P ∧ P ≤ 64) (hT : 0 ≤ T ∧ T ≤ 65536) :
    Calls Try.prog 45 #[.pointer (some ⟨x, 0, none⟩), .agg #[.int .i64 P, .int .i64 T, .int .i64 G]] w fun e w' => e = .returned (.int .i64 t.obs) ∧ RunOn w' x A cap m gf ((jgPM P T).rn t m) ∧ But [x] w w' := by
  rw [← rj_start (M := jgPM P T) (s0 := JgT.ld) (g := gf) (m := m)] at h
  refine (syn_jget (jg_in P T) hp hT h (Syn.start _ _ _ _) hh.bd).mono ?_
  rintro e w' ⟨r, j', p, rfl, h1, h2, h3, h4, h5, -⟩
  have hn : (jgPM P T).ax p = none := by cases p <;> first | rfl | cases h3
  have hr : r = t.obs := by
    rcases h2.fin hh (fun _ => hn) with ⟨e1, e2⟩ | ⟨-, (⟨hf, -⟩ | ⟨p', -, e1, e2⟩)⟩
    · rw [e1]; exact h4 (by omega)
    · exact hf.elim
    · rw [e1]; exact e2
  rw [hr]
  refine ⟨rfl, ?_, h5⟩
  rw [← rj_end h2 hh (fun _ => hn)]
  exact h1
end Go.Proofs.Ytggbohakpkplkaa
