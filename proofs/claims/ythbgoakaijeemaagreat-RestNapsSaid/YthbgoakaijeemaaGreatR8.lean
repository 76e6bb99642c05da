/- The document's nap, within any machine. -/
import Derived.Test.YthbgoakaijeemaaGreatR7
import Derived.Test.YthbgoakaijeemaaGreatR2
import Derived.Test.YthbgoakaijeemaaGreatR3
namespace Go.Proofs.YthbgoakaijeemaaGreat
open Go Go.RowKit
set_option linter.unusedVariables false
set_option maxRecDepth 100000
set_option linter.unusedSimpArgs false

/-- A machine N within another. -/
structure PmIn {σ τ : Type} (M : PM σ) (N : PM τ) (emb : τ → σ) : Prop where
  ax : ∀ t a, N.ax t = some a → M.ax (emb t) = some a
  nx : ∀ t a v, N.ax t = some a → M.nx (emb t) v = emb (N.nx t v)
theorem pm_in {σ : Type} (M : PM σ) : PmIn M M (fun t => t) := ⟨fun _ _ h => h, fun _ _ _ _ => rfl⟩
/-- Where it stopped within N. -/
def PmQ {σ τ : Type} (Q : σ → Prop) (N : PM τ) (emb : τ → σ) (q : σ) : Prop := Q q ∨ ∃ t a, N.ax t = some a ∧ q = emb t
theorem PmQ.next {σ τ : Type} {Q : σ → Prop} {N : PM τ} {emb : τ → σ} {t : τ} {a : Ax} {q : σ} (ha : N.ax t = some a) (h : q = emb t ∨ PmQ Q N emb q) : PmQ Q N emb q := h.elim (fun h => .inr ⟨t, a, ha, h⟩) id
set_option maxHeartbeats 4000000 in
theorem syn_imput {σ : Type} {M : PM σ} {P T G t : Int} {emb : ImT → σ} (hE : PmIn M (imPM P T t) emb) (hp : 0 ≤ P ∧ P ≤ 64) (hT : 0 ≤ T ∧ T ≤ 65536)
    {w : World} {x : Nat} {A : Option Addr} {cap m : Nat} {g : Nat → Int} {s0 : σ} {j : Nat} {Q : σ → Prop} (hR : RunOn w x A cap m g (M.rj s0 g m j)) (hS : Syn M s0 g m j (emb .h0) Q) (hb : ∀ j, j < m → 0 ≤ g j ∧ g j ≤ 18446744073709551615) :
    Calls Tryz.prog 115 #[.pointer (some ⟨x, 0, none⟩), .agg #[.int .i64 P, .int .i64 T, .int .i64 G], .int .i64 t] w fun e w' => (∃ v, e = .returned v) ∧ ∃ j', RunOn w' x A cap m g (M.rj s0 g m j') ∧ Syn M s0 g m j' (emb .over) (PmQ Q (imPM P T t) emb) ∧ But [x] w w' ∧ j ≤ j' := by
  have hb0 : Below w.heap.size w (w.alloc (.cells #[.int .i64 P, .int .i64 T, .int .i64 G] 23)) := (Below.refl _ _).alloc (Nat.le_refl _) _
  have HX : Hid (Blk (w.alloc (.cells #[.int .i64 P, .int .i64 T, .int .i64 G] 23)) w.heap.size #[.int .i64 P, .int .i64 T, .int .i64 G] 23) := Blk.new _ _ _
  have hxw := hR.blk.lt
  have HB0 : Hid (But [x] w (w.alloc (.cells #[.int .i64 P, .int .i64 T, .int .i64 G] 23))) := But.of_below hb0
  have HBD : Hid (∀ j, j < m → 0 ≤ g j ∧ g j ≤ 18446744073709551615) := hb
  have HE : Hid (PmIn M (imPM P T t) emb) := hE
  have hPA := fun W => rthrAt_all P T G t 2 W hp hT.2 (by omega)
  have hL := syn_load (hR.below hb0) hS hb 11 (fun _ => hE.ax .h0 _ rfl)
  clear hR hS hb hb0 hp hT hE
  go_enter Tryz.func115, Tryz.ntmps115
  go_wp2_with fail
  generalize w.alloc (.cells #[.int .i64 P, .int .i64 T, .int .i64 G] 23) = W at *
  go_at_call 94; refine hL.mono ?_; rintro e y2 ⟨v, rfl, hK⟩
  have HR2 : Hid (RunOn y2 x A cap m g (M.rj s0 g m (j + 1))) := hK.run
  have HS2 : Hid (Syn M s0 g m (j + 1) (emb (.ln v)) (PmQ Q (imPM P T t) emb)) := by
    have h := hK.syn
    rw [HE.out.nx .h0 _ _ rfl] at h
    exact h.weak (fun r hr => hr.elim (fun h => .inr ⟨.h0, _, rfl, h⟩) .inl)
  have HX2 : Hid (Blk y2 w.heap.size #[.int .i64 P, .int .i64 T, .int .i64 G] 23) := HX.out.but hK.but (by simp; omega)
  have HB2 : Hid (But [x] w y2) := HB0.out.trans hK.but
  have k0 := HX2.out.cell 0 (v := .int .i64 P) rfl
  have k1 := HX2.out.cell 1 (v := .int .i64 T) rfl
  have k2 := HX2.out.cell 2 (v := .int .i64 G) rfl
  have hPl := hPA y2
  clear hL hK HX HB0 hPA
  go_wp2_with fail
  go_at_call 82; refine hPl.mono ?_; rintro e y3 ⟨rfl, h5⟩
  have hA := syn_store (HR2.out.below h5) HS2.out HBD.out (wd (20 + P * 264) T 3 t 2) v (fun _ => HE.out.ax (.ln v) _ rfl)
  have HB3 : Hid (But [x] w y3) := HB2.out.trans (But.of_below h5)
  clear hPl h5 k0 k1 k2 HX2 HB2 HR2 HS2
  go_wp2_with fail
  go_at_call 77; refine hA.mono ?_; rintro e y4 ⟨⟨u4, rfl⟩, v4, hK⟩
  have HS4 : Hid (Syn M s0 g m (j + 1 + 1) (emb .st) (PmQ Q (imPM P T t) emb)) := by
    have h := hK.syn
    rw [HE.out.nx (.ln v) _ _ rfl] at h
    exact h.weak (fun r hr => PmQ.next (t := .ln v) (N := imPM P T t) rfl hr)
  have hlw : IntKind.u64.wrap (IntKind.u64.wrap t + 1) = ilw t := rfl
  have HAX : Hid (M.ax (emb .st) = some (axSt 11 (ilw t))) := HE.out.ax .st _ rfl
  have hA4 := syn_store hK.run HS4.out HBD.out 11 (ilw t) (fun _ => HAX.out)
  have HB4 : Hid (But [x] w y4) := HB3.out.trans hK.but
  clear HAX
  generalize hlt : ilw t = lp at hlw hA4
  clear hA hK HB3
  go_wp2_with fail
  go_at_call 77; refine hA4.mono ?_; rintro e y5 ⟨⟨u5, rfl⟩, v5, hK⟩
  have HS5 : Hid (Syn M s0 g m (j + 1 + 1 + 1) (emb .ct) (PmQ Q (imPM P T t) emb)) := by
    have h := hK.syn
    rw [HE.out.nx .st _ _ rfl] at h
    exact h.weak (fun r hr => PmQ.next (t := .st) (N := imPM P T t) rfl hr)
  have hA5 := syn_add hK.run HS5.out HBD.out 12 1 (fun _ => HE.out.ax .ct _ rfl)
  have HB5 : Hid (But [x] w y5) := HB4.out.trans hK.but
  clear hA4 hK HB4 hlw hlt HS4
  go_wp2_with fail
  go_at_call 78; refine hA5.mono ?_; rintro e y6 ⟨v6, rfl, hK⟩
  have HF : Hid (RunOn y6 x A cap m g (M.rj s0 g m (j + 1 + 1 + 1 + 1)) ∧ Syn M s0 g m (j + 1 + 1 + 1 + 1) (emb .over) (PmQ Q (imPM P T t) emb) ∧ But [x] w y6) := by
    have h := hK.syn
    rw [HE.out.nx .ct _ _ rfl] at h
    exact ⟨hK.run, h.weak (fun r hr => PmQ.next (t := .ct) (N := imPM P T t) rfl hr), HB5.out.trans hK.but⟩
  clear hA5 hK HB5
  go_wp2_with fail
  go_end0
  exact ⟨⟨_, rfl⟩, j + 1 + 1 + 1 + 1, HF.out.1, HF.out.2.1, HF.out.2.2, by omega⟩
/-- Where it stopped within a count, and whether it had counted. -/
def SpQ {σ : Type} (Q : σ → Prop) (emb : SpT → σ) (c : Bool) (q : σ) : Prop := (Q q ∧ c = false) ∨ ∃ t a, spPM.ax t = some a ∧ q = emb t ∧ c = t.counts
theorem syn_spin {σ : Type} {M : PM σ} {emb : SpT → σ} (hE : PmIn M spPM emb)
    {w : World} {x : Nat} {A : Option Addr} {cap m : Nat} {g : Nat → Int} {s0 : σ} {j : Nat} {Q : σ → Prop} (hR : RunOn w x A cap m g (M.rj s0 g m j)) (hS : Syn M s0 g m j (emb .ad) Q) (hb : ∀ j, j < m → 0 ≤ g j ∧ g j ≤ 18446744073709551615) :
    Calls Tryz.prog 61 #[.pointer (some ⟨x, 0, none⟩)] w fun e w' => ∃ c j', e = .returned (.bool c) ∧ RunOn w' x A cap m g (M.rj s0 g m j') ∧ Syn M s0 g m j' (emb .over) (SpQ Q emb c) ∧ (j' ≤ m → c = true) ∧ But [x] w w' ∧ j ≤ j' := by
  have HBD : Hid (∀ j, j < m → 0 ≤ g j ∧ g j ≤ 18446744073709551615) := hb
  have HE : Hid (PmIn M spPM emb) := hE
  have hA := syn_add hR hS hb 13 1 (fun _ => hE.ax .ad _ rfl)
  clear hR hS hb hE
  go_enter Tryz.func61, Tryz.ntmps61
  go_wp2_with fail
  go_at_call 78; refine hA.mono ?_; rintro e y2 ⟨v2, rfl, hK⟩
  have HR2 : Hid (RunOn y2 x A cap m g (M.rj s0 g m (j + 1))) := hK.run
  have HB2 : Hid (But [x] w y2) := hK.but
  have HS2 : Hid (Syn M s0 g m (j + 1) (emb .st) (fun r => r = emb .ad ∨ Q r)) := by
    have h := hK.syn
    rw [HE.out.nx .ad _ _ rfl] at h
    exact h
  have hSt := syn_store HR2.out HS2.out HBD.out 14 0 (fun _ => HE.out.ax .st _ rfl)
  have sc := HR2.out.blk.cell 2 (v := .bool (M.rj s0 g m (j + 1)).stop) rfl
  rw [rj_stop HS2.out] at sc
  clear hA hK
  by_cases hst : m < j + 1
  · rw [decide_eq_true hst] at sc
    have HST : Hid (m < j + 1) := hst
    clear hst
    go_wp2_with fail
    go_at_call 77; refine hSt.mono ?_; rintro e y3 ⟨⟨u, rfl⟩, v3, hK⟩
    have HF : Hid (RunOn y3 x A cap m g (M.rj s0 g m (j + 1 + 1)) ∧ Syn M s0 g m (j + 1 + 1) (emb .over) (SpQ Q emb false) ∧ But [x] w y3) := by
      have h := hK.syn
      rw [HE.out.nx .st _ _ rfl] at h
      refine ⟨hK.run, ⟨h.at', fun hm => ⟨?_, (h.past hm).2⟩⟩, HB2.out.trans hK.but⟩
      rcases (HS2.out.past HST.out).1 with h1 | h1
      · exact .inr ⟨.ad, _, rfl, h1, rfl⟩
      · exact .inl ⟨h1, rfl⟩
    clear hSt hK sc
    go_wp2_with fail
    go_ret
    exact ⟨false, j + 1 + 1, rfl, HF.out.1, HF.out.2.1, fun h => absurd h (by have := HST.out; omega), HF.out.2.2, by omega⟩
  · rw [decide_eq_false hst] at sc
    have HST : Hid (j + 1 ≤ m) := (by omega : j + 1 ≤ m)
    clear hst
    go_wp2_with fail
    go_at_call 77; refine hSt.mono ?_; rintro e y3 ⟨⟨u, rfl⟩, v3, hK⟩
    have HF : Hid (RunOn y3 x A cap m g (M.rj s0 g m (j + 1 + 1)) ∧ Syn M s0 g m (j + 1 + 1) (emb .over) (SpQ Q emb true) ∧ But [x] w y3) := by
      have h := hK.syn
      rw [HE.out.nx .st _ _ rfl] at h
      refine ⟨hK.run, ⟨h.at', fun hm => ⟨?_, (h.past hm).2⟩⟩, HB2.out.trans hK.but⟩
      have hm1 : m = j + 1 := by have := HST.out; omega
      have h2 := HS2.out.at' HST.out
      rw [← hm1] at h2
      exact .inr ⟨.st, _, rfl, h2, rfl⟩
    clear hSt hK sc
    go_wp2_with fail
    go_ret
    exact ⟨true, j + 1 + 1, rfl, HF.out.1, HF.out.2.1, fun _ => rfl, HF.out.2.2, by omega⟩
theorem RunOn.slep {w : World} {x : Nat} {A : Option Addr} {cap m : Nat} {g : Nat → Int} {r : Rn} (h : RunOn w x A cap m g r) (b : Bool) : RunOn (w.setCell ⟨x, 9, none⟩ (.bool b)) x A cap m g { r with sleep := b } :=
  ⟨h.blk.set 9 _, h.got.but ((But.refl [x] w).set (g := x) (.inl (by simp)) 9 _) h.far, h.far, h.le, h.used⟩
theorem rj_in {σ : Type} {M : PM σ} {s0 : σ} {g : Nat → Int} {m i : Nat} (h : i ≤ m) : M.rj s0 g m i = ⟨i, false, 0, 0, 0, 0, false⟩ := by unfold PM.rj; rw [if_pos h]
/-- At which state a wait is. -/
def wtS {σ : Type} (emb : NsT → σ) (v : Int) (b : Bool) : σ := if v = 0 then (if b = true then emb .s1 else emb .s2) else emb .cl
theorem wt_step {σ : Type} {M : PM σ} {nt : Int} {emb : NsT → σ} (hE : PmIn M (nsPM nt) emb) (b : Bool) : ∃ a, M.ax (wtS emb 0 b) = some a ∧ a.k = 1 ∧ a.i = nt ∧ a.old = 0 ∧ a.new = 0 ∧ a.sl = !b ∧ (∀ v, M.nx (wtS emb 0 b) v = wtS emb v false) ∧ (wtS emb 0 b = emb .s1 ∨ wtS emb 0 b = emb .s2) := by
  cases b with
  | true => exact ⟨axLd nt, hE.ax .s1 _ rfl, rfl, rfl, rfl, rfl, rfl, fun v => (hE.nx .s1 _ v rfl).trans (by show emb (if v = 0 then .s2 else .cl) = wtS emb v false; unfold wtS; split <;> rfl), .inl rfl⟩
  | false => exact ⟨axWt nt, hE.ax .s2 _ rfl, rfl, rfl, rfl, rfl, rfl, fun v => (hE.nx .s2 _ v rfl).trans (by show emb (if v = 0 then .s2 else .cl) = wtS emb v false; unfold wtS; split <;> rfl), .inr rfl⟩
set_option maxHeartbeats 4000000 in
theorem syn_wait {σ : Type} {M : PM σ} {nt : Int} {emb : NsT → σ} (hE : PmIn M (nsPM nt) emb)
    {w : World} {x : Nat} {A : Option Addr} {cap m : Nat} {g : Nat → Int} {s0 : σ} {j : Nat} {Q : σ → Prop} (hR : RunOn w x A cap m g (M.rj s0 g m j)) (hS : Syn M s0 g m j (emb .s1) Q) (hb : ∀ j, j < m → 0 ≤ g j ∧ g j ≤ 18446744073709551615) :
    Calls Tryz.prog 152 #[.pointer (some ⟨x, 0, none⟩), .int .i64 nt] w fun e w' => (∃ v, e = .returned v) ∧ ∃ j', RunOn w' x A cap m g (M.rj s0 g m j') ∧ Syn M s0 g m j' (emb .cl) (fun r => Q r ∨ r = emb .s1 ∨ r = emb .s2) ∧ But [x] w w' ∧ j ≤ j' := by
  have HR0 : Hid (RunOn w x A cap m g (M.rj s0 g m j)) := hR
  have HS0 : Hid (Syn M s0 g m j (wtS emb 0 true) (fun r => Q r ∨ r = emb .s1 ∨ r = emb .s2)) := hS.weak (fun r h => .inl h)
  have HE : Hid (∀ b, ∃ a, M.ax (wtS emb 0 b) = some a ∧ a.k = 1 ∧ a.i = nt ∧ a.old = 0 ∧ a.new = 0 ∧ a.sl = !b ∧ (∀ v, M.nx (wtS emb 0 b) v = wtS emb v false) ∧ (wtS emb 0 b = emb .s1 ∨ wtS emb 0 b = emb .s2)) := wt_step hE
  have HCL : Hid (∀ v b, v ≠ 0 → wtS emb v b = emb .cl) := fun v b h => if_neg h
  clear hR hS hb hE
  go_enter Tryz.func152, Tryz.ntmps152
  go_wp2_with fail
  go_loopw [5, 6] (fun u1 u2 wr => ∃ (i : Nat) (v : Int) (b : Bool), u1 = .int .u64 v ∧ u2 = .bool b ∧ Hid (RunOn wr x A cap m g (M.rj s0 g m i)) ∧ Hid (But [x] w wr) ∧ Hid (Syn M s0 g m i (wtS emb v b) (fun r => Q r ∨ r = emb .s1 ∨ r = emb .s2)) ∧ j ≤ i) (fun _ _ wr => left' m x wr)
  case atStart => exact ⟨j, 0, true, rfl, rfl, HR0, But.refl _ _, HS0, Nat.le_refl _⟩
  case round =>
    clear HR0 HS0
    obtain ⟨i, v, b, rfl, rfl, HR, HB, HS, hji⟩ := hrel
    by_cases hv : v = 0
    · subst hv
      have c2 := HR.out.blk.cell 2 (v := .bool (M.rj s0 g m i).stop) rfl
      rw [rj_stop HS.out] at c2
      by_cases hst : m < i
      · rw [decide_eq_true hst] at c2
        have HF : Hid (RunOn wr x A cap m g (M.rj s0 g m i) ∧ Syn M s0 g m i (emb .cl) (fun r => Q r ∨ r = emb .s1 ∨ r = emb .s2) ∧ But [x] w wr) := ⟨HR.out, HS.out.as (fun h => absurd h (by omega)), HB.out⟩
        clear hst HE HCL HR HB HS
        go_wp2_with fail
        go_ret
        exact ⟨⟨_, rfl⟩, i, HF.out.1, HF.out.2.1, HF.out.2.2, hji⟩
      · rw [decide_eq_false hst] at c2
        have him : i ≤ m := by omega
        have hL := rload_on wr x A cap m g _ HR.out nt
        have HML : Hid (left' m x wr = m + 1 - i) := rj_left HR.out HS.out
        obtain ⟨a, a1, a2, a3, a4, a5, a6, a7, a8⟩ := HE.out b
        rw [rj_in him] at hL
        by_cases hlt : i < m
        · have e1 : doS m (⟨i, false, 0, 0, 0, 0, false⟩ : Rn) 1 nt 0 0 = M.rj s0 g m (i + 1) := by rw [rj_in (by omega)]; simp [doS, hlt]
          have e2 : doV m g (⟨i, false, 0, 0, 0, 0, false⟩ : Rn) = g i := by simp [doV, hlt]
          rw [e1, e2] at hL
          have HS1 : Hid (Syn M s0 g m (i + 1) (wtS emb (g i) false) (fun r => Q r ∨ r = emb .s1 ∨ r = emb .s2)) := by
            have h := HS.out.next (fun _ => a1) (v := g i) (fun _ => rfl)
            rw [a7] at h
            exact h.weak (fun r hr => hr.elim (fun h => .inr (a8.imp (fun e => h.trans e) (fun e => h.trans e))) id)
          have HLT : Hid (i + 1 ≤ m) := (by omega : i + 1 ≤ m)
          clear e1 e2 hst him a1 a2 a3 a4 a5 a6 a7 a8 HS
          generalize g i = vv at *
          go_wp2_with fail
          go_at_call 94; refine hL.mono ?_; rintro e w3 ⟨rfl, hR3, hB3⟩
          have HR3 : Hid (RunOn w3 x A cap m g (M.rj s0 g m (i + 1))) := hR3
          have HB3 : Hid (But [x] w w3) := HB.out.trans hB3
          have k2 := HR3.out.blk.cell 2 (v := .bool (M.rj s0 g m (i + 1)).stop) rfl
          rw [rj_stop HS1.out, decide_eq_false (by omega)] at k2
          clear hL hR3 hB3 c2 HR HB hlt
          go_wp2_with fail
          go_roundw
          case rel => exact ⟨i + 1, vv, false, rfl, rfl, HR3, HB3, HS1, by omega⟩
          case measure => rw [rj_left HR3.out HS1.out, HML.out]; have := HLT.out; omega
        · have hiM : i = m := by omega
          have e1 : doS m (⟨i, false, 0, 0, 0, 0, false⟩ : Rn) 1 nt 0 0 = ⟨m, true, 1, nt, 0, 0, false⟩ := by rw [hiM]; simp [doS]
          have e2 : doV m g (⟨i, false, 0, 0, 0, 0, false⟩ : Rn) = 0 := by rw [hiM]; simp [doV]
          rw [e1, e2] at hL
          have HS1 : Hid (Syn M s0 g m (i + 1) (wtS emb 0 false) (fun r => Q r ∨ r = emb .s1 ∨ r = emb .s2)) := by
            have h := HS.out.next (fun _ => a1) (v := 0) (fun h => absurd h hlt)
            rw [a7] at h
            exact h.weak (fun r hr => hr.elim (fun h => .inr (a8.imp (fun e => h.trans e) (fun e => h.trans e))) id)
          have HJ : Hid (M.rj s0 g m (i + 1) = ⟨m, true, 1, nt, 0, 0, !b⟩) := by
            have h2 := HS.out.at' him
            unfold PM.rj
            rw [if_neg (by omega), ← hiM, h2, PM.rn_some a1, a2, a3, a4, a5, a6]
            exact (rfl : (⟨i, true, 1, nt, 0, 0, !b⟩ : Rn) = ⟨i, true, 1, nt, 0, 0, !b⟩)
          clear e1 e2 hst him a1 a2 a3 a4 a5 a6 a7 a8 HS hlt
          go_wp2_with fail
          go_at_call 94; refine hL.mono ?_; rintro e w3 ⟨rfl, hR3, hB3⟩
          have HR3 : Hid (RunOn w3 x A cap m g ⟨m, true, 1, nt, 0, 0, false⟩) := hR3
          have HB3 : Hid (But [x] w w3) := HB.out.trans hB3
          have k2 := HR3.out.blk.cell 2 (v := .bool true) rfl
          have k9 := HR3.out.blk.cell 9 (v := .bool false) rfl
          have f9 := HR3.out.blk.fro 9
          have HR4 : Hid (RunOn (w3.setCell ⟨x, 9, none⟩ (.bool (!b))) x A cap m g (M.rj s0 g m (i + 1))) := by rw [HJ.out]; exact HR3.out.slep _
          have HB4 : Hid (But [x] w (w3.setCell ⟨x, 9, none⟩ (.bool (!b)))) := HB3.out.set (g := x) (.inl (by simp)) 9 _
          clear hL hR3 hB3 c2 HR HB HJ
          go_wp2_with fail
          go_roundw
          case rel => exact ⟨i + 1, 0, false, rfl, rfl, HR4, HB4, HS1, by omega⟩
          case measure => rw [rj_left HR4.out HS1.out, HML.out]; omega
    · have hd : decide (v = 0) = false := decide_eq_false hv
      have HF : Hid (RunOn wr x A cap m g (M.rj s0 g m i) ∧ Syn M s0 g m i (emb .cl) (fun r => Q r ∨ r = emb .s1 ∨ r = emb .s2) ∧ But [x] w wr) := ⟨HR.out, HS.out.as (fun _ => HCL.out v b hv), HB.out⟩
      clear HE HCL HR HB HS
      go_wp2_with fail
      go_ret
      exact ⟨⟨_, rfl⟩, i, HF.out.1, HF.out.2.1, HF.out.2.2, hji⟩
set_option maxHeartbeats 2000000 in
theorem syn_sleep {σ : Type} {M : PM σ} {P T G t : Int} {emb : NsT → σ} (hE : PmIn M (nsPM (wd (20 + P * 264) T 3 t 0)) emb) (hp : 0 ≤ P ∧ P ≤ 64) (hT : 0 ≤ T ∧ T ≤ 65536)
    {w : World} {x : Nat} {A : Option Addr} {cap m : Nat} {g : Nat → Int} {s0 : σ} {j : Nat} {Q : σ → Prop} (hR : RunOn w x A cap m g (M.rj s0 g m j)) (hS : Syn M s0 g m j (emb .s1) Q) (hb : ∀ j, j < m → 0 ≤ g j ∧ g j ≤ 18446744073709551615) :
    Calls Tryz.prog 111 #[.pointer (some ⟨x, 0, none⟩), .agg #[.int .i64 P, .int .i64 T, .int .i64 G], .int .i64 t] w fun e w' => (∃ v, e = .returned v) ∧ ∃ j', RunOn w' x A cap m g (M.rj s0 g m j') ∧ Syn M s0 g m j' (emb .over) (PmQ Q (nsPM (wd (20 + P * 264) T 3 t 0)) emb) ∧ But [x] w w' ∧ j ≤ j' := by
  have hb0 : Below w.heap.size w (w.alloc (.cells #[.int .i64 P, .int .i64 T, .int .i64 G] 23)) := (Below.refl _ _).alloc (Nat.le_refl _) _
  have HX : Hid (Blk (w.alloc (.cells #[.int .i64 P, .int .i64 T, .int .i64 G] 23)) w.heap.size #[.int .i64 P, .int .i64 T, .int .i64 G] 23) := Blk.new _ _ _
  have hxw := hR.blk.lt
  have HB0 : Hid (Below w.heap.size w (w.alloc (.cells #[.int .i64 P, .int .i64 T, .int .i64 G] 23))) := hb0
  have HBD : Hid (∀ j, j < m → 0 ≤ g j ∧ g j ≤ 18446744073709551615) := hb
  have hPA := fun W => rthrAt_all P T G t 0 W hp hT.2 (by omega)
  generalize wd (20 + P * 264) T 3 t 0 = nt at *
  have HE : Hid (PmIn M (nsPM nt) emb) := hE
  have k0 := HX.out.cell 0 (v := .int .i64 P) rfl
  have k1 := HX.out.cell 1 (v := .int .i64 T) rfl
  have k2 := HX.out.cell 2 (v := .int .i64 G) rfl
  have hPl := hPA (w.alloc (.cells #[.int .i64 P, .int .i64 T, .int .i64 G] 23))
  have HWt : Hid (∀ Y, Below w.heap.size w Y → _) := fun Y (hY : Below w.heap.size w Y) => syn_wait hE (hR.below hY) hS hb
  clear hR hS hb hb0 hp hT hE
  go_enter Tryz.func111, Tryz.ntmps111
  go_wp2_with fail
  generalize w.alloc (.cells #[.int .i64 P, .int .i64 T, .int .i64 G] 23) = W at *
  go_at_call 82; refine hPl.mono ?_; rintro e y2 ⟨rfl, h5⟩
  have hb2 : Below w.heap.size w y2 := HB0.out.trans (h5.mono HB0.out.size)
  have hW := HWt.out y2 hb2
  have HX2 : Hid (Blk y2 w.heap.size #[.int .i64 P, .int .i64 T, .int .i64 G] 23) := HX.out.but (But.of_below (l := []) h5) (by simp)
  have HB2 : Hid (But [x] w y2) := But.of_below hb2
  clear hPl h5 hb2 HWt HX HB0 k0 k1 k2
  go_wp2_with fail
  go_at_call 152; refine hW.mono ?_; rintro e y3 ⟨⟨v, rfl⟩, j3, hR3, hS3, hB3, hj3⟩
  have HR3 : Hid (RunOn y3 x A cap m g (M.rj s0 g m j3)) := hR3
  have HS3 : Hid (Syn M s0 g m j3 (emb .cl) (PmQ Q (nsPM nt) emb)) := hS3.weak (fun r hr => by
    rcases hr with hr | hr | hr
    · exact .inl hr
    · exact .inr ⟨.s1, _, rfl, hr⟩
    · exact .inr ⟨.s2, _, rfl, hr⟩)
  have HX3 : Hid (Blk y3 w.heap.size #[.int .i64 P, .int .i64 T, .int .i64 G] 23) := HX2.out.but hB3 (by simp; omega)
  have HB3 : Hid (But [x] w y3) := HB2.out.trans hB3
  have k0 := HX3.out.cell 0 (v := .int .i64 P) rfl
  have k1 := HX3.out.cell 1 (v := .int .i64 T) rfl
  have k2 := HX3.out.cell 2 (v := .int .i64 G) rfl
  have hPl := hPA y3
  clear hW hR3 hS3 hB3 HX2 HB2
  go_wp2_with fail
  go_at_call 82; refine hPl.mono ?_; rintro e y4 ⟨rfl, h5⟩
  have hSt := syn_store (HR3.out.below h5) HS3.out HBD.out nt 0 (fun _ => HE.out.ax .cl _ rfl)
  have HB4 : Hid (But [x] w y4) := HB3.out.trans (But.of_below h5)
  clear hPl hPA h5 k0 k1 k2 HX3 HB3 HR3
  go_wp2_with fail
  go_at_call 77; refine hSt.mono ?_; rintro e y5 ⟨⟨u, rfl⟩, v5, hK⟩
  have HF : Hid (RunOn y5 x A cap m g (M.rj s0 g m (j3 + 1)) ∧ Syn M s0 g m (j3 + 1) (emb .over) (PmQ Q (nsPM nt) emb) ∧ But [x] w y5) := by
    have h := hK.syn
    rw [HE.out.nx .cl _ _ rfl] at h
    exact ⟨hK.run, h.weak (fun r hr => PmQ.next (t := .cl) (N := nsPM nt) rfl hr), HB4.out.trans hK.but⟩
  clear hSt hK HB4 HS3
  go_wp2_with fail
  go_end0
  exact ⟨⟨_, rfl⟩, j3 + 1, HF.out.1, HF.out.2.1, HF.out.2.2, by omega⟩
end Go.Proofs.YthbgoakaijeemaaGreat

namespace Go.Proofs.YthbgoakaijeemaaGreat
open Go Go.RowKit
set_option linter.unusedVariables false
set_option maxRecDepth 100000
set_option linter.unusedSimpArgs false

def naS {σ : Type} (emb : NaT → σ) : NsT → σ
  | .over => emb .ld
  | q => emb (.slp q)
theorem na_nsIn {σ : Type} {M : PM σ} {P T t : Int} {emb : NaT → σ} (hE : PmIn M (naPM P T t) emb) : PmIn M (nsPM (wd (20 + P * 264) T 3 t 0)) (naS emb) := by
  refine ⟨fun q a h => ?_, fun q a v h => ?_⟩
  · cases q with
    | over => cases h
    | s1 => exact hE.ax (.slp .s1) a h
    | s2 => exact hE.ax (.slp .s2) a h
    | cl => exact hE.ax (.slp .cl) a h
  · cases q with
    | over => cases h
    | s1 =>
      refine (hE.nx (.slp .s1) a v h).trans ?_
      by_cases h0 : v = 0
      · have e : (nsPM (wd (20 + P * 264) T 3 t 0)).nx .s1 v = .s2 := if_pos h0
        show emb (if ((nsPM (wd (20 + P * 264) T 3 t 0)).ax ((nsPM (wd (20 + P * 264) T 3 t 0)).nx .s1 v)).isSome = true then .slp ((nsPM (wd (20 + P * 264) T 3 t 0)).nx .s1 v) else .ld) = naS emb ((nsPM (wd (20 + P * 264) T 3 t 0)).nx .s1 v)
        rw [e]; rfl
      · have e : (nsPM (wd (20 + P * 264) T 3 t 0)).nx .s1 v = .cl := if_neg h0
        show emb (if ((nsPM (wd (20 + P * 264) T 3 t 0)).ax ((nsPM (wd (20 + P * 264) T 3 t 0)).nx .s1 v)).isSome = true then .slp ((nsPM (wd (20 + P * 264) T 3 t 0)).nx .s1 v) else .ld) = naS emb ((nsPM (wd (20 + P * 264) T 3 t 0)).nx .s1 v)
        rw [e]; rfl
    | s2 =>
      refine (hE.nx (.slp .s2) a v h).trans ?_
      by_cases h0 : v = 0
      · have e : (nsPM (wd (20 + P * 264) T 3 t 0)).nx .s2 v = .s2 := if_pos h0
        show emb (if ((nsPM (wd (20 + P * 264) T 3 t 0)).ax ((nsPM (wd (20 + P * 264) T 3 t 0)).nx .s2 v)).isSome = true then .slp ((nsPM (wd (20 + P * 264) T 3 t 0)).nx .s2 v) else .ld) = naS emb ((nsPM (wd (20 + P * 264) T 3 t 0)).nx .s2 v)
        rw [e]; rfl
      · have e : (nsPM (wd (20 + P * 264) T 3 t 0)).nx .s2 v = .cl := if_neg h0
        show emb (if ((nsPM (wd (20 + P * 264) T 3 t 0)).ax ((nsPM (wd (20 + P * 264) T 3 t 0)).nx .s2 v)).isSome = true then .slp ((nsPM (wd (20 + P * 264) T 3 t 0)).nx .s2 v) else .ld) = naS emb ((nsPM (wd (20 + P * 264) T 3 t 0)).nx .s2 v)
        rw [e]; rfl
    | cl => exact hE.nx (.slp .cl) a v h
/-- Where a nap stopped, and what it answered. -/
def NaQ {σ : Type} (Q : σ → Prop) (emb : NaT → σ) (P T t : Int) (p' : Int) (c' : Bool) (q : σ) : Prop := (Q q ∧ p' = -1 ∧ c' = false) ∨ ∃ s a, (naPM P T t).ax s = some a ∧ q = emb s ∧ p' = s.p ∧ c' = s.spins
def NaGot {σ : Type} (M : PM σ) (emb : NaT → σ) (P T t : Int) (w : World) (x : Nat) (A : Option Addr) (cap m : Nat) (g : Nat → Int) (s0 : σ) (Q : σ → Prop) (j : Nat) (e : Ending) (w' : World) : Prop :=
  ∃ p' c' j' s, e = .returned (.agg #[.int .i64 p', .bool c', .bool true]) ∧ RunOn w' x A cap m g (M.rj s0 g m j') ∧ Syn M s0 g m j' (emb s) (NaQ Q emb P T t p' c') ∧ (naPM P T t).ax s = none ∧ (j' ≤ m → p' = s.p ∧ c' = s.spins) ∧ But [x] w w' ∧ j ≤ j'
set_option maxHeartbeats 4000000 in
theorem syn_nap {σ : Type} {M : PM σ} {P T G t : Int} {emb : NaT → σ} (hE : PmIn M (naPM P T t) emb) (hp : 0 ≤ P ∧ P ≤ 64) (hT : 0 ≤ T ∧ T ≤ 65536)
    {w : World} {x : Nat} {A : Option Addr} {cap m : Nat} {g : Nat → Int} {s0 : σ} {j : Nat} {Q : σ → Prop} (hR : RunOn w x A cap m g (M.rj s0 g m j)) (hS : Syn M s0 g m j (emb (.slp .s1)) Q) (hb : ∀ j, j < m → 0 ≤ g j ∧ g j ≤ 18446744073709551615) :
    Calls Tryz.prog 42 #[.pointer (some ⟨x, 0, none⟩), .agg #[.int .i64 P, .int .i64 T, .int .i64 G] , .int .i64 t] w fun e w' => NaGot M emb P T t w x A cap m g s0 Q j e w' := by
  have hxw := hR.blk.lt
  have HH : Hid (HdAt w (((w.alloc (.cells #[.int .i64 P, .int .i64 T, .int .i64 G] 23)).alloc (.cells #[.int .i64 0, .bool false, .bool false] 84)).alloc (.cells #[.int .i64 (-1), .bool false, .bool true] 84)) x A cap m g M s0 j j (emb (.slp .s1)) (Q) #[.int .i64 P, .int .i64 T, .int .i64 G] 84 #[.int .i64 0, .bool false, .bool false] (w.heap.size + 1 + 1) #[.int .i64 (-1), .bool false, .bool true]) := by
    have b1 : Below w.heap.size w (w.alloc (.cells #[.int .i64 P, .int .i64 T, .int .i64 G] 23)) := (Below.refl _ _).alloc (Nat.le_refl _) _
    have b2 : Below w.heap.size w ((w.alloc (.cells #[.int .i64 P, .int .i64 T, .int .i64 G] 23)).alloc (.cells #[.int .i64 0, .bool false, .bool false] 84)) := b1.alloc (by rw [World.size_alloc]; omega) _
    have b3 : Below w.heap.size w (((w.alloc (.cells #[.int .i64 P, .int .i64 T, .int .i64 G] 23)).alloc (.cells #[.int .i64 0, .bool false, .bool false] 84)).alloc (.cells #[.int .i64 (-1), .bool false, .bool true] 84)) := b2.alloc (by rw [World.size_alloc, World.size_alloc]; omega) _
    have c1 := Blk.new w #[.int .i64 P, .int .i64 T, .int .i64 G] 23
    have c2 := Blk.new (w.alloc (.cells #[.int .i64 P, .int .i64 T, .int .i64 G] 23)) #[.int .i64 0, .bool false, .bool false] 84
    have c3 := Blk.new ((w.alloc (.cells #[.int .i64 P, .int .i64 T, .int .i64 G] 23)).alloc (.cells #[.int .i64 0, .bool false, .bool false] 84)) #[.int .i64 (-1), .bool false, .bool true] 84
    rw [World.size_alloc] at c2
    rw [World.size_alloc, World.size_alloc] at c3
    refine ⟨hR.below b3, hS, But.of_below b3, (c1.al _).al _, c2.al _, c3, by omega, hxw, fun b e hm => ?_, Nat.le_refl _⟩
    simp at hm
    rcases hR.got.form with ⟨e0, _⟩ | ⟨gb, e0, hl⟩
    · rw [e0] at e; cases e
    · rw [e0] at e; cases e; omega
  have HE : Hid (PmIn M (naPM P T t) emb) := hE
  have HBD : Hid (∀ j, j < m → 0 ≤ g j ∧ g j ≤ 18446744073709551615) := hb
  have HP : Hid ((0 ≤ P ∧ P ≤ 64) ∧ (0 ≤ T ∧ T ≤ 65536)) := ⟨hp, hT⟩
  have hSl := syn_sleep (G := G) (na_nsIn hE) hp hT HH.out.run HH.out.syn hb
  have k0 := HH.out.cfg.cell 0 (v := .int .i64 P) rfl
  have k1 := HH.out.cfg.cell 1 (v := .int .i64 T) rfl
  have k2 := HH.out.cfg.cell 2 (v := .int .i64 G) rfl
  clear hR hS hb hp hT hE
  go_enter Tryz.func42, Tryz.ntmps42
  go_wp2_with fail
  generalize (((w.alloc (.cells #[.int .i64 P, .int .i64 T, .int .i64 G] 23)).alloc (.cells #[.int .i64 0, .bool false, .bool false] 84)).alloc (.cells #[.int .i64 (-1), .bool false, .bool true] 84)) = W at *
  generalize w.heap.size + 1 + 1 = o at *
  go_at_call 111; refine hSl.mono ?_; rintro e y1 ⟨⟨u, rfl⟩, j1, hR1, hS1, hB1, hj1⟩
  have HH1 : Hid (HdAt w y1 x A cap m g M s0 j j1 (emb .ld) (NaQ Q emb P T t (-1) false) #[.int .i64 P, .int .i64 T, .int .i64 G] 84 #[.int .i64 0, .bool false, .bool false] o #[.int .i64 (-1), .bool false, .bool true]) := HH.out.go hR1 (hS1.weak (fun q' h => by
    rcases h with h | ⟨q, a, h1, h2⟩
    · exact .inl ⟨h, rfl, rfl⟩
    · cases q with
      | over => cases h1
      | s1 => exact .inr ⟨.slp .s1, a, h1, h2, rfl, rfl⟩
      | s2 => exact .inr ⟨.slp .s2, a, h1, h2, rfl, rfl⟩
      | cl => exact .inr ⟨.slp .cl, a, h1, h2, rfl, rfl⟩)) hB1 hj1
  clear hSl hR1 hS1 hB1 hj1 HH k0 k1 k2
  have HAX : Hid (M.ax (emb .ld) = some (axLd (wd (20 + P * 264) T 3 t 1)) ∧ ∀ v, M.ax (emb (.cl v)) = some (axSt (wd (20 + P * 264) T 3 t 1) 0)) := ⟨HE.out.ax .ld _ rfl, fun v => HE.out.ax (.cl v) _ rfl⟩
  have hPA := fun W => rthrAt_all P T G t 1 W HP.out.1 HP.out.2.2 (by omega)
  generalize hnt : wd (20 + P * 264) T 3 t 1 = nt at HAX hPA
  clear hnt
  have k0 := HH1.out.cfg.cell 0 (v := .int .i64 P) rfl
  have k1 := HH1.out.cfg.cell 1 (v := .int .i64 T) rfl
  have k2 := HH1.out.cfg.cell 2 (v := .int .i64 G) rfl
  have hPl := hPA y1
  go_wp2_with fail
  go_at_call 82; refine hPl.mono ?_; rintro e y2 ⟨rfl, h5⟩
  have HH2 : Hid (HdAt w y2 x A cap m g M s0 j j1 (emb .ld) (NaQ Q emb P T t (-1) false) #[.int .i64 P, .int .i64 T, .int .i64 G] 84 #[.int .i64 0, .bool false, .bool false] o #[.int .i64 (-1), .bool false, .bool true]) := HH1.out.low h5
  have hL := syn_load HH2.out.run HH2.out.syn HBD.out nt (fun _ => HAX.out.1)
  clear hPl h5 k0 k1 k2 HH1
  go_wp2_with fail
  go_at_call 94; refine hL.mono ?_; rintro e y3 ⟨v, rfl, hK⟩
  have HVB : Hid (0 ≤ v ∧ v ≤ 18446744073709551615) := hK.bd
  have HH3 : Hid (HdAt w y3 x A cap m g M s0 j (j1 + 1) (emb (.cl v)) (NaQ Q emb P T t (-1) false) #[.int .i64 P, .int .i64 T, .int .i64 G] 84 #[.int .i64 0, .bool false, .bool false] o #[.int .i64 (-1), .bool false, .bool true]) := by
    have h := HH2.out.step hK
    rw [HE.out.nx .ld _ _ rfl] at h
    exact h.as (h.syn.weak (fun q' h => h.elim (fun h => .inr ⟨.ld, _, rfl, h, rfl, rfl⟩) id))
  clear hL hK HH2
  have k0 := HH3.out.cfg.cell 0 (v := .int .i64 P) rfl
  have k1 := HH3.out.cfg.cell 1 (v := .int .i64 T) rfl
  have k2 := HH3.out.cfg.cell 2 (v := .int .i64 G) rfl
  have hPl := hPA y3
  go_wp2_with fail
  go_at_call 82; refine hPl.mono ?_; rintro e y4 ⟨rfl, h5⟩
  have HH4 : Hid (HdAt w y4 x A cap m g M s0 j (j1 + 1) (emb (.cl v)) (NaQ Q emb P T t (-1) false) #[.int .i64 P, .int .i64 T, .int .i64 G] 84 #[.int .i64 0, .bool false, .bool false] o #[.int .i64 (-1), .bool false, .bool true]) := HH3.out.low h5
  have hSt := syn_store HH4.out.run HH4.out.syn HBD.out nt 0 (fun _ => HAX.out.2 v)
  clear hPl hPA h5 k0 k1 k2 HH3
  go_wp2_with fail
  go_at_call 77; refine hSt.mono ?_; rintro e y5 ⟨⟨u5, rfl⟩, v5, hK⟩
  have HH5 : Hid (HdAt w y5 x A cap m g M s0 j (j1 + 1 + 1) (emb (.st v)) (NaQ Q emb P T t (-1) false) #[.int .i64 P, .int .i64 T, .int .i64 G] 84 #[.int .i64 0, .bool false, .bool false] o #[.int .i64 (-1), .bool false, .bool true]) := by
    have h := HH4.out.step hK
    rw [HE.out.nx (.cl v) _ _ rfl] at h
    exact h.as (h.syn.weak (fun q' h => h.elim (fun h => .inr ⟨.cl v, _, rfl, h, rfl, rfl⟩) id))
  clear hSt hK HH4 HAX
  have sc := HH5.out.stop
  by_cases hst : m < j1 + 1 + 1
  · rw [decide_eq_true hst] at sc
    have HST : Hid (m < j1 + 1 + 1) := hst
    have HH : Hid (HdAt w y5 x A cap m g M s0 j (j1 + 1 + 1) (emb (.st v)) (NaQ Q emb P T t (-1) false) #[.int .i64 P, .int .i64 T, .int .i64 G] 84 #[.int .i64 0, .bool false, .bool false] o #[.int .i64 (-1), .bool false, .bool true]) := HH5.out
    clear hst HH5
    have o0 := HH.out.out.cell 0 (v := .int .i64 (-1)) rfl
    have o1 := HH.out.out.cell 1 (v := .bool false) rfl
    have o2 := HH.out.out.cell 2 (v := .bool true) rfl
    have r0 := HH.out.res.cell 0 (v := .int .i64 0) rfl
    have r1 := HH.out.res.cell 1 (v := .bool false) rfl
    have r2 := HH.out.res.cell 2 (v := .bool false) rfl
    have f0 := HH.out.res.fro 0
    have f1 := HH.out.res.fro 1
    have f2 := HH.out.res.fro 2
    have HN : Hid _ := HH.out.ret (a := .int .i64 (-1)) (b := .bool false) (c := .bool true) rfl
    go_wp2_with fail
    generalize ((y5.setCell ⟨w.heap.size + 1, 0, none⟩ (.int .i64 (-1))).setCell ⟨w.heap.size + 1, 1, none⟩ (.bool false)).setCell ⟨w.heap.size + 1, 2, none⟩ (.bool true) = yz at *
    have hfr := HN.out.2.2
    refine bodyPost_ret (v := .agg #[.int .i64 (-1), .bool false, .bool true]) (results_cell_row rfl _ _ (w.heap.size + 1) 84 #[.int .i64 (-1), .bool false, .bool true] _ _ rfl hfr Tryz.underlying84 rfl (by kernel_rfl)) rfl ?_
    exact ⟨-1, false, j1 + 1 + 1, .over v, rfl, HN.out.1, ⟨fun h => absurd h (by have := HST.out; omega), HH.out.syn.past⟩, rfl, fun h => absurd h (by have := HST.out; omega), HN.out.2.1, HH.out.le⟩
  · rw [decide_eq_false hst] at sc
    have HST : Hid (j1 + 1 + 1 ≤ m) := (by omega : j1 + 1 + 1 ≤ m)
    have hv := HVB.out
    have e1 : Int.tmod v 4294967296 = v % 4294967296 := Int.tmod_eq_emod_of_nonneg hv.1
    have e2 : IntKind.u64.wrap (v % 4294967296) = v % 4294967296 := wrap_u64 (by omega)
    have e3 : IntKind.i64.wrap (v % 4294967296) = v % 4294967296 := by
      simp only [IntKind.wrap, IntKind.bits, IntKind.signed]
      simp
      omega
    have e4 : wrap64 (v % 4294967296 - 1) = gvP v := by unfold wrap64 gvP; omega
    have HH6 : Hid (HdAt w ((y5.setCell ⟨o, 0, none⟩ (.int .i64 (v % 4294967296 - 1))).setCell ⟨o, 1, none⟩ (.bool (decide (4294967296 ≤ v)))) x A cap m g M s0 j (j1 + 1 + 1) (emb (.st v)) (fun _ => False) #[.int .i64 P, .int .i64 T, .int .i64 G] 84 #[.int .i64 0, .bool false, .bool false] o #[.int .i64 (v % 4294967296 - 1), .bool (decide (4294967296 ≤ v)), .bool true]) := ((HH5.out.as (Q2 := fun _ => False) ⟨HH5.out.syn.at', fun h => absurd h (by omega)⟩).set 0 (.int .i64 ((v % 4294967296 - 1)))).set 1 (.bool (decide (4294967296 ≤ v)))
    have hPl := rprcAt_all P T G (v % 4294967296 - 1) 0 ((y5.setCell ⟨o, 0, none⟩ (.int .i64 ((v % 4294967296 - 1)))).setCell ⟨o, 1, none⟩ (.bool (decide (4294967296 ≤ v)))) HP.out.1.2 (by omega)
    have HAX : Hid (M.ax (emb (.st v)) = some (axSt (wd 20 P 264 ((v % 4294967296 - 1)) 0) 1)) := HE.out.ax (.st v) _ rfl
    have oo0 := HH5.out.out.cell 0 (v := .int .i64 (-1)) rfl
    have oo1 := HH5.out.out.cell 1 (v := .bool false) rfl
    have ff0 := HH5.out.out.fro 0
    have ff1 := HH5.out.out.fro 1
    have q0 := HH6.out.out.cell 0 (v := .int .i64 ((v % 4294967296 - 1))) rfl
    have k0 := HH6.out.cfg.cell 0 (v := .int .i64 P) rfl
    have k1 := HH6.out.cfg.cell 1 (v := .int .i64 T) rfl
    have k2 := HH6.out.cfg.cell 2 (v := .int .i64 G) rfl
    have l0 := HH5.out.cfg.cell 0 (v := .int .i64 P) rfl
    have l1 := HH5.out.cfg.cell 1 (v := .int .i64 T) rfl
    have l2 := HH5.out.cfg.cell 2 (v := .int .i64 G) rfl
    have hne : o ≠ w.heap.size := by have := HH5.out.lo; omega
    clear hst hv HVB
    go_wp2_with fail
    clear oo0 oo1 ff0 ff1 q0 k0 k1 k2 l0 l1 l2 e1 e2 e3 e4 sc
    generalize ((y5.setCell ⟨o, 0, none⟩ (.int .i64 (v % 4294967296 - 1))).setCell ⟨o, 1, none⟩ (.bool (decide (4294967296 ≤ v)))) = V at *
    go_at_call 79; refine hPl.mono ?_; rintro e y6 ⟨rfl, h5⟩
    have HH7 : Hid (HdAt w y6 x A cap m g M s0 j (j1 + 1 + 1) (emb (.st v)) (fun _ => False) #[.int .i64 P, .int .i64 T, .int .i64 G] 84 #[.int .i64 0, .bool false, .bool false] o #[.int .i64 (v % 4294967296 - 1), .bool (decide (4294967296 ≤ v)), .bool true]) := HH6.out.low h5
    have hSt := syn_store HH7.out.run HH7.out.syn HBD.out (wd 20 P 264 (v % 4294967296 - 1) 0) 1 (fun _ => HAX.out)
    clear hPl h5 HH5 HH6
    go_wp2_with fail
    go_at_call 77; refine hSt.mono ?_; rintro e y7 ⟨⟨u7, rfl⟩, v7, hK⟩
    have HH : Hid (HdAt w y7 x A cap m g M s0 j (j1 + 1 + 1 + 1) (emb (.over v)) (NaQ Q emb P T t (v % 4294967296 - 1) (decide (4294967296 ≤ v))) #[.int .i64 P, .int .i64 T, .int .i64 G] 84 #[.int .i64 0, .bool false, .bool false] o #[.int .i64 (v % 4294967296 - 1), .bool (decide (4294967296 ≤ v)), .bool true]) := by
      have h := HH7.out.step hK
      rw [HE.out.nx (.st v) _ _ rfl] at h
      exact h.as (h.syn.weak (fun q' h => h.elim (fun h => .inr ⟨.st v, _, rfl, h, rfl, rfl⟩) (fun h => h.elim)))
    clear hSt hK HH7 HAX
    have o0 := HH.out.out.cell 0 (v := .int .i64 (v % 4294967296 - 1)) rfl
    have o1 := HH.out.out.cell 1 (v := .bool (decide (4294967296 ≤ v))) rfl
    have o2 := HH.out.out.cell 2 (v := .bool true) rfl
    have r0 := HH.out.res.cell 0 (v := .int .i64 0) rfl
    have r1 := HH.out.res.cell 1 (v := .bool false) rfl
    have r2 := HH.out.res.cell 2 (v := .bool false) rfl
    have f0 := HH.out.res.fro 0
    have f1 := HH.out.res.fro 1
    have f2 := HH.out.res.fro 2
    have HN : Hid _ := HH.out.ret (a := .int .i64 (v % 4294967296 - 1)) (b := .bool (decide (4294967296 ≤ v))) (c := .bool true) rfl
    go_wp2_with fail
    generalize ((y7.setCell ⟨w.heap.size + 1, 0, none⟩ (.int .i64 (v % 4294967296 - 1))).setCell ⟨w.heap.size + 1, 1, none⟩ (.bool (decide (4294967296 ≤ v)))).setCell ⟨w.heap.size + 1, 2, none⟩ (.bool true) = yz at *
    have hfr := HN.out.2.2
    refine bodyPost_ret (v := .agg #[.int .i64 (v % 4294967296 - 1), .bool (decide (4294967296 ≤ v)), .bool true]) (results_cell_row rfl _ _ (w.heap.size + 1) 84 #[.int .i64 (v % 4294967296 - 1), .bool (decide (4294967296 ≤ v)), .bool true] _ _ rfl hfr Tryz.underlying84 rfl (by kernel_rfl)) rfl ?_
    exact ⟨v % 4294967296 - 1, decide (4294967296 ≤ v), j1 + 1 + 1 + 1, .over v, rfl, HN.out.1, HH.out.syn, rfl, fun _ => ⟨rfl, rfl⟩, HN.out.2.1, HH.out.le⟩
end Go.Proofs.YthbgoakaijeemaaGreat
