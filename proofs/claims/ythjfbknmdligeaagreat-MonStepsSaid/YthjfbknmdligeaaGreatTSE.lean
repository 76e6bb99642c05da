/- MonSteps: each step of the monitor, pass by pass, over any memory, whatever others do between: its access, what it knows, the processor in its hand, whether it counts by itself; for every ground and all pokes; no condition. -/
import Derived.Test.YthjfbknmdligeaaGreatTSD
import Derived.Deep.AppendLies
import Derived.Deep.RegionLaw
import Derived.Test.YthjfbknmdligeaaGreatLaw
import Derived.Test.YthjfbknmdligeaaGreatGnd2
import Derived.Test.YthjfbknmdligeaaGreatTQC
import Derived.ProofKit
import Derived.Carry
import Derived.WalkKit
import Derived.OpenShut
import Derived.Test.YthjfbknmdligeaaGreatOpen
import Derived.Lib.SmallJoins
namespace Go.Proofs.YthjfbknmdligeaaGreat
open Go Go.RowKit
set_option linter.unusedVariables false
set_option maxRecDepth 100000
set_option linter.unusedSimpArgs false
set_option linter.unusedSectionVars false

theorem fold_D (b : Bool) (S : MoP × MoD) (e : MoE) (d : MoD) : moFold b S { e with D := d } = moFold b S e := by
  obtain ⟨ph, d2⟩ := S
  cases b <;> cases ph <;> rfl
theorem obs_lk {e : MoE} (h : KeptOk e) (l : LoT) : MoObs e.D.f (-1) false (.lk l e) := ⟨rfl, (kept_hc h).1, (kept_hc h).2⟩
theorem obs_acq {e : MoE} (h : KeptOk e) (a : AcqT) : MoObs e.D.f (-1) false (.acq a e) := ⟨rfl, (kept_hc h).1, (kept_hc h).2⟩
theorem obs_relN {e : MoE} (h : KeptOk e) (a : RelT) : MoObs e.D.f (-1) false (.relN a e) := ⟨rfl, (kept_hc h).1, (kept_hc h).2⟩
theorem obs_relT {e : MoE} (h : KeptOk e) (a : RelT) : MoObs e.D.f (-1) false (.relT a e) := ⟨rfl, (kept_hc h).1, (kept_hc h).2⟩
/-- The look within a pass. -/
def moLE (P : Nat) (e : MoE) (l : LoT) : MoT := if ((loPM P e.D.p).ax l).isSome = true then .lk l e else if l.e = true then .own .sp e else .acq .fresh e
theorem mo_loIn (P : Nat) (T : Int) (e : MoE) : PmIn (moPM false P T) (loPM P e.D.p) (moLE P e) where
  ax := fun q a h => by
    have e0 : moLE P e q = .lk q e := if_pos (by rw [h]; rfl)
    rw [e0]
    exact h
  nx := fun q a v h => by
    have e0 : moLE P e q = .lk q e := if_pos (by rw [h]; rfl)
    rw [e0]
    rfl
def moAE (e : MoE) : AcqT → MoT
  | .over _ => .own .im e
  | a => .acq a e
theorem mo_acqIn (P : Nat) (T : Int) (e : MoE) : AcqIn (moPM false P T) 0 T (moAE e) := by
  refine ⟨rfl, fun u => rfl, fun u => rfl, fun v => rfl, ?_, fun u v => rfl⟩
  intro u v
  by_cases h : v = u
  · subst h
    have e0 : (acqPM (wd 0 2 3 0 0) (wd 0 2 3 0 1) (wd 0 2 3 0 2) T).nx (.wait v) v = .has v := if_pos rfl
    show (if ((acqPM (wd 0 2 3 0 0) (wd 0 2 3 0 1) (wd 0 2 3 0 2) T).ax ((acqPM (wd 0 2 3 0 0) (wd 0 2 3 0 1) (wd 0 2 3 0 2) T).nx (.wait v) v)).isSome = true then MoT.acq ((acqPM (wd 0 2 3 0 0) (wd 0 2 3 0 1) (wd 0 2 3 0 2) T).nx (.wait v) v) e else .own .im e) = _
    rw [e0, if_pos rfl]
    rfl
  · have e0 : (acqPM (wd 0 2 3 0 0) (wd 0 2 3 0 1) (wd 0 2 3 0 2) T).nx (.wait u) v = .wait u := if_neg h
    show (if ((acqPM (wd 0 2 3 0 0) (wd 0 2 3 0 1) (wd 0 2 3 0 2) T).ax ((acqPM (wd 0 2 3 0 0) (wd 0 2 3 0 1) (wd 0 2 3 0 2) T).nx (.wait u) v)).isSome = true then MoT.acq ((acqPM (wd 0 2 3 0 0) (wd 0 2 3 0 1) (wd 0 2 3 0 2) T).nx (.wait u) v) e else .own .im e) = _
    rw [e0, if_neg h]
    rfl
def moRN (P : Nat) (e : MoE) : RelT → MoT
  | .over => moFold false (moVisit P e.D (e.D.p + 1)) e
  | r => .relN r e
def moRT (e : MoE) : RelT → MoT
  | .over => .own .sw e
  | r => .relT r e
theorem mo_relNIn (P : Nat) (T : Int) (e : MoE) : RelIn (moPM false P T) 0 (moRN P e) := ⟨rfl, rfl, fun v => rfl, fun v => rfl⟩
theorem mo_relTIn (P : Nat) (T : Int) (e : MoE) : RelIn (moPM false P T) 0 (moRT e) := ⟨rfl, rfl, fun v => rfl, fun v => rfl⟩
set_option maxHeartbeats 8000000 in
theorem rm_waits {w : World} {x : Nat} {A : Option Addr} {cap m : Nat} {g : Nat → Int} {P : Nat} {T G : Int} {s0 : MoT} {j : Nat} {Q : MoT → Prop} {y b cp p : Nat} {f : Nat → Int} {now : Int} {late : Bool} {e : MoE} (h : RmAt w w x A cap m g P T s0 j (.own .ca e) Q y b cp f (-1) false) (hj : j ≤ m) (hb : ∀ j, j < m → 0 ≤ g j ∧ g j ≤ 18446744073709551615) (hk : KeptOk e) (hep : e.D.p = p) (hef : e.D.f = f) (hen : e.D.nw = now) (hel : e.D.lt = late) (hp : p < P) (hP : (P : Int) ≤ 64) (hf : ∀ i, 0 ≤ f i ∧ f i ≤ 18446744073709551615) (hn : 0 ≤ now ∧ now ≤ 18446744073709551615) :
    Calls Tryz.prog 46 #[.pointer (some ⟨y, 0, none⟩), .pointer (some ⟨x, 0, none⟩), .agg #[.int .i64 P, .int .i64 T, .int .i64 G], .int .i64 p, .int .u64 now, .bool late] w fun e' w' => ∃ bv j' f' e2, e' = .returned (.bool bv) ∧ RmAt w w' x A cap m g P T s0 j' (if bv = true then .acq .fresh e2 else moFold false (moVisit P e2.D (p + 1)) e2) (MoObs f' (-1) false) y b cp f' (-1) false ∧ (e2.D.f = f' ∧ e2.hv = e.hv ∧ e2.D.p = p ∧ e2.D.nw = now) ∧ (∀ i, 0 ≤ f' i ∧ f' i ≤ 18446744073709551615) ∧ (m < j' → bv = false) := by
  obtain ⟨lp, hlp⟩ : ∃ lp : Int → Int, ∀ f, lp f = wd 20 P 264 p f := ⟨fun f => wd 20 P 264 p f, fun f => rfl⟩
  have HPr : Hid (∀ f : Int, 0 ≤ f ∧ f < 8 → ∀ Y : World, Calls Tryz.prog 25 #[.int .i64 p, .int .i64 f] Y fun e w' => e = .returned (.int .i64 (lp f)) ∧ Y = w') := fun f hf Y => by
    rw [hlp f]
    have h := rprc_any p f Y (by omega) hf
    rw [show (20 : Int) + 264 * p + f = wd 20 P 264 p f by unfold wd; rw [if_pos ⟨by omega, by omega, by omega, by omega⟩]; omega] at h
    exact h
  have HM : Hid (∀ W, Calls Tryz.prog 68 #[.int .u64 (f (p * 4 + 3)), .int .u64 now] W fun e w' => e = .returned (.int .u64 ((now - f (p * 4 + 3)) % 4294967296)) ∧ W = w') := fun W => rmny_any _ _ W (hf _) hn
  have HBD : Hid (∀ j, j < m → 0 ≤ g j ∧ g j ≤ 18446744073709551615) := hb
  have HC : Hid (e.D.p = p ∧ e.D.f = f ∧ e.D.nw = now ∧ KeptOk e ∧ (∀ i, 0 ≤ f i ∧ f i ≤ 18446744073709551615) ∧ (0 ≤ now ∧ now ≤ 18446744073709551615) ∧ p < P ∧ e.D.lt = late) := ⟨hep, hef, hen, hk, hf, hn, hp, hel⟩
  have HP : Hid ((0 : Int) ≤ (P : Int) ∧ (P : Int) ≤ 64) := ⟨by omega, hP⟩
  have hAx : (moPM false P T).ax (.own .ca e) = some (axLd (lp 5)) := by rw [hlp, ← hep]; rfl
  have hb0 : Below w.heap.size w (w.alloc (.cells #[.int .i64 P, .int .i64 T, .int .i64 G] 23)) := (Below.refl _ _).alloc (Nat.le_refl _) _
  have HX0 : Hid (Blk (w.alloc (.cells #[.int .i64 P, .int .i64 T, .int .i64 G] 23)) w.heap.size #[.int .i64 P, .int .i64 T, .int .i64 G] 23) := Blk.new _ _ _
  have HFR : Hid (x ≠ w.heap.size ∧ y ≠ w.heap.size ∧ b ≠ w.heap.size) := ⟨by have := h.run.blk.lt; omega, by have := h.seen.lt; omega, by have := h.row.lt; omega⟩
  have HH : Hid (RmAt w (w.alloc (.cells #[.int .i64 P, .int .i64 T, .int .i64 G] 23)) x A cap m g P T s0 j (.own .ca e) Q y b cp f (-1) false) := h.low hb0
  have hA := syn_load HH.out.run HH.out.syn hb (lp 5) (fun _ => hAx)
  have i1 : (p : Int) < (P : Int) := by omega
  have i0 : (0 : Int) ≤ (p : Int) := by omega
  clear h hb hk hep hef hen hel hf hn hlp hAx hb0 hP
  go_enter Tryz.func46, Tryz.ntmps46
  go_wp2_with fail
  generalize (w.alloc (.cells #[.int .i64 P, .int .i64 T, .int .i64 G] 23)) = W at *
  go_at_call 25; refine (HPr.out _ (by omega) _).mono ?_; rintro e1 w1 ⟨rfl, rfl⟩
  go_wp2_with fail
  go_at_call 44; refine hA.mono ?_; rintro e1 w2 ⟨v, rfl, hK⟩
  have H2 : Hid (RmAt w w2 x A cap m g P T s0 (j + 1) ((moPM false P T).nx (.own .ca e) v) (fun r => r = .own .ca e ∨ Q r) y b cp f (-1) false) := HH.out.step hK
  have HX2 : Hid (Blk w2 w.heap.size #[.int .i64 P, .int .i64 T, .int .i64 G] 23) := HX0.out.but hK.but (by simpa using HFR.out.1.symm)
  have HV : Hid (0 ≤ v ∧ v ≤ 18446744073709551615) := hK.bd
  clear hA hK HX0
  have sc := H2.out.stop
  by_cases hst : m < j + 1
  · rw [decide_eq_true hst] at sc
    have HST : Hid (m < j + 1 ∧ j ≤ m) := ⟨hst, hj⟩
    clear hst hj
    go_wp2_with fail
    go_ret
    refine ⟨false, j + 1, f, e, rfl, H2.out.as ⟨fun h' => absurd h' (by have := HST.out; omega), fun hm => ⟨?_, (H2.out.syn.past hm).2⟩⟩, ⟨HC.out.2.1, rfl, HC.out.1, HC.out.2.2.1⟩, HC.out.2.2.2.2.1, fun _ => rfl⟩
    rcases (H2.out.syn.past hm).1 with h1 | h1
    · rw [h1, ← HC.out.2.1]; exact obs_own HC.out.2.2.2.1 _
    · have hjm : m = j := by have := HST.out; omega
      have h0 := HH.out.syn.at' (by omega)
      rw [hjm, h0, ← HC.out.2.1]; exact obs_own HC.out.2.2.2.1 _
  rw [decide_eq_false hst] at sc
  have HST : Hid (j + 1 ≤ m) := (by omega : j + 1 ≤ m)
  clear hst hj HH
  have c0 := H2.out.seen.cell 0 (v := .slice (some ⟨b, 0, none⟩) P cp) rfl
  have r2 := H2.out.row.cell (i := p * 4 + 2) (by omega)
  have r3 := H2.out.row.cell (i := p * 4 + 3) (by omega)
  have q2 := H2.out.row.fro (p * 4 + 2)
  have q3 := H2.out.row.fro (p * 4 + 3)
  have hyb := H2.out.ne.1
  have hxb := H2.out.ne.2.2
  by_cases hc : late = false ∧ v ≠ f (p * 4 + 2)
  · obtain ⟨rfl, hv⟩ := hc
    have d1 : (v != f (p * 4 + 2)) = true := by simpa using hv
    have HR : Hid (RmAt w ((w2.setCell ⟨b, p * 4 + 2, none⟩ (.int .u64 v)).setCell ⟨b, p * 4 + 3, none⟩ (.int .u64 now)) x A cap m g P T s0 (j + 1) (moFold false (moVisit P (moCallsRow e.D v) (p + 1)) { e with D := moCallsRow e.D v }) (MoObs (upd (upd f (p * 4 + 2) v) (p * 4 + 3) now) (-1) false) y b cp (upd (upd f (p * 4 + 2) v) (p * 4 + 3) now) (-1) false) := by
      have h3 := (H2.out.rset (p * 4 + 2) (by omega) v).rset (p * 4 + 3) (by omega) now
      refine h3.as (syn_going h3.syn HST.out ?_ _)
      rw [fold_D, ← HC.out.1]
      exact if_pos ⟨HC.out.2.2.2.2.2.2.2, by rw [HC.out.1, HC.out.2.1]; exact hv⟩
    clear hv H2 HX2
    go_wp2_with fail
    go_ret
    exact ⟨false, j + 1, _, { e with D := moCallsRow e.D v }, rfl, HR.out, ⟨by show upd (upd e.D.f (e.D.p * 4 + 2) v) (e.D.p * 4 + 3) e.D.nw = _; rw [HC.out.1, HC.out.2.1, HC.out.2.2.1], rfl, HC.out.1, HC.out.2.2.1⟩, upd_bd (upd_bd HC.out.2.2.2.2.1 HV.out) HC.out.2.2.2.2.2.1, fun _ => rfl⟩
  · obtain ⟨e1, he1⟩ : ∃ e1 : MoE, e1 = { e with hl := true } := ⟨_, rfl⟩
    have HE1 : Hid (e1.D.p = p ∧ e1.D.f = f ∧ e1.D.nw = now ∧ KeptOk e1 ∧ e1.hv = e.hv) := by rw [he1]; exact ⟨HC.out.1, HC.out.2.1, HC.out.2.2.1, HC.out.2.2.2.1, rfl⟩
    have H3 : Hid (RmAt w w2 x A cap m g P T s0 (j + 1) (moLE P e1 .hd) (fun _ => False) y b cp f (-1) false) := H2.out.as (syn_going H2.out.syn HST.out (by
      rw [show moLE P e1 .hd = .lk .hd e1 from if_pos rfl, he1]
      exact if_neg (fun h => hc ⟨HC.out.2.2.2.2.2.2.2 ▸ h.1, by rw [← HC.out.1, ← HC.out.2.1]; exact h.2⟩)) _)
    have hlo := syn_look (G := G) (T := T) (mo_loIn P T e1) HP.out H3.out.run H3.out.syn HBD.out
    rw [HE1.out.1] at hlo
    have k0 := HX2.out.cell 0 (v := .int .i64 P) rfl
    have k1 := HX2.out.cell 1 (v := .int .i64 T) rfl
    have k2 := HX2.out.cell 2 (v := .int .i64 G) rfl
    have d1 : late = false → (v != f (p * 4 + 2)) = false := fun h => by
      have : v = f (p * 4 + 2) := Decidable.byContradiction fun hn => hc ⟨h, hn⟩
      simpa using this
    have HXX : Hid (late = false → (v != f (p * 4 + 2)) = false) := d1
    clear hc he1 H2 d1
    cases late
    all_goals
      have d2 := HXX.out
      simp only [forall_const, reduceCtorEq, false_implies] at d2
      go_wp2_with fail
      go_at_call 70; refine hlo.mono ?_; rintro e3 w3 ⟨z, j3, s3, rfl, l1, l2, l3, l4, l5, l6, l7⟩
      have H4 : Hid (RmAt w w3 x A cap m g P T s0 j3 (moLE P e1 s3) (MoObs f (-1) false) y b cp f (-1) false) := (H3.out.go l1 l2 l6).as (l2.weak (fun q hq => by
        rcases hq with hq | ⟨t, a, ha, hq⟩
        · exact hq.elim
        · rw [hq, show moLE P e1 t = .lk t e1 from if_pos (by rw [HE1.out.1, ha]; rfl), ← HE1.out.2.1]
          exact obs_lk HE1.out.2.2.2.1 t))
      have HZ : Hid ((loPM P p).ax s3 = none ∧ (j3 ≤ m → z = s3.e) ∧ (m < j3 → z = false)) := ⟨l3, l4, l5⟩
      clear hlo l1 l2 l3 l4 l5 l6 l7 H3 k0 k1 k2 HX2 c0 r2 r3 q2 q3 sc
      have sc := H4.out.stop
      by_cases hst : m < j3
      · rw [decide_eq_true hst] at sc
        have HST3 : Hid (m < j3) := hst
        clear hst
        go_wp2_with fail
        go_ret
        exact ⟨false, j3, f, e1, rfl, H4.out.as (syn_stopped H4.out.syn HST3.out (fun q h => h)), ⟨HE1.out.2.1, HE1.out.2.2.2.2, HE1.out.1, HE1.out.2.2.1⟩, HC.out.2.2.2.2.1, fun _ => rfl⟩
      rw [decide_eq_false hst] at sc
      have HST3 : Hid (j3 ≤ m) := (by omega : j3 ≤ m)
      clear hst
      have hzz : z = s3.e := HZ.out.2.1 HST3.out
      cases z with
      | false =>
        have H5 : Hid (RmAt w w3 x A cap m g P T s0 j3 (.acq .fresh e1) (MoObs f (-1) false) y b cp f (-1) false) := H4.out.as (syn_going H4.out.syn HST3.out (by
          unfold moLE
          rw [HE1.out.1, HZ.out.1, if_neg (by simp), if_neg (by rw [← hzz]; decide)]) _)
        clear hzz H4
        go_wp2_with fail
        go_ret
        exact ⟨true, j3, f, e1, rfl, H5.out, ⟨HE1.out.2.1, HE1.out.2.2.2.2, HE1.out.1, HE1.out.2.2.1⟩, HC.out.2.2.2.2.1, fun h => absurd h (by have := HST3.out; omega)⟩
      | true =>
        have H5 : Hid (RmAt w w3 x A cap m g P T s0 j3 (.own .sp e1) (fun _ => False) y b cp f (-1) false) := H4.out.as (syn_going H4.out.syn HST3.out (by
          unfold moLE
          rw [HE1.out.1, HZ.out.1, if_neg (by simp), if_pos hzz.symm]) _)
        have hA5 := syn_load H5.out.run H5.out.syn HBD.out 13 (fun _ => rfl)
        clear hzz H4
        go_wp2_with fail
        go_at_call 44; refine hA5.mono ?_; rintro e4 w4 ⟨v1, rfl, hK⟩
        have H6 : Hid (RmAt w w4 x A cap m g P T s0 (j3 + 1) (.own .ip { e1 with D := { e1.D with sp := v1 } }) (MoObs f (-1) false) y b cp f (-1) false) := by
          have h6 := H5.out.step hK
          refine h6.as (h6.syn.weak (fun q hq => ?_))
          rcases hq with hq | hq
          · rw [hq, ← HE1.out.2.1]; exact obs_own HE1.out.2.2.2.1 _
          · exact hq.elim
        have hA6 := syn_load H6.out.run H6.out.syn HBD.out 10 (fun _ => rfl)
        clear hA5 hK H5 sc
        go_wp2_with fail
        go_at_call 44; refine hA6.mono ?_; rintro e5 w5 ⟨v2, rfl, hK⟩
        have H7 : Hid (RmAt w w5 x A cap m g P T s0 (j3 + 1 + 1) ((moPM false P T).nx (.own .ip { e1 with D := { e1.D with sp := v1 } }) v2) (MoObs f (-1) false) y b cp f (-1) false) := by
          have h7 := H6.out.step hK
          refine h7.as (h7.syn.weak (fun q hq => ?_))
          rcases hq with hq | hq
          · rw [hq, ← HE1.out.2.1]; exact obs_own (e := { e1 with D := { e1.D with sp := v1 } }) HE1.out.2.2.2.1 _
          · exact hq
        clear hA6 hK H6
        have sc := H7.out.stop
        by_cases hst : m < j3 + 1 + 1
        · rw [decide_eq_true hst] at sc
          have HST7 : Hid (m < j3 + 1 + 1) := hst
          clear hst
          go_wp2_with fail
          go_ret
          exact ⟨false, j3 + 1 + 1, f, e1, rfl, H7.out.as (syn_stopped H7.out.syn HST7.out (fun q h => h)), ⟨HE1.out.2.1, HE1.out.2.2.2.2, HE1.out.1, HE1.out.2.2.1⟩, HC.out.2.2.2.2.1, fun _ => rfl⟩
        rw [decide_eq_false hst] at sc
        have HST7 : Hid (j3 + 1 + 1 ≤ m) := (by omega : j3 + 1 + 1 ≤ m)
        clear hst
        have c0 := H7.out.seen.cell 0 (v := .slice (some ⟨b, 0, none⟩) P cp) rfl
        have r3 := H7.out.row.cell (i := p * 4 + 3) (by omega)
        obtain ⟨e9, he9⟩ : ∃ e9 : MoE, e9 = { e1 with D := { e1.D with sp := v1 } } := ⟨_, rfl⟩
        have HE9 : Hid (e9.D.f = f ∧ e9.hv = e.hv ∧ e9.D.p = p ∧ e9.D.nw = now) := by rw [he9]; exact ⟨HE1.out.2.1, HE1.out.2.2.2.2, HE1.out.1, HE1.out.2.2.1⟩
        have hmm := HM.out w5
        obtain ⟨mm, hmn⟩ : ∃ mm, (now - f (p * 4 + 3)) % 4294967296 = mm := ⟨_, rfl⟩
        rw [hmn] at hmm
        have HWA : Hid (∀ bv : Bool, (bv = true ↔ ¬ ((v1 ≠ 0 ∨ v2 ≠ 0) ∧ mm < 10)) → RmAt w w5 x A cap m g P T s0 (j3 + 1 + 1) (if bv = true then .acq .fresh e9 else moFold false (moVisit P e9.D (p + 1)) e9) (MoObs f (-1) false) y b cp f (-1) false) := fun bv hbv => by
          refine H7.out.as (syn_going H7.out.syn HST7.out ?_ _)
          have hw9 : moWaits e9.D v2 = decide ((v1 ≠ 0 ∨ v2 ≠ 0) ∧ mm < 10) := by
            unfold moWaits
            rw [show e9.D.sp = v1 by rw [he9], HE9.out.2.2.2, HE9.out.1, HE9.out.2.2.1, hmn]
          rw [← he9]
          show (if moWaits e9.D v2 = true then moFold false (moVisit P e9.D (e9.D.p + 1)) e9 else .acq .fresh e9) = _
          rw [hw9, HE9.out.2.2.1]
          by_cases hq : (v1 ≠ 0 ∨ v2 ≠ 0) ∧ mm < 10
          · rw [if_pos (decide_eq_true hq), if_neg (fun h => hbv.1 h hq)]
          · rw [if_neg (by rw [decide_eq_false hq]; decide), if_pos (hbv.2 hq)]
        clear H7 he9 hmn
        by_cases h1 : v1 = 0
        · subst h1
          by_cases h2 : v2 = 0
          · subst h2
            clear hmm
            go_wp2_with fail
            go_ret
            exact ⟨true, j3 + 1 + 1, f, e9, rfl, HWA.out true ⟨fun _ h => by simp at h, fun _ => rfl⟩, HE9.out, HC.out.2.2.2.2.1, fun h => absurd h (by have := HST7.out; omega)⟩
          · have d3 : (v2 == 0) = false := by simpa using h2
            by_cases h3 : 10 ≤ mm
            · have d4 : decide (10 ≤ mm) = true := decide_eq_true h3
              have HF : Hid _ := HWA.out true ⟨fun _ h => by omega, fun _ => rfl⟩
              clear h2 h3
              go_wp2_with fail
              go_at_call 68; refine hmm.mono ?_; rintro e6 w6 ⟨rfl, rfl⟩
              clear hmm
              go_wp2_with fail
              go_ret
              exact ⟨true, j3 + 1 + 1, f, e9, rfl, HF.out, HE9.out, HC.out.2.2.2.2.1, fun h => absurd h (by have := HST7.out; omega)⟩
            · have d4 : decide (10 ≤ mm) = false := decide_eq_false h3
              have HF : Hid _ := HWA.out false ⟨fun h => (by cases h), fun h => (h ⟨.inr h2, by omega⟩).elim⟩
              clear h2 h3
              go_wp2_with fail
              go_at_call 68; refine hmm.mono ?_; rintro e6 w6 ⟨rfl, rfl⟩
              clear hmm
              go_wp2_with fail
              go_ret
              exact ⟨false, j3 + 1 + 1, f, e9, rfl, HF.out, HE9.out, HC.out.2.2.2.2.1, fun h => absurd h (by have := HST7.out; omega)⟩
        · have d3 : (v1 == 0) = false := by simpa using h1
          by_cases h3 : 10 ≤ mm
          · have d4 : decide (10 ≤ mm) = true := decide_eq_true h3
            have HF : Hid _ := HWA.out true ⟨fun _ h => by omega, fun _ => rfl⟩
            clear h1 h3
            go_wp2_with fail
            go_at_call 68; refine hmm.mono ?_; rintro e6 w6 ⟨rfl, rfl⟩
            clear hmm
            go_wp2_with fail
            go_ret
            exact ⟨true, j3 + 1 + 1, f, e9, rfl, HF.out, HE9.out, HC.out.2.2.2.2.1, fun h => absurd h (by have := HST7.out; omega)⟩
          · have d4 : decide (10 ≤ mm) = false := decide_eq_false h3
            have HF : Hid _ := HWA.out false ⟨fun h => (by cases h), fun h => (h ⟨.inl h1, by omega⟩).elim⟩
            clear h1 h3
            go_wp2_with fail
            go_at_call 68; refine hmm.mono ?_; rintro e6 w6 ⟨rfl, rfl⟩
            clear hmm
            go_wp2_with fail
            go_ret
            exact ⟨false, j3 + 1 + 1, f, e9, rfl, HF.out, HE9.out, HC.out.2.2.2.2.1, fun h => absurd h (by have := HST7.out; omega)⟩
end Go.Proofs.YthjfbknmdligeaaGreat

namespace Go.Proofs.YthjfbknmdligeaaGreat
open Go Go.RowKit
set_option linter.unusedVariables false
set_option maxRecDepth 100000
set_option linter.unusedSimpArgs false
set_option linter.unusedSectionVars false

set_option maxHeartbeats 8000000 in
theorem rm_spare {w : World} {x : Nat} {A : Option Addr} {cap m : Nat} {g : Nat → Int} {P : Nat} {T G : Int} {s0 : MoT} {j : Nat} {Q : MoT → Prop} {y b cp p : Nat} {f : Nat → Int} {e : MoE} (h : RmAt w w x A cap m g P T s0 j (.acq .fresh e) Q y b cp f (-1) false) (hj : j ≤ m) (hb : ∀ j, j < m → 0 ≤ g j ∧ g j ≤ 18446744073709551615) (hk : KeptOk e) (hep : e.D.p = p) (hef : e.D.f = f) (hT : 0 ≤ T ∧ T ≤ 300) :
    Calls Tryz.prog 47 #[.pointer (some ⟨x, 0, none⟩), .agg #[.int .i64 P, .int .i64 T, .int .i64 G]] w fun e' w' => ∃ bv j' e2, e' = .returned (.bool bv) ∧ RmAt w w' x A cap m g P T s0 j' (if bv = true then .own .sw e2 else moFold false (moVisit P e2.D (p + 1)) e2) (MoObs f (-1) false) y b cp f (-1) false ∧ (e2.D.f = f ∧ e2.hv = e.hv ∧ e2.D.p = p ∧ e2.D.nw = e.D.nw) ∧ (m < j' → bv = false) := by
  have HBD : Hid (∀ j, j < m → 0 ≤ g j ∧ g j ≤ 18446744073709551615) := hb
  have HC : Hid (e.D.p = p ∧ e.D.f = f ∧ KeptOk e ∧ 0 ≤ T ∧ T ≤ 300) := ⟨hep, hef, hk, hT⟩
  have hb0 : Below w.heap.size w (w.alloc (.cells #[.int .i64 P, .int .i64 T, .int .i64 G] 23)) := (Below.refl _ _).alloc (Nat.le_refl _) _
  have HX0 : Hid (Blk (w.alloc (.cells #[.int .i64 P, .int .i64 T, .int .i64 G] 23)) w.heap.size #[.int .i64 P, .int .i64 T, .int .i64 G] 23) := Blk.new _ _ _
  have HFR : Hid (x ≠ w.heap.size) := (by have := h.run.blk.lt; omega : x ≠ w.heap.size)
  have HH : Hid (RmAt w (w.alloc (.cells #[.int .i64 P, .int .i64 T, .int .i64 G] 23)) x A cap m g P T s0 j (moAE e .fresh) (MoObs f (-1) false) y b cp f (-1) false) := (h.low hb0).as (syn_going h.syn hj rfl _)
  have hA := syn_acquire (mo_acqIn P T e) (by omega) hT HH.out.run HH.out.syn hb
  have k1 := HX0.out.cell 1 (v := .int .i64 T) rfl
  clear h hb hk hep hef hb0 hj hT
  go_enter Tryz.func47, Tryz.ntmps47
  go_wp2_with fail
  generalize (w.alloc (.cells #[.int .i64 P, .int .i64 T, .int .i64 G] 23)) = W at *
  go_at_call 71; refine hA.mono ?_; rintro e1 w1 ⟨⟨u, rfl⟩, j1, t1, l1, l2, l3, l4⟩
  have H1 : Hid (RmAt w w1 x A cap m g P T s0 j1 (.own .im e) (MoObs f (-1) false) y b cp f (-1) false) := (HH.out.go l1 l2 l3).as (l2.weak (fun q hq => by
    rcases hq with hq | ⟨p', hp', hq⟩
    · exact hq
    · rw [hq, ← HC.out.2.1]
      cases p' with
      | over t => exact absurd rfl (hp' t)
      | fresh => exact obs_acq HC.out.2.2.1 _
      | wait t => exact obs_acq HC.out.2.2.1 _
      | has t => exact obs_acq HC.out.2.2.1 _))
  have HX1 : Hid (Blk w1 w.heap.size #[.int .i64 P, .int .i64 T, .int .i64 G] 23) := HX0.out.but l3 (by simpa using HFR.out.symm)
  have hA1 := syn_load H1.out.run H1.out.syn HBD.out 12 (fun _ => rfl)
  clear hA l1 l2 l3 l4 HH HX0 k1
  go_wp2_with fail
  go_at_call 44; refine hA1.mono ?_; rintro e2 w2 ⟨v1, rfl, hK⟩
  have H2 : Hid (RmAt w w2 x A cap m g P T s0 (j1 + 1) (.own .th { e with D := { e.D with im := v1 } }) (MoObs f (-1) false) y b cp f (-1) false) := by
    have h6 := H1.out.step hK
    refine h6.as (h6.syn.weak (fun q hq => ?_))
    rcases hq with hq | hq
    · rw [hq, ← HC.out.2.1]; exact obs_own HC.out.2.2.1 _
    · exact hq
  have HX2 : Hid (Blk w2 w.heap.size #[.int .i64 P, .int .i64 T, .int .i64 G] 23) := HX1.out.but hK.but (by simpa using HFR.out.symm)
  have HV1 : Hid (0 ≤ v1 ∧ v1 ≤ 18446744073709551615) := hK.bd
  have hA2 := syn_load H2.out.run H2.out.syn HBD.out 15 (fun _ => rfl)
  clear hA1 hK H1 HX1
  go_wp2_with fail
  go_at_call 44; refine hA2.mono ?_; rintro e3 w3 ⟨v2, rfl, hK⟩
  have H3 : Hid (RmAt w w3 x A cap m g P T s0 (j1 + 1 + 1) (.own .ip2 { e with D := { e.D with im := v1, th := v2 } }) (MoObs f (-1) false) y b cp f (-1) false) := by
    have h6 := H2.out.step hK
    refine h6.as (h6.syn.weak (fun q hq => ?_))
    rcases hq with hq | hq
    · rw [hq, ← HC.out.2.1]; exact obs_own (e := { e with D := { e.D with im := v1 } }) HC.out.2.2.1 _
    · exact hq
  have HX3 : Hid (Blk w3 w.heap.size #[.int .i64 P, .int .i64 T, .int .i64 G] 23) := HX2.out.but hK.but (by simpa using HFR.out.symm)
  have HV2 : Hid (0 ≤ v2 ∧ v2 ≤ 18446744073709551615) := hK.bd
  clear hA2 hK H2 HX2
  obtain ⟨e9, he9⟩ : ∃ e9 : MoE, e9 = { e with D := { e.D with im := v1, th := v2 } } := ⟨_, rfl⟩
  have HE9 : Hid (e9.D.f = f ∧ e9.hv = e.hv ∧ e9.D.p = p ∧ e9.D.nw = e.D.nw ∧ e9.D.im = v1 ∧ e9.D.th = v2) := by rw [he9]; exact ⟨HC.out.2.1, rfl, HC.out.1, rfl, rfl, rfl⟩
  have HK9 : Hid (KeptOk e9) := by rw [he9]; exact HC.out.2.2.1
  rw [← he9] at H3
  have hA3 := syn_load H3.out.run H3.out.syn HBD.out 10 (fun _ => rfl)
  clear he9
  go_wp2_with fail
  go_at_call 44; refine hA3.mono ?_; rintro e4 w4 ⟨v3, rfl, hK⟩
  have H4 : Hid (RmAt w w4 x A cap m g P T s0 (j1 + 1 + 1 + 1) (if moSpares T v1 v2 v3 = true then moRT e9 .fresh else moRN P e9 .fresh) (MoObs f (-1) false) y b cp f (-1) false) := by
    have h6 := H3.out.step hK
    have e0 : (moPM false P T).nx (.own .ip2 e9) v3 = (if moSpares T v1 v2 v3 = true then moRT e9 .fresh else moRN P e9 .fresh) := by
      show (if moSpares T e9.D.im e9.D.th v3 = true then MoT.relT .fresh e9 else .relN .fresh e9) = _
      rw [HE9.out.2.2.2.2.1, HE9.out.2.2.2.2.2]
      rfl
    rw [e0] at h6
    refine h6.as (h6.syn.weak (fun q hq => ?_))
    rcases hq with hq | hq
    · rw [hq, ← HE9.out.1]; exact obs_own HK9.out _
    · exact hq
  have HX4 : Hid (Blk w4 w.heap.size #[.int .i64 P, .int .i64 T, .int .i64 G] 23) := HX3.out.but hK.but (by simpa using HFR.out.symm)
  have HV3 : Hid (0 ≤ v3 ∧ v3 ≤ 18446744073709551615) := hK.bd
  clear hA3 hK H3 HX3
  obtain ⟨bz, hbz⟩ : ∃ bz, moSpares T v1 v2 v3 = bz := ⟨_, rfl⟩
  rw [hbz] at H4
  have HREL : Hid (∀ (Y : World), RmAt w Y x A cap m g P T s0 (j1 + 1 + 1 + 1) (if bz = true then moRT e9 .fresh else moRN P e9 .fresh) (MoObs f (-1) false) y b cp f (-1) false → Calls Tryz.prog 72 #[.pointer (some ⟨x, 0, none⟩), .int .i64 0] Y fun e' w' => (∃ u, e' = .returned u) ∧ But [x] Y w' ∧ ∃ j', RmAt w w' x A cap m g P T s0 j' (if bz = true then .own .sw e9 else moFold false (moVisit P e9.D (p + 1)) e9) (MoObs f (-1) false) y b cp f (-1) false) := fun Y hY => by
    cases bz with
    | false =>
      have hY' : RmAt w Y x A cap m g P T s0 (j1 + 1 + 1 + 1) (moRN P e9 .fresh) (MoObs f (-1) false) y b cp f (-1) false := hY
      refine (syn_release (mo_relNIn P T e9) (by omega) hY'.run hY'.syn HBD.out).mono ?_
      rintro e' w' ⟨hu, j', l1, l2, l3, l4⟩
      refine ⟨hu, l3, j', (hY'.go l1 l2 l3).as ⟨fun h' => (l2.at' h').trans (by rw [← HE9.out.2.2.1]; rfl), fun hm => ⟨?_, (l2.past hm).2⟩⟩⟩
      rcases (l2.past hm).1 with hq | hq | hq
      · exact hq
      · rw [hq, ← HE9.out.1]; exact obs_relN HK9.out _
      · rw [hq, ← HE9.out.1]; exact obs_relN HK9.out _
    | true =>
      have hY' : RmAt w Y x A cap m g P T s0 (j1 + 1 + 1 + 1) (moRT e9 .fresh) (MoObs f (-1) false) y b cp f (-1) false := hY
      refine (syn_release (mo_relTIn P T e9) (by omega) hY'.run hY'.syn HBD.out).mono ?_
      rintro e' w' ⟨hu, j', l1, l2, l3, l4⟩
      refine ⟨hu, l3, j', (hY'.go l1 l2 l3).as (l2.weak (fun q hq => ?_))⟩
      rcases hq with hq | hq | hq
      · exact hq
      · rw [hq, ← HE9.out.1]; exact obs_relT HK9.out _
      · rw [hq, ← HE9.out.1]; exact obs_relT HK9.out _
  have hA4 := HREL.out w4 H4.out
  clear H4 HREL
  go_wp2_with fail
  go_at_call 72; refine hA4.mono ?_; rintro e5 w5 ⟨⟨u5, rfl⟩, hb5, j5, h5⟩
  have H5 : Hid (RmAt w w5 x A cap m g P T s0 j5 (if bz = true then .own .sw e9 else moFold false (moVisit P e9.D (p + 1)) e9) (MoObs f (-1) false) y b cp f (-1) false) := h5
  have HX5 : Hid (Blk w5 w.heap.size #[.int .i64 P, .int .i64 T, .int .i64 G] 23) := HX4.out.but hb5 (by simpa using HFR.out.symm)
  clear hA4 h5 hb5 HX4
  have k1 := HX5.out.cell 1 (v := .int .i64 T) rfl
  have sc := H5.out.stop
  by_cases hst : m < j5
  · rw [decide_eq_true hst] at sc
    have HST : Hid (m < j5) := hst
    clear hst hbz
    go_wp2_with fail
    go_ret
    exact ⟨false, j5, e9, rfl, H5.out.as (syn_stopped H5.out.syn HST.out (fun q h => h)), ⟨HE9.out.1, HE9.out.2.1, HE9.out.2.2.1, HE9.out.2.2.2.1⟩, fun _ => rfl⟩
  rw [decide_eq_false hst] at sc
  have HST : Hid (j5 ≤ m) := (by omega : j5 ≤ m)
  have HFIN : Hid (∀ zv, zv = bz → ∃ bv j' e2, (Ending.returned (.bool zv) : Ending) = .returned (.bool bv) ∧ RmAt w w5 x A cap m g P T s0 j' (if bv = true then .own .sw e2 else moFold false (moVisit P e2.D (p + 1)) e2) (MoObs f (-1) false) y b cp f (-1) false ∧ (e2.D.f = f ∧ e2.hv = e.hv ∧ e2.D.p = p ∧ e2.D.nw = e.D.nw) ∧ (m < j' → bv = false)) := fun zv hz => by
    subst hz
    exact ⟨zv, j5, e9, rfl, H5.out, ⟨HE9.out.1, HE9.out.2.1, HE9.out.2.2.1, HE9.out.2.2.2.1⟩, fun h => absurd h (by have := HST.out; omega)⟩
  have HV : Hid ((0 ≤ v1 ∧ v1 ≤ 18446744073709551615) ∧ (0 ≤ v2 ∧ v2 ≤ 18446744073709551615) ∧ (0 ≤ v3 ∧ v3 ≤ 18446744073709551615) ∧ 0 ≤ T ∧ T ≤ 300) := ⟨HV1.out, HV2.out, HV3.out, HC.out.2.2.2⟩
  clear hst H5 HX5 HV1 HV2 HV3
  by_cases h1 : 2147483648 ≤ v1
  · have e0 : false = bz := by rw [← hbz]; exact (if_pos (.inl h1)).symm
    have d1 : decide (2147483648 ≤ v1) = true := decide_eq_true h1
    have HF : Hid _ := HFIN.out false e0
    clear h1 e0 hbz HFIN
    go_wp2_with fail
    go_ret
    exact HF.out
  have d1 : decide (2147483648 ≤ v1) = false := decide_eq_false h1
  by_cases h2 : 2147483648 ≤ v2
  · have e0 : false = bz := by rw [← hbz]; exact (if_pos (.inr (.inl h2))).symm
    have d2 : decide (2147483648 ≤ v2) = true := decide_eq_true h2
    have HF : Hid _ := HFIN.out false e0
    clear h1 h2 e0 hbz HFIN
    go_wp2_with fail
    go_ret
    exact HF.out
  have d2 : decide (2147483648 ≤ v2) = false := decide_eq_false h2
  by_cases h3 : 2147483648 ≤ v3
  · have e0 : false = bz := by rw [← hbz]; exact (if_pos (.inr (.inr h3))).symm
    have d3 : decide (2147483648 ≤ v3) = true := decide_eq_true h3
    have HF : Hid _ := HFIN.out false e0
    clear h1 h2 h3 e0 hbz HFIN
    go_wp2_with fail
    go_ret
    exact HF.out
  have d3 : decide (2147483648 ≤ v3) = false := decide_eq_false h3
  have e0 : decide (v3 < T + v1 - v2) = bz := by rw [← hbz]; exact (if_neg (fun h => by rcases h with h | h | h; exact h1 h; exact h2 h; exact h3 h)).symm
  have HF : Hid _ := HFIN.out _ e0
  have q1 : IntKind.i64.wrap v1 = v1 := by have := HV.out; simp [IntKind.wrap, IntKind.bits, IntKind.signed]; omega
  have q2 : IntKind.i64.wrap v2 = v2 := by have := HV.out; simp [IntKind.wrap, IntKind.bits, IntKind.signed]; omega
  have q3 : IntKind.i64.wrap v3 = v3 := by have := HV.out; simp [IntKind.wrap, IntKind.bits, IntKind.signed]; omega
  obtain ⟨a1, ha1⟩ : ∃ a1, T + v1 = a1 := ⟨_, rfl⟩
  obtain ⟨a2, ha2⟩ : ∃ a2, a1 - v2 = a2 := ⟨_, rfl⟩
  have q4 : wrap64 (T + v1) = a1 := by have := HV.out; rw [← ha1]; unfold wrap64; omega
  have q5 : wrap64 (a1 - v2) = a2 := by have := HV.out; rw [← ha2, ← ha1]; unfold wrap64; omega
  rw [show T + v1 - v2 = a2 by rw [ha1, ha2]] at HF
  clear h1 h2 h3 e0 hbz HFIN ha1 ha2
  go_wp2_with fail
  go_ret
  exact HF.out
/-- Handing over within a pass. -/
def moHE (P : Nat) (T : Int) (e : MoE) (h : HvT) : MoT := if ((hvPM P T T e.D.p).ax h).isSome = true then .ov h e else moFold false (moVisit P e.D (e.D.p + 1)) { e with hv := some ((e.D.p : Int), h) }
theorem mo_hvIn (P : Nat) (T : Int) (e : MoE) : PmIn (moPM false P T) (hvPM P T T e.D.p) (moHE P T e) where
  ax := fun q a h => by
    have e0 : moHE P T e q = .ov q e := if_pos (by rw [h]; rfl)
    rw [e0]
    exact h
  nx := fun q a v h => by
    have e0 : moHE P T e q = .ov q e := if_pos (by rw [h]; rfl)
    rw [e0]
    rfl
theorem good_kept {T : Int} {P : Nat} {d : MoD} {q : Nat} {e : MoE} (h : MoGood T P (moFold false (moVisit P d q) e)) : KeptOk e := by
  have hn := nad_visit P d q
  generalize moVisit P d q = S at h hn
  obtain ⟨ph, d2⟩ := S
  cases ph <;> first | exact h | exact absurd rfl hn
end Go.Proofs.YthjfbknmdligeaaGreat

namespace Go.Proofs.YthjfbknmdligeaaGreat
open Go Go.RowKit
set_option linter.unusedVariables false
set_option maxRecDepth 100000
set_option linter.unusedSimpArgs false
set_option linter.unusedSectionVars false

theorem sw_nx0 (P : Nat) (T : Int) (e : MoE) : (moPM false P T).nx (.own .sw e) 0 = moFold false (moVisit P e.D (e.D.p + 1)) e := by
  show (if (0 : Int) = 0 then moFold false (moVisit P e.D (e.D.p + 1)) e else MoT.own .ad { e with hv := some ((e.D.p : Int), .lk .hd) }) = _
  exact if_pos rfl
theorem sw_nx1 (P : Nat) (T : Int) (e : MoE) : (moPM false P T).nx (.own .sw e) 1 = .own .ad { e with hv := some ((e.D.p : Int), .lk .hd) } := by
  show (if (1 : Int) = 0 then moFold false (moVisit P e.D (e.D.p + 1)) e else MoT.own .ad { e with hv := some ((e.D.p : Int), .lk .hd) }) = _
  exact if_neg (by decide)
theorem obs_ad {e : MoE} {p : Nat} {f : Nat → Int} (hep : e.D.p = p) (hef : e.D.f = f) : MoObs f p false (.own .ad { e with hv := some ((e.D.p : Int), .lk .hd) }) := ⟨hef, by rw [← hep]; rfl, rfl⟩
theorem he_end {P : Nat} {T : Int} {e : MoE} {s : HvT} (h : (hvPM P T T e.D.p).ax s = none) : moHE P T e s = moFold false (moVisit P e.D (e.D.p + 1)) { e with hv := some ((e.D.p : Int), s) } := if_neg (by rw [h]; simp)
set_option maxHeartbeats 8000000 in
theorem rm_takes {w : World} {x : Nat} {A : Option Addr} {cap m : Nat} {g : Nat → Int} {P : Nat} {T G : Int} {s0 : MoT} {j : Nat} {y b cp p : Nat} {f : Nat → Int} {now : Int} {e : MoE} (h : RmAt w w x A cap m g P T s0 j (.own .sw e) (MoObs f (-1) false) y b cp f (-1) false) (hj : j ≤ m) (hb : ∀ j, j < m → 0 ≤ g j ∧ g j ≤ 18446744073709551615) (hk : KeptOk e) (hep : e.D.p = p) (hef : e.D.f = f) (hen : e.D.nw = now) (hp : p < P) (hP : (P : Int) ≤ 64) (hT : 0 ≤ T ∧ T ≤ 300) (hso : SwOk (moPM false P T) s0 g m) (hgd : ∀ j, j ≤ m → MoGood T P ((moPM false P T).run s0 g j)) :
    Calls Tryz.prog 48 #[.pointer (some ⟨y, 0, none⟩), .pointer (some ⟨x, 0, none⟩), .agg #[.int .i64 P, .int .i64 T, .int .i64 G], .int .i64 p] w fun e' w' => ∃ u j' Pv C e4, e' = .returned u ∧ RmAt w w' x A cap m g P T s0 j' (moFold false (moVisit P e4.D (p + 1)) e4) (MoObs f Pv C) y b cp f Pv C ∧ (e4.D.f = f ∧ e4.D.p = p ∧ e4.D.nw = now) ∧ (j' ≤ m → Pv = -1 ∧ C = false ∧ KeptOk e4) := by
  obtain ⟨lp, hlp⟩ : ∃ lp : Int → Int, ∀ f, lp f = wd 20 P 264 p f := ⟨fun f => wd 20 P 264 p f, fun f => rfl⟩
  have HPr : Hid (∀ f : Int, 0 ≤ f ∧ f < 8 → ∀ Y : World, Calls Tryz.prog 25 #[.int .i64 p, .int .i64 f] Y fun e w' => e = .returned (.int .i64 (lp f)) ∧ Y = w') := fun f hf Y => by
    rw [hlp f]
    have h := rprc_any p f Y (by omega) hf
    rw [show (20 : Int) + 264 * p + f = wd 20 P 264 p f by unfold wd; rw [if_pos ⟨by omega, by omega, by omega, by omega⟩]; omega] at h
    exact h
  have HBD : Hid (∀ j, j < m → 0 ≤ g j ∧ g j ≤ 18446744073709551615) := hb
  have HC : Hid (e.D.p = p ∧ e.D.f = f ∧ e.D.nw = now ∧ KeptOk e ∧ 0 ≤ T ∧ T ≤ 300 ∧ p < P ∧ (P : Int) ≤ 64) := ⟨hep, hef, hen, hk, hT.1, hT.2, hp, hP⟩
  have HSO : Hid (SwOk (moPM false P T) s0 g m) := hso
  have HGD : Hid (∀ j, j ≤ m → MoGood T P ((moPM false P T).run s0 g j)) := hgd
  have HL5 : Hid (lp 5 = wd 20 P 264 p 5) := hlp 5
  have hAx : (moPM false P T).ax (.own .sw e) = some (axSw (lp 0) 2 0) := by rw [hlp, ← hep]; rfl
  have HAX : Hid ((moPM false P T).ax (.own .sw e) = some (axSw (lp 0) 2 0)) := hAx
  have hb0 : Below w.heap.size w (w.alloc (.cells #[.int .i64 P, .int .i64 T, .int .i64 G] 23)) := (Below.refl _ _).alloc (Nat.le_refl _) _
  have HX0 : Hid (Blk (w.alloc (.cells #[.int .i64 P, .int .i64 T, .int .i64 G] 23)) w.heap.size #[.int .i64 P, .int .i64 T, .int .i64 G] 23) := Blk.new _ _ _
  have HFR : Hid (x ≠ w.heap.size ∧ y ≠ w.heap.size ∧ b ≠ w.heap.size) := ⟨by have := h.run.blk.lt; omega, by have := h.seen.lt; omega, by have := h.row.lt; omega⟩
  have HH : Hid (RmAt w (w.alloc (.cells #[.int .i64 P, .int .i64 T, .int .i64 G] 23)) x A cap m g P T s0 j (.own .sw e) (MoObs f (-1) false) y b cp f (-1) false) := h.low hb0
  have hA := syn_swap HH.out.run HH.out.syn hb (lp 0) 2 0 (fun _ => hAx)
  have i1 : (p : Int) < (P : Int) := by omega
  have i0 : (0 : Int) ≤ (p : Int) := by omega
  have HJ : Hid (j ≤ m) := hj
  clear h hb hk hep hef hen hp hP hT hso hgd hlp hAx hb0 hj
  go_enter Tryz.func48, Tryz.ntmps48
  go_wp2_with fail
  generalize (w.alloc (.cells #[.int .i64 P, .int .i64 T, .int .i64 G] 23)) = W at *
  go_at_call 25; refine (HPr.out _ (by omega) _).mono ?_; rintro e1 w1 ⟨rfl, rfl⟩
  go_wp2_with fail
  go_at_call 73; refine hA.mono ?_; rintro e1 w2 ⟨v, rfl, hK⟩
  have hv := HSO.out.one HH.out.syn HAX.out rfl hK.val hK.zero hK.bd.1
  have HZ : Hid (m ≤ j → v = 0) := hK.zero
  have H2 : Hid (RmAt w w2 x A cap m g P T s0 (j + 1) ((moPM false P T).nx (.own .sw e) v) (fun r => r = .own .sw e ∨ MoObs f (-1) false r) y b cp f (-1) false) := HH.out.step hK
  have HX2 : Hid (Blk w2 w.heap.size #[.int .i64 P, .int .i64 T, .int .i64 G] 23) := HX0.out.but hK.but (by simpa using HFR.out.1.symm)
  clear hA hK HX0 HH HAX
  rcases hv with rfl | rfl
  · have d1 : decide ((0 : Int) = 1) = false := rfl
    have H3 : Hid (RmAt w w2 x A cap m g P T s0 (j + 1) (moFold false (moVisit P e.D (p + 1)) e) (MoObs f (-1) false) y b cp f (-1) false) := by
      have h3 := H2.out
      rw [show (moPM false P T).nx (.own .sw e) 0 = moFold false (moVisit P e.D (e.D.p + 1)) e from sw_nx0 P T e, HC.out.1] at h3
      refine h3.as (h3.syn.weak (fun q hq => ?_))
      rcases hq with hq | hq
      · rw [hq, ← HC.out.2.1]; exact obs_own HC.out.2.2.2.1 _
      · exact hq
    clear H2 HZ
    go_wp2_with fail
    refine bodyPost_ret (results_none rfl _ _ _) rfl ?_
    exact ⟨_, j + 1, -1, false, e, rfl, H3.out, ⟨HC.out.2.1, HC.out.1, HC.out.2.2.1⟩, fun _ => ⟨rfl, rfl, HC.out.2.2.2.1⟩⟩
  · have d1 : decide ((1 : Int) = 1) = true := rfl
    have HJ1 : Hid (j + 1 ≤ m) := by
      have := HZ.out
      rcases Nat.lt_or_ge j m with h | h
      · exact h
      · exact absurd (this h) (by decide)
    obtain ⟨e1, he1⟩ : ∃ e1 : MoE, e1 = { e with hv := some ((e.D.p : Int), .lk .hd) } := ⟨_, rfl⟩
    have HE1 : Hid (e1.D.p = p ∧ e1.D.f = f ∧ e1.D.nw = now ∧ MoObs f p false (.own .ad e1)) := by rw [he1]; exact ⟨HC.out.1, HC.out.2.1, HC.out.2.2.1, obs_ad HC.out.1 HC.out.2.1⟩
    have H3 : Hid (RmAt w (w2.setCell ⟨y, 1, none⟩ (.int .i64 p)) x A cap m g P T s0 (j + 1) (.own .ad e1) (fun _ => False) y b cp f p false) := by
      have h3 := H2.out.sset1 p
      exact h3.as (syn_going h3.syn HJ1.out (by rw [he1]; exact sw_nx1 P T e) _)
    have HX3 : Hid (Blk (w2.setCell ⟨y, 1, none⟩ (.int .i64 p)) w.heap.size #[.int .i64 P, .int .i64 T, .int .i64 G] 23) := HX2.out.setne HFR.out.2.1.symm _ _
    have c1 := H2.out.seen.cell 1 (v := .int .i64 (-1)) rfl
    have q1 := H2.out.seen.fro 1
    have hAx : (moPM false P T).ax (.own .ad e1) = some (axAd (lp 5) 1) := by rw [HL5.out, ← HE1.out.1]; rfl
    have hA := syn_add H3.out.run H3.out.syn HBD.out (lp 5) 1 (fun _ => hAx)
    obtain ⟨W3, hW3⟩ : ∃ W3, w2.setCell ⟨y, 1, none⟩ (.int .i64 p) = W3 := ⟨_, rfl⟩
    rw [hW3] at H3 HX3 hA
    have HW3 : Hid (w2.setCell ⟨y, 1, none⟩ (.int .i64 p) = W3) := hW3
    clear he1 H2 HX2 HZ hAx hW3
    go_wp2_with fail
    rw [HW3.out]
    clear HW3 c1 q1
    go_at_call 25; refine (HPr.out _ (by omega) _).mono ?_; rintro e2 w3 ⟨rfl, rfl⟩
    go_wp2_with fail
    go_at_call 74; refine hA.mono ?_; rintro e2 w4 ⟨v, rfl, hK⟩
    have H4 : Hid (RmAt w w4 x A cap m g P T s0 (j + 1 + 1) (.ov (.lk .hd) { e1 with hv := none }) (fun r => r = .own .ad e1 ∨ False) y b cp f p false) := H3.out.step hK
    have HX4 : Hid (Blk w4 w.heap.size #[.int .i64 P, .int .i64 T, .int .i64 G] 23) := HX3.out.but hK.but (by simpa using HFR.out.1.symm)
    clear hA hK HX3 H3
    have sc := H4.out.stop
    by_cases hst : m < j + 1 + 1
    · rw [decide_eq_true hst] at sc
      have H5 : Hid (RmAt w w4 x A cap m g P T s0 (j + 1 + 1) (moFold false (moVisit P e.D (p + 1)) e) (MoObs f p false) y b cp f p false) := H4.out.as (syn_stopped H4.out.syn hst (fun q hq => by
        rcases hq with hq | hq
        · rw [hq]; exact HE1.out.2.2.2
        · exact hq.elim))
      have HST : Hid (m < j + 1 + 1) := hst
      clear hst H4
      go_wp2_with fail
      refine bodyPost_ret (results_none rfl _ _ _) rfl ?_
      exact ⟨_, j + 1 + 1, p, false, e, rfl, H5.out, ⟨HC.out.2.1, HC.out.1, HC.out.2.2.1⟩, fun h => absurd h (by have := HST.out; omega)⟩
    rw [decide_eq_false hst] at sc
    have HST : Hid (j + 1 + 1 ≤ m) := (by omega : j + 1 + 1 ≤ m)
    obtain ⟨e2, he2⟩ : ∃ e2 : MoE, e2 = { e1 with hv := none } := ⟨_, rfl⟩
    have HE2 : Hid (e2.D.p = p ∧ e2.D.f = f ∧ e2.D.nw = now) := by rw [he2]; exact ⟨HE1.out.1, HE1.out.2.1, HE1.out.2.2.1⟩
    rw [← he2] at H4
    have H5 : Hid (RmAt w w4 x A cap m g P T s0 (j + 1 + 1) (hvL P e2.D.p (moHE P T e2) .hd) (fun _ => False) y b cp f p false) := H4.out.as (syn_going H4.out.syn HST.out rfl _)
    have hov := syn_over (G := G) (T := T) (mo_hvIn P T e2) (by have := HC.out; omega) (by have := HC.out; omega) (by have := HC.out; omega) H5.out.run H5.out.syn HBD.out HSO.out
    rw [HE2.out.1] at hov
    clear he2 hst H4
    have k0 := HX4.out.cell 0 (v := .int .i64 P) rfl
    have k1 := HX4.out.cell 1 (v := .int .i64 T) rfl
    have k2 := HX4.out.cell 2 (v := .int .i64 G) rfl
    go_wp2_with fail
    go_at_call 75; refine hov.mono ?_; rintro e3 w5 ⟨hd, c, j5, s, rfl, l1, l2, l3, l4, l5, l6⟩
    have H6 : Hid (RmAt w w5 x A cap m g P T s0 j5 (moHE P T e2 s) (HvQ (fun _ => False) (moHE P T e2) P T T p hd c) y b cp f p false) := H5.out.go l1 l2 l5
    have HS : Hid ((hvPM P T T p).ax s = none ∧ (j5 ≤ m → hd = s.holds p ∧ c = s.counts)) := ⟨l3, l4⟩
    clear hov l1 l2 l3 l4 l5 l6 H5 k0 k1 k2 HX4 sc
    have c1 := H6.out.seen.cell 1 (v := .int .i64 p) rfl
    have c2 := H6.out.seen.cell 2 (v := .bool false) rfl
    have q1 := H6.out.seen.fro 1
    have q2 := H6.out.seen.fro 2
    have n1 := H6.out.ne.2.1
    have n2 := H6.out.run.blk.lt
    have n3 := H6.out.seen.lt
    have n4 : y ≠ w5.heap.size := by omega
    have n5 : x ≠ w5.heap.size := by omega
    have sc := H6.out.stop
    by_cases hst : m < j5
    · rw [decide_eq_true hst] at sc
      have HST5 : Hid (m < j5) := hst
      clear hst
      have H7 : Hid (RmAt w ((w5.setCell ⟨y, 1, none⟩ (.int .i64 hd)).setCell ⟨y, 2, none⟩ (.bool c)) x A cap m g P T s0 j5 (moFold false (moVisit P e.D (p + 1)) e) (MoObs f hd c) y b cp f hd c) := by
        have h7 := (H6.out.sset1 hd).sset2 c
        refine h7.as (syn_stopped h7.syn HST5.out (fun q hq => ?_))
        rcases hq with ⟨hq, _⟩ | ⟨s', a, ha, hq, h1, h2⟩
        · exact hq.elim
        · rw [hq, show moHE P T e2 s' = .ov s' e2 from if_pos (by rw [HE2.out.1, ha]; rfl)]
          exact ⟨HE2.out.2.1, by rw [h1, ← HE2.out.1]; rfl, h2.symm⟩
      have H8 : Hid (RmAt w (((w5.setCell ⟨y, 1, none⟩ (.int .i64 hd)).setCell ⟨y, 2, none⟩ (.bool c)).alloc (.cells #[.int .i64 hd, .bool c] 138)) x A cap m g P T s0 j5 (moFold false (moVisit P e.D (p + 1)) e) (MoObs f hd c) y b cp f hd c) := H7.out.low ((Below.refl _ _).alloc (Nat.le_refl _) _)
      clear H6 H7
      go_wp2_with fail
      refine bodyPost_end (results_none rfl _ _ _) rfl ?_
      exact ⟨_, j5, hd, c, e, rfl, H8.out, ⟨HC.out.2.1, HC.out.1, HC.out.2.2.1⟩, fun h => absurd h (by have := HST5.out; omega)⟩
    rw [decide_eq_false hst] at sc
    have HST5 : Hid (j5 ≤ m) := (by omega : j5 ≤ m)
    obtain ⟨e3, he3⟩ : ∃ e3 : MoE, e3 = { e2 with hv := some ((e2.D.p : Int), s) } := ⟨_, rfl⟩
    have HE3 : Hid (e3.D.p = p ∧ e3.D.f = f ∧ e3.D.nw = now) := by rw [he3]; exact HE2.out
    have e0 : moHE P T e2 s = moFold false (moVisit P e3.D (p + 1)) e3 := by
      rw [he_end (by rw [HE2.out.1]; exact HS.out.1), HE2.out.1, he3, HE2.out.1]
    have HK3 : Hid (KeptOk e3) := by
      have h1 := HGD.out j5 HST5.out
      rw [H6.out.syn.at' HST5.out, e0] at h1
      exact good_kept h1
    have H7 : Hid (RmAt w ((((w5.setCell ⟨y, 1, none⟩ (.int .i64 hd)).setCell ⟨y, 2, none⟩ (.bool c)).setCell ⟨y, 1, none⟩ (.int .i64 (-1))).setCell ⟨y, 2, none⟩ (.bool false)) x A cap m g P T s0 j5 (moFold false (moVisit P e3.D (p + 1)) e3) (MoObs f (-1) false) y b cp f (-1) false) := by
      have h7 := (((H6.out.sset1 hd).sset2 c).sset1 (-1)).sset2 false
      exact h7.as (syn_going h7.syn HST5.out e0 _)
    have H8 : Hid (RmAt w (((((w5.setCell ⟨y, 1, none⟩ (.int .i64 hd)).setCell ⟨y, 2, none⟩ (.bool c)).setCell ⟨y, 1, none⟩ (.int .i64 (-1))).setCell ⟨y, 2, none⟩ (.bool false)).alloc (.cells #[.int .i64 hd, .bool c] 138)) x A cap m g P T s0 j5 (moFold false (moVisit P e3.D (p + 1)) e3) (MoObs f (-1) false) y b cp f (-1) false) := H7.out.low ((Below.refl _ _).alloc (Nat.le_refl _) _)
    clear H6 H7 hst e0 he3
    go_wp2_with fail
    refine bodyPost_end (results_none rfl _ _ _) rfl ?_
    exact ⟨_, j5, -1, false, e3, rfl, H8.out, ⟨HE3.out.2.1, HE3.out.1, HE3.out.2.2⟩, fun _ => ⟨rfl, rfl, HK3.out⟩⟩
end Go.Proofs.YthjfbknmdligeaaGreat

namespace Go.Proofs.YthjfbknmdligeaaGreat
open Go Go.RowKit
set_option linter.unusedVariables false
set_option maxRecDepth 100000
set_option linter.unusedSimpArgs false
set_option linter.unusedSectionVars false

theorem wc_one (f : Nat → Int) (k : Nat) : wordCells f k ++ [.int .u64 (f k)] = wordCells f (k + 1) := by
  unfold wordCells
  rw [List.range_succ, List.map_append]
  rfl
theorem wc_four (f : Nat → Int) (k : Nat) : wordCells f (k * 4) ++ [.int .u64 (f (k * 4)), .int .u64 (f (k * 4 + 1)), .int .u64 (f (k * 4 + 2)), .int .u64 (f (k * 4 + 3))] = wordCells f ((k + 1) * 4) := by
  rw [show (k + 1) * 4 = k * 4 + 1 + 1 + 1 + 1 by omega, ← wc_one, ← wc_one, ← wc_one, ← wc_one]
  simp
/-- The pass's rows as they are copied: k are there. -/
structure PsG (w W : World) (f : Nat → Int) (k : Nat) (mc cc : Array Value) (v : Value) : Prop where
  mon : Blk W w.heap.size mc 39
  cfg : Blk W (w.heap.size + 1) cc 23
  res : Blk W (w.heap.size + 1 + 1) #[.slice none 0 0, .int .i64 0, .bool false] 52
  out : Blk W (w.heap.size + 1 + 1 + 1) #[v, .int .i64 (-1), .bool false] 52
  own : W.ownsRow (w.heap.size + 4) 100 4 v k (wordCells f (k * 4))
  below : Below w.heap.size w W
theorem PsG.far {w W : World} {f : Nat → Int} {k : Nat} {mc cc : Array Value} {v : Value} (h : PsG w W f k mc cc v) {c : Nat} (hc : c < w.heap.size + 4) : v.ownBlock ≠ some c := by
  rcases h.own.2 with ⟨e, -⟩ | ⟨g, cp, cur, e, hg, -⟩
  · rw [e]; simp [Value.ownBlock]
  · rw [e]; simp [Value.ownBlock]; omega
theorem PsG.next {w W W' : World} {f : Nat → Int} {k : Nat} {mc cc : Array Value} {v : Value} {g' cap : Nat} {o : Obj} (h : PsG w W f k mc cc v) (ho : W'.ownsRow (w.heap.size + 4) 100 4 (.slice (some ⟨g', 0, none⟩) (k + 1) cap) (k + 1) (wordCells f (k * 4) ++ [.int .u64 (f (k * 4)), .int .u64 (f (k * 4 + 1)), .int .u64 (f (k * 4 + 2)), .int .u64 (f (k * 4 + 3))])) (hg : ((W.alloc o).drew).grownBy W' v.ownBlock) :
    PsG w (W'.setCell ⟨w.heap.size + 1 + 1 + 1, 0, none⟩ (.slice (some ⟨g', 0, none⟩) (k + 1) cap)) f (k + 1) mc cc (.slice (some ⟨g', 0, none⟩) (k + 1) cap) := by
  have kg : ∀ c, c < W.heap.size → c < w.heap.size + 4 → W'.heap[c]? = W.heap[c]? := fun c hc hc4 => (hg.block c (by simp; omega) (Ne.symm (h.far hc4))).trans (heap_al W hc o)
  have b1 := h.mon.keep (kg _ h.mon.lt (by omega))
  have b2 := h.cfg.keep (kg _ h.cfg.lt (by omega))
  have b3 := h.res.keep (kg _ h.res.lt (by omega))
  have b4 := h.out.keep (kg _ h.out.lt (by omega))
  have hB : But [w.heap.size + 1 + 1 + 1] W' (W'.setCell ⟨w.heap.size + 1 + 1 + 1, 0, none⟩ (.slice (some ⟨g', 0, none⟩) (k + 1) cap)) := (But.refl _ _).set (g := w.heap.size + 1 + 1 + 1) (.inl (by simp)) 0 _
  refine ⟨b1.but hB (by simp; omega), b2.but hB (by simp), b3.but hB (by simp), b4.set 0 _, ?_, ?_⟩
  · rw [wc_four] at ho
    refine ⟨ho.1, ?_⟩
    rcases ho.2 with ⟨e0, -⟩ | ⟨gb, cp, cur, e0, hb, hh, rest⟩
    · cases e0
    · exact .inr ⟨gb, cp, cur, e0, hb, (hB.block gb (block_lt hh) (by simp; omega)).trans hh, rest⟩
  · have hB1 : Below w.heap.size w W' := ((h.below.alloc h.below.size o).drew).grown hg (by simp; have := h.mon.lt; omega) fun j ej => by
      by_cases hj : w.heap.size ≤ j
      · exact hj
      · exact absurd ej (h.far (by omega))
    exact hB1.setCell (p := ⟨w.heap.size + 1 + 1 + 1, 0, none⟩) (by show w.heap.size ≤ w.heap.size + 1 + 1 + 1; omega) _
theorem info100 : (Tryz.prog.info? 100).map (fun i => (i.zero, i.size, i.bytes)) = some (some (.agg #[.int .u64 0, .int .u64 0, .int .u64 0, .int .u64 0]), 4, 32) := by kernel_rfl
/-- All rows are there. -/
theorem PsG.end' {w W : World} {f : Nat → Int} {k : Nat} {mc cc : Array Value} {v : Value} (h : PsG w W f k mc cc v) (hk : 0 < k) : ∃ b cp, v = .slice (some ⟨b, 0, none⟩) k cp ∧ DrAt W b (4 * k) f ∧ w.heap.size + 4 ≤ b := by
  rcases h.own.2 with ⟨e, h0⟩ | ⟨g, cp, cur, e, hg, hh, hnc, hcm, hcs, htk⟩
  · omega
  · refine ⟨g, cp, e, ⟨cur, hh, by omega, fun i hi => ?_⟩, hg⟩
    have h1 := wordCells_at f (k * 4) i (by omega)
    rw [← htk, List.getElem?_take] at h1
    simpa [show i < k * 4 by omega] using h1
end Go.Proofs.YthjfbknmdligeaaGreat

namespace Go.Proofs.YthjfbknmdligeaaGreat
open Go Go.RowKit
set_option linter.unusedVariables false
set_option maxRecDepth 100000
set_option linter.unusedSimpArgs false
set_option linter.unusedSectionVars false

/-- The rows as they are made: k are there. -/
structure PnG (w W : World) (k : Nat) (cc : Array Value) (v : Value) : Prop where
  cfg : Blk W w.heap.size cc 23
  res : Blk W (w.heap.size + 1) #[.slice none 0 0, .int .i64 0, .slice none 0 0] 39
  out : Blk W (w.heap.size + 1 + 1) #[v, .int .i64 0, .slice none 0 0] 39
  own : W.ownsRow (w.heap.size + 3) 100 4 v k (wordCells (fun _ => 0) (k * 4))
  below : Below w.heap.size w W
theorem PnG.far {w W : World} {k : Nat} {cc : Array Value} {v : Value} (h : PnG w W k cc v) {c : Nat} (hc : c < w.heap.size + 3) : v.ownBlock ≠ some c := by
  rcases h.own.2 with ⟨e, -⟩ | ⟨g, cp, cur, e, hg, -⟩
  · rw [e]; simp [Value.ownBlock]
  · rw [e]; simp [Value.ownBlock]; omega
theorem PnG.next {w W W' : World} {k : Nat} {cc : Array Value} {v : Value} {g' cap : Nat} {o : Obj} (h : PnG w W k cc v) (ho : W'.ownsRow (w.heap.size + 3) 100 4 (.slice (some ⟨g', 0, none⟩) (k + 1) cap) (k + 1) (wordCells (fun _ => 0) (k * 4) ++ [.int .u64 0, .int .u64 0, .int .u64 0, .int .u64 0])) (hg : (W.alloc o).grownBy W' v.ownBlock) :
    PnG w (W'.setCell ⟨w.heap.size + 1 + 1, 0, none⟩ (.slice (some ⟨g', 0, none⟩) (k + 1) cap)) (k + 1) cc (.slice (some ⟨g', 0, none⟩) (k + 1) cap) := by
  have kg : ∀ c, c < W.heap.size → c < w.heap.size + 3 → W'.heap[c]? = W.heap[c]? := fun c hc hc4 => (hg.block c (by simp; omega) (Ne.symm (h.far hc4))).trans (heap_al W hc o)
  have b2 := h.cfg.keep (kg _ h.cfg.lt (by omega))
  have b3 := h.res.keep (kg _ h.res.lt (by omega))
  have b4 := h.out.keep (kg _ h.out.lt (by omega))
  have hB : But [w.heap.size + 1 + 1] W' (W'.setCell ⟨w.heap.size + 1 + 1, 0, none⟩ (.slice (some ⟨g', 0, none⟩) (k + 1) cap)) := (But.refl _ _).set (g := w.heap.size + 1 + 1) (.inl (by simp)) 0 _
  refine ⟨b2.but hB (by simp; omega), b3.but hB (by simp), b4.set 0 _, ?_, ?_⟩
  · rw [wc_four (fun _ => 0)] at ho
    refine ⟨ho.1, ?_⟩
    rcases ho.2 with ⟨e0, -⟩ | ⟨gb, cp, cur, e0, hb, hh, rest⟩
    · cases e0
    · exact .inr ⟨gb, cp, cur, e0, hb, (hB.block gb (block_lt hh) (by simp; omega)).trans hh, rest⟩
  · have hB1 : Below w.heap.size w W' := (h.below.alloc h.below.size o).grown hg (by simp; have := h.cfg.lt; omega) fun j ej => by
      by_cases hj : w.heap.size ≤ j
      · exact hj
      · exact absurd ej (h.far (by omega))
    exact hB1.setCell (p := ⟨w.heap.size + 1 + 1, 0, none⟩) (by show w.heap.size ≤ w.heap.size + 1 + 1; omega) _
theorem PnG.end' {w W : World} {k : Nat} {cc : Array Value} {v : Value} (h : PnG w W k cc v) (hk : 0 < k) : ∃ b cp, v = .slice (some ⟨b, 0, none⟩) k cp ∧ DrAt W b (4 * k) (fun _ => 0) ∧ w.heap.size + 3 ≤ b := by
  rcases h.own.2 with ⟨e, h0⟩ | ⟨g, cp, cur, e, hg, hh, hnc, hcm, hcs, htk⟩
  · omega
  · refine ⟨g, cp, e, ⟨cur, hh, by omega, fun i hi => ?_⟩, hg⟩
    have h1 := wordCells_at (fun _ => 0) (k * 4) i (by omega)
    rw [← htk, List.getElem?_take] at h1
    simpa [show i < k * 4 by omega] using h1
set_option maxHeartbeats 8000000 in
theorem rmon_new {w : World} {P : Nat} {T G : Int} (hp : 1 ≤ P ∧ (P : Int) ≤ 64) :
    Calls Tryz.prog 10 #[.agg #[.int .i64 P, .int .i64 T, .int .i64 G]] w fun e' w' => ∃ b cp, e' = .returned (.agg #[.slice (some ⟨b, 0, none⟩) P cp, .int .i64 0, .slice none 0 0]) ∧ DrAt w' b (4 * P) (fun _ => 0) ∧ Below w.heap.size w w' ∧ w.heap.size ≤ b := by
  obtain ⟨i0, hi, hz0, hz1, hz2⟩ := info_parts info100
  have HP : Hid (1 ≤ P ∧ (P : Int) ≤ 64) := hp
  clear hp
  go_enter Tryz.func10, Tryz.ntmps10
  go_wp2_with fail
  have HG0 : Hid (PnG w (((w.alloc (.cells #[.int .i64 P, .int .i64 T, .int .i64 G] 23)).alloc (.cells #[.slice none 0 0, .int .i64 0, .slice none 0 0] 39)).alloc (.cells #[.slice none 0 0, .int .i64 0, .slice none 0 0] 39)) 0 #[.int .i64 P, .int .i64 T, .int .i64 G] (.slice none 0 0)) := by
    have h0 := Blk.new w #[.int .i64 P, .int .i64 T, .int .i64 G] 23
    have h1 := Blk.new (w.alloc (.cells #[.int .i64 P, .int .i64 T, .int .i64 G] 23)) #[.slice none 0 0, .int .i64 0, .slice none 0 0] 39
    have h2 := Blk.new ((w.alloc (.cells #[.int .i64 P, .int .i64 T, .int .i64 G] 23)).alloc (.cells #[.slice none 0 0, .int .i64 0, .slice none 0 0] 39)) #[.slice none 0 0, .int .i64 0, .slice none 0 0] 39
    simp only [World.size_alloc] at h1 h2
    exact ⟨(h0.al _).al _, h1.al _, h2, World.ownsRow_nil _ _ _ _, (((Below.refl _ _).alloc (Nat.le_refl _) _).alloc (by simp) _).alloc (by simp; omega) _⟩
  generalize (((w.alloc (.cells #[.int .i64 P, .int .i64 T, .int .i64 G] 23)).alloc (.cells #[.slice none 0 0, .int .i64 0, .slice none 0 0] 39)).alloc (.cells #[.slice none 0 0, .int .i64 0, .slice none 0 0] 39)) = W0 at *
  go_loopw [4] (fun iv wr => ∃ (k : Nat) (v : Value), k ≤ P ∧ iv = .int .i64 k ∧ Hid (PnG w wr k #[.int .i64 P, .int .i64 T, .int .i64 G] v)) (fun iv _ => P - (intOf iv).toNat)
  case atStart => exact ⟨0, .slice none 0 0, Nat.zero_le _, rfl, HG0⟩
  case round =>
    obtain ⟨k, v, hk, rfl, HG⟩ := hrel
    clear HG0
    have c0 := HG.out.cfg.cell 0 (v := .int .i64 P) rfl
    have hlo := HG.out.out.lt
    by_cases hlt : k < P
    · obtain ⟨E, cp, rfl⟩ : ∃ E cp, v = .slice E k cp := by
        rcases HG.out.own.2 with ⟨e0, h0⟩ | ⟨gb, cp, cur, e0, -⟩
        · exact ⟨none, 0, by rw [e0, h0]⟩
        · exact ⟨_, _, e0⟩
      have HKM : Hid (k < P) := hlt
      have hb := HG.out.out
      have g0 := hb.cell 0 (v := .slice E k cp) rfl
      have hA : (wr.alloc (.cells #[.int .u64 0, .int .u64 0, .int .u64 0, .int .u64 0] 100)).cell? ⟨w.heap.size + 1 + 1, 0, none⟩ = some (.slice E k cp) ∧ (wr.alloc (.cells #[.int .u64 0, .int .u64 0, .int .u64 0, .int .u64 0] 100)).frozen? ⟨w.heap.size + 1 + 1, 0, none⟩ = false := ⟨(hb.al _).cell 0 rfl, (hb.al _).fro 0⟩
      have HA : Hid _ := hA
      obtain ⟨hA1, hA2⟩ := hA
      have hk0 : (0 : Int) ≤ (k : Int) := Int.natCast_nonneg _
      have hk1 : (k : Int) < (P : Int) := by omega
      clear hb
      have hk9 : k < 64 := by have := HKM.out; have := HP.out; omega
      go_wp2_with (at_builtin; refine wpList_append_lies _ rfl _ _ 36 rfl (w.heap.size + 3) 100 i0 _ 4 32 Tryz.underlying36 hi hz0 hz1 hz2 rfl (by omega) (.slice E k cp) k (wordCells (fun _ => 0) (k * 4)) rfl (HG.out.own.alloc _) ⟨wr.heap.size, 0, none⟩ 1 1 [.int .u64 0, .int .u64 0, .int .u64 0, .int .u64 0] rfl rfl (World.news_of_block (cs := #[.int .u64 0, .int .u64 0, .int .u64 0, .int .u64 0]) (t := 100) (fr := (0, 0)) (heap_alloc_new wr _)) (by simp [Value.oneCell']) (by omega) (by have := HKM.out; have := HP.out; unfold maxLen; omega) (by have := HKM.out; have := HP.out; omega) (by have := HG.out.out.lt; simp; omega) (wr.heap.size + 1) (by simp) ?_; intro gg cap1 w1 hown1 hgrow hat hlt1; have q0 : w1.cell? ⟨w.heap.size + 1 + 1, 0, none⟩ = some (.slice E k cp) := (hgrow.cell_far ⟨w.heap.size + 1 + 1, 0, none⟩ (by have := HG.out.out.lt; simp; omega) (Ne.symm (HG.out.far (by show w.heap.size + 1 + 1 < _; omega)))).trans HA.out.1; have q1 : w1.frozen? ⟨w.heap.size + 1 + 1, 0, none⟩ = false := (hgrow.frozen_far ⟨w.heap.size + 1 + 1, 0, none⟩ (by have := HG.out.out.lt; simp; omega) (Ne.symm (HG.out.far (by show w.heap.size + 1 + 1 < _; omega)))).trans HA.out.2)
      all_goals
        have hN : Hid _ := HG.out.next hown1 hgrow
        clear q0 q1 hown1 hgrow hat hlt1 hA1 hA2 HA g0 HG c0
        try go_wp2_with fail
        go_roundw
        case rel => exact ⟨k + 1, _, HKM.out, by go_num, hN⟩
        case measure => have := HKM.out; simp [intOf]; omega
    · obtain rfl : P = k := by omega
      obtain ⟨b, cp, rfl, hdr, hb4⟩ := HG.out.end' (by have := HP.out; omega)
      have HE : Hid (DrAt wr b (4 * P) (fun _ => 0) ∧ w.heap.size + 3 ≤ b ∧ Below w.heap.size w wr) := ⟨hdr, hb4, HG.out.below⟩
      have y0 := HG.out.out.cell 0 (v := .slice (some ⟨b, 0, none⟩) P cp) rfl
      have y1 := HG.out.out.cell 1 (v := .int .i64 0) rfl
      have y2 := HG.out.out.cell 2 (v := .slice none 0 0) rfl
      have r0 := HG.out.res.cell 0 (v := .slice none 0 0) rfl
      have r1 := HG.out.res.cell 1 (v := .int .i64 0) rfl
      have r2 := HG.out.res.cell 2 (v := .slice none 0 0) rfl
      have z0 := HG.out.res.fro 0
      have z1 := HG.out.res.fro 1
      have z2 := HG.out.res.fro 2
      have HRS : Hid _ := HG.out.res
      clear HG hdr hb4 hlt hk hi hz0 hz1 hz2
      go_wp2_with fail
      have hZ := ((HRS.out.set 0 (.slice (some ⟨b, 0, none⟩) P cp)).set 1 (.int .i64 0)).set 2 (.slice none 0 0)
      have hU : But [w.heap.size + 1] wr (((wr.setCell ⟨w.heap.size + 1, 0, none⟩ (.slice (some ⟨b, 0, none⟩) P cp)).setCell ⟨w.heap.size + 1, 1, none⟩ (.int .i64 0)).setCell ⟨w.heap.size + 1, 2, none⟩ (.slice none 0 0)) := (((But.refl _ wr).set (g := w.heap.size + 1) (.inl (by simp)) 0 _).set (g := w.heap.size + 1) (.inl (by simp)) 1 _).set (g := w.heap.size + 1) (.inl (by simp)) 2 _
      generalize (((wr.setCell ⟨w.heap.size + 1, 0, none⟩ (.slice (some ⟨b, 0, none⟩) P cp)).setCell ⟨w.heap.size + 1, 1, none⟩ (.int .i64 0)).setCell ⟨w.heap.size + 1, 2, none⟩ (.slice none 0 0)) = z at *
      have hfr : z.heap[w.heap.size + 1]? = some (.cells #[.slice (some ⟨b, 0, none⟩) P cp, .int .i64 0, .slice none 0 0] 39 (0, 0)) := hZ.heap
      refine bodyPost_ret (v := .agg #[.slice (some ⟨b, 0, none⟩) P cp, .int .i64 0, .slice none 0 0]) (results_cell_row rfl _ _ (w.heap.size + 1) 39 #[.slice (some ⟨b, 0, none⟩) P cp, .int .i64 0, .slice none 0 0] _ _ rfl hfr Tryz.underlying39 rfl (by kernel_rfl)) rfl ?_
      exact ⟨b, cp, rfl, HE.out.1.but hU (by have := HE.out; simp; omega), HE.out.2.2.trans (hU.below (by simp) (by have := HE.out.2.2.size; omega)), by have := HE.out; omega⟩
end Go.Proofs.YthjfbknmdligeaaGreat

namespace Go.Proofs.YthjfbknmdligeaaGreat
open Go Go.RowKit
set_option linter.unusedVariables false
set_option maxRecDepth 100000
set_option linter.unusedSimpArgs false
set_option linter.unusedSectionVars false

structure PsQ (m : Nat) (now : Int) (j : Nat) (f : Nat → Int) (Pv : Int) (C : Bool) (e : MoE) : Prop where
  bd : ∀ i, 0 ≤ f i ∧ f i ≤ 18446744073709551615
  nw : e.D.nw = now
  fe : e.D.f = f
  kp : j ≤ m → Pv = -1 ∧ C = false ∧ KeptOk e
theorem kept_hv {e e' : MoE} (h : KeptOk e) (he : e'.hv = e.hv) : KeptOk e' := fun p s hs => h p s (he ▸ hs)
theorem mo_at_end (P : Nat) (e : MoE) : moFold false (moVisit P e.D P) e = .en { e with D := { e.D with ps := wrap64 (e.D.ps + 1), un := false } } := by
  unfold moVisit
  rw [if_pos (Nat.le_refl _)]
  rfl
theorem mo_at_st {P i : Nat} (h : i < P) (e : MoE) : moFold false (moVisit P e.D i) e = .own .st { e with D := { e.D with p := i } } := by
  unfold moVisit
  rw [if_neg (by omega)]
  rfl
theorem obs_end {P : Nat} {e : MoE} (h : KeptOk e) : MoObs e.D.f (-1) false (moFold false (moVisit P e.D P) e) := by
  rw [mo_at_end]
  exact ⟨rfl, (kept_hc h).1, (kept_hc h).2⟩
theorem jd_no {P : Nat} {T : Int} {e : MoE} {v : Int} (h1 : v ≠ 1) (h2 : v ≠ 2) : (moPM false P T).nx (.own .st e) v = moFold false (moVisit P e.D (e.D.p + 1)) e := by
  show moFold false (moJudge P e.D v) e = _
  unfold moJudge
  rw [if_neg (by omega)]
theorem jd_yes {P : Nat} {T : Int} {e : MoE} {v : Int} (h : v = 1 ∨ v = 2) : (moPM false P T).nx (.own .st e) v = .own .tu { e with D := { e.D with st := v } } := by
  show moFold false (moJudge P e.D v) e = _
  unfold moJudge
  rw [if_pos h]
  rfl
set_option maxHeartbeats 8000000 in
theorem rm_pass {w : World} {x : Nat} {A : Option Addr} {cap m : Nat} {g : Nat → Int} {P : Nat} {T G : Int} {e0 : MoE} {t : MoT} {br cpr mg capg : Nat} {Ag : Option Addr} {ps : Int} {f0 : Nat → Int} (hR : RunOn w x A cap m g rn0) (hh : Hist (moPM false P T) (.own .nw e0) g m t) (hr : DrAt w br (4 * P) f0) (hf : e0.D.f = f0) (hk : KeptOk e0) (hp : 1 ≤ P ∧ (P : Int) ≤ 64) (hT : 0 ≤ T ∧ T ≤ 300) (hb : ∀ i, 0 ≤ f0 i ∧ f0 i ≤ 18446744073709551615) :
    Calls Tryz.prog 12 #[.agg #[.slice (some ⟨br, 0, none⟩) P cpr, .int .i64 ps, .slice Ag mg capg], .pointer (some ⟨x, 0, none⟩), .agg #[.int .i64 P, .int .i64 T, .int .i64 G]] w fun e' w' => ∃ f Pv C b cp, e' = .returned (.agg #[.slice (some ⟨b, 0, none⟩) P cp, .int .i64 Pv, .bool C]) ∧ RunOn w' x A cap m g ((moPM false P T).rn t m) ∧ DrAt w' b (4 * P) f ∧ MoObs f Pv C t ∧ But [x] w w' ∧ w.heap.size ≤ b ∧ (∀ i, 0 ≤ f i ∧ f i ≤ 18446744073709551615) := by
  obtain ⟨i0, hi, hz0, hz1, hz2⟩ := info_parts info100
  have HH : Hid (RunOn w x A cap m g rn0 ∧ Hist (moPM false P T) (.own .nw e0) g m t ∧ DrAt w br (4 * P) f0 ∧ e0.D.f = f0 ∧ KeptOk e0) := ⟨hR, hh, hr, hf, hk⟩
  have HP : Hid (1 ≤ P ∧ (P : Int) ≤ 64 ∧ 0 ≤ T ∧ T ≤ 300) := ⟨hp.1, hp.2, hT⟩
  have HF0 : Hid (∀ i, 0 ≤ f0 i ∧ f0 i ≤ 18446744073709551615) := hb
  have HBD : Hid (∀ j, j < m → 0 ≤ g j ∧ g j ≤ 18446744073709551615) := hh.bd
  have hbr := hr.lt
  clear hR hh hr hf hk hp hT hb
  go_enter Tryz.func12, Tryz.ntmps12
  go_wp2_with fail
  have HG0 : Hid (PsG w ((((w.alloc (.cells #[.slice (some ⟨br, 0, none⟩) P cpr, .int .i64 ps, .slice Ag mg capg] 39)).alloc (.cells #[.int .i64 P, .int .i64 T, .int .i64 G] 23)).alloc (.cells #[.slice none 0 0, .int .i64 0, .bool false] 52)).alloc (.cells #[.slice none 0 0, .int .i64 (-1), .bool false] 52)) f0 0 #[.slice (some ⟨br, 0, none⟩) P cpr, .int .i64 ps, .slice Ag mg capg] #[.int .i64 P, .int .i64 T, .int .i64 G] (.slice none 0 0)) := by
    have h0 := Blk.new w #[.slice (some ⟨br, 0, none⟩) P cpr, .int .i64 ps, .slice Ag mg capg] 39
    have h1 := Blk.new (w.alloc (.cells #[.slice (some ⟨br, 0, none⟩) P cpr, .int .i64 ps, .slice Ag mg capg] 39)) #[.int .i64 P, .int .i64 T, .int .i64 G] 23
    have h2 := Blk.new ((w.alloc (.cells #[.slice (some ⟨br, 0, none⟩) P cpr, .int .i64 ps, .slice Ag mg capg] 39)).alloc (.cells #[.int .i64 P, .int .i64 T, .int .i64 G] 23)) #[.slice none 0 0, .int .i64 0, .bool false] 52
    have h3 := Blk.new (((w.alloc (.cells #[.slice (some ⟨br, 0, none⟩) P cpr, .int .i64 ps, .slice Ag mg capg] 39)).alloc (.cells #[.int .i64 P, .int .i64 T, .int .i64 G] 23)).alloc (.cells #[.slice none 0 0, .int .i64 0, .bool false] 52)) #[.slice none 0 0, .int .i64 (-1), .bool false] 52
    simp only [World.size_alloc] at h1 h2 h3
    exact ⟨((h0.al _).al _).al _, (h1.al _).al _, h2.al _, h3, World.ownsRow_nil _ _ _ _, ((((Below.refl _ _).alloc (Nat.le_refl _) _).alloc (by simp) _).alloc (by simp; omega) _).alloc (by simp; omega) _⟩
  generalize ((((w.alloc (.cells #[.slice (some ⟨br, 0, none⟩) P cpr, .int .i64 ps, .slice Ag mg capg] 39)).alloc (.cells #[.int .i64 P, .int .i64 T, .int .i64 G] 23)).alloc (.cells #[.slice none 0 0, .int .i64 0, .bool false] 52)).alloc (.cells #[.slice none 0 0, .int .i64 (-1), .bool false] 52)) = W0 at *
  go_loopw [8] (fun iv wr => ∃ (k : Nat) (v : Value), k ≤ P ∧ iv = .int .i64 k ∧ Hid (PsG w wr f0 k #[.slice (some ⟨br, 0, none⟩) P cpr, .int .i64 ps, .slice Ag mg capg] #[.int .i64 P, .int .i64 T, .int .i64 G] v)) (fun iv _ => P - (intOf iv).toNat)
  case atStart => exact ⟨0, .slice none 0 0, Nat.zero_le _, rfl, HG0⟩
  case round =>
    obtain ⟨k, v, hk, rfl, HG⟩ := hrel
    clear HG0
    have c0 := HG.out.cfg.cell 0 (v := .int .i64 P) rfl
    have hlo := HG.out.out.lt
    by_cases hlt : k < P
    · obtain ⟨E, cp, rfl⟩ : ∃ E cp, v = .slice E k cp := by
        rcases HG.out.own.2 with ⟨e0, h0⟩ | ⟨gb, cp, cur, e0, -⟩
        · exact ⟨none, 0, by rw [e0, h0]⟩
        · exact ⟨_, _, e0⟩
      have HKM : Hid (k < P) := hlt
      have hb := HG.out.out
      have hx := HG.out.mon
      have hrw := HH.out.2.2.1.but (But.of_below (l := []) HG.out.below) (by simp)
      have x0 := hrw.cell (i := k * 4) (by omega)
      have x1 := hrw.cell (i := k * 4 + 1) (by omega)
      have x2 := hrw.cell (i := k * 4 + 2) (by omega)
      have x3 := hrw.cell (i := k * 4 + 3) (by omega)
      have g0 := hb.cell 0 (v := .slice E k cp) rfl
      have g1 := hx.cell 0 (v := .slice (some ⟨br, 0, none⟩) P cpr) rfl
      have hA : (wr.alloc (.cells #[.int .u64 (f0 (k * 4)), .int .u64 (f0 (k * 4 + 1)), .int .u64 (f0 (k * 4 + 2)), .int .u64 (f0 (k * 4 + 3))] 100)).drew.cell? ⟨w.heap.size + 1 + 1 + 1, 0, none⟩ = some (.slice E k cp) ∧ (wr.alloc (.cells #[.int .u64 (f0 (k * 4)), .int .u64 (f0 (k * 4 + 1)), .int .u64 (f0 (k * 4 + 2)), .int .u64 (f0 (k * 4 + 3))] 100)).drew.frozen? ⟨w.heap.size + 1 + 1 + 1, 0, none⟩ = false := ⟨((hb.al _).drew).cell 0 rfl, ((hb.al _).drew).fro 0⟩
      have HA : Hid _ := hA
      obtain ⟨hA1, hA2⟩ := hA
      have hk0 : (0 : Int) ≤ (k : Int) := Int.natCast_nonneg _
      have hk1 : (k : Int) < (P : Int) := by omega
      clear hrw hb hx
      go_wp2_with fail
      go_region_law ((refine step_append_lies _ (by rfl) _ _ _ (by rfl) (w.heap.size + 4) 100 i0 _ 4 32 Tryz.underlying36 hi hz0 hz1 hz2 rfl (by omega) (.slice E k cp) k (wordCells f0 (k * 4)) (by rfl) ((HG.out.own.alloc _).drew) ⟨wr.heap.size, 0, none⟩ 1 1 [.int .u64 (f0 (k * 4)), .int .u64 (f0 (k * 4 + 1)), .int .u64 (f0 (k * 4 + 2)), .int .u64 (f0 (k * 4 + 3))] (by rfl) (by rfl) (World.news_of_block (cs := #[.int .u64 (f0 (k * 4)), .int .u64 (f0 (k * 4 + 1)), .int .u64 (f0 (k * 4 + 2)), .int .u64 (f0 (k * 4 + 3))]) (t := 100) (fr := (0, 0)) (heap_alloc_new wr _)) (by simp [Value.oneCell']) (by omega) (by have := HKM.out; have := HP.out; unfold maxLen; omega) (by have := HKM.out; have := HP.out; omega) (by have := HG.out.out.lt; simp; omega) (wr.heap.size + 1) (by simp) ?_; intro gg cap1 w1 hown1 hgrow hat hlt1; have q0 : w1.cell? ⟨w.heap.size + 1 + 1 + 1, 0, none⟩ = some (.slice E k cp) := (hgrow.cell_far ⟨w.heap.size + 1 + 1 + 1, 0, none⟩ (by have := HG.out.out.lt; simp; omega) (Ne.symm (HG.out.far (by show w.heap.size + 1 + 1 + 1 < _; omega)))).trans HA.out.1; have q1 : w1.frozen? ⟨w.heap.size + 1 + 1 + 1, 0, none⟩ = false := (hgrow.frozen_far ⟨w.heap.size + 1 + 1 + 1, 0, none⟩ (by have := HG.out.out.lt; simp; omega) (Ne.symm (HG.out.far (by show w.heap.size + 1 + 1 + 1 < _; omega)))).trans HA.out.2))
      all_goals
        have hN : Hid _ := HG.out.next hown1 hgrow
        clear q0 q1 hown1 hgrow hat hlt1 hA1 hA2 HA g0 g1 x0 x1 x2 x3 HG c0
        have hk9 : k < 64 := by have := HKM.out; have := HP.out; omega
        go_wp2_with fail
        go_roundw
        case rel => exact ⟨k + 1, _, HKM.out, by go_num, hN⟩
        case measure => have := HKM.out; simp [intOf]; omega
    · obtain rfl : P = k := by omega
      obtain ⟨wb, hwb⟩ : ∃ v, v = wr := ⟨_, rfl⟩
      subst hwb
      obtain ⟨b, cp, rfl, hdr, hb4⟩ := HG.out.end' (by have := HP.out; omega)
      have HSE : Hid (Blk wb (w.heap.size + 1 + 1 + 1) #[.slice (some ⟨b, 0, none⟩) P cp, .int .i64 (-1), .bool false] 52 ∧ DrAt wb b (4 * P) f0 ∧ Blk wb (w.heap.size + 1) #[.int .i64 P, .int .i64 T, .int .i64 G] 23 ∧ Blk wb (w.heap.size + 1 + 1) #[.slice none 0 0, .int .i64 0, .bool false] 52 ∧ Below w.heap.size w wb) := ⟨HG.out.out, hdr, HG.out.cfg, HG.out.res, HG.out.below⟩
      have hlx := HH.out.1.blk.lt
      have hfar : GotFar A [w.heap.size + 1 + 1 + 1, b] := fun b2 e2 => by
        rcases HH.out.1.got.form with ⟨e3, _⟩ | ⟨gb, e3, hl⟩
        · rw [e3] at e2; cases e2
        · rw [e3] at e2; cases e2; simp; omega
      have HM0 : Hid (RmAt wb wb x A cap m g P T (.own .nw e0) 0 (.own .nw e0) (fun _ => False) (w.heap.size + 1 + 1 + 1) b cp f0 (-1) false) := ⟨by rw [rj_start]; exact HH.out.1.below HG.out.below, Syn.start _ _ _ _, HG.out.out, hdr, But.refl _ _, hfar, by omega, by omega, by omega⟩
      have HNE : Hid (x < w.heap.size ∧ w.heap.size + 4 ≤ b) := ⟨hlx, hb4⟩
      have hA := syn_load HM0.out.run HM0.out.syn HBD.out 18 (fun _ => rfl)
      clear HG hlo hlt hk hdr hfar hb4 hlx hbr hi hz0 hz1 hz2
      go_wp2_with fail
      go_at_call 44; refine hA.mono ?_; rintro e1 w1 ⟨now, rfl, hK⟩
      have HW1 : Hid (0 ≤ now ∧ now ≤ 18446744073709551615) := hK.bd
      have H1 : Hid (RmAt wb w1 x A cap m g P T (.own .nw e0) 1 (moFold false (moVisit P { e0.D with nw := now, un := true } 0) e0) (fun r => r = .own .nw e0 ∨ False) (w.heap.size + 1 + 1 + 1) b cp f0 (-1) false) := HM0.out.step hK
      clear hA hK HM0 c0
      go_wp2_with fail
      have HSW : Hid (SwOk (moPM false P T) (.own .nw e0) g m) := HH.out.2.1.sw
      have HGD : Hid (∀ j, j ≤ m → MoGood T P ((moPM false P T).run (.own .nw e0) g j)) := mo_good_run HP.out.2.1 (by have := HP.out; omega) (show KeptOk e0 from HH.out.2.2.2.2) HH.out.2.1.bd HH.out.2.1.live
      have HQ1 : Hid (PsQ m now 1 f0 (-1) false { e0 with D := { e0.D with nw := now, un := true } }) := ⟨HF0.out, rfl, HH.out.2.2.2.1, fun _ => ⟨rfl, rfl, HH.out.2.2.2.2⟩⟩
      have H2 : Hid (RmAt wb w1 x A cap m g P T (.own .nw e0) 1 (moFold false (moVisit P ({ e0 with D := { e0.D with nw := now, un := true } } : MoE).D 0) { e0 with D := { e0.D with nw := now, un := true } }) (MoObs f0 (-1) false) (w.heap.size + 1 + 1 + 1) b cp f0 (-1) false) := by
        have h2 := H1.out
        rw [← fold_D false _ e0 { e0.D with nw := now, un := true }] at h2
        refine h2.as (h2.syn.weak (fun q hq => ?_))
        rcases hq with hq | hq
        · rw [hq, ← HH.out.2.2.2.1]; exact obs_own HH.out.2.2.2.2 _
        · exact hq.elim
      clear H1
      go_loopw [10, 11, 12] (fun iv sv tv wr => ∃ (u1 u2 : Value) (i j : Nat) (f : Nat → Int) (Pv : Int) (C : Bool) (e : MoE), u1 = sv ∧ u2 = tv ∧ i ≤ P ∧ iv = .int .i64 i ∧ Hid (RmAt wb wr x A cap m g P T (.own .nw e0) j (moFold false (moVisit P e.D i) e) (MoObs f Pv C) (w.heap.size + 1 + 1 + 1) b cp f Pv C) ∧ Hid (PsQ m now j f Pv C e)) (fun iv _ _ _ => P - (intOf iv).toNat)
      case atStart => exact ⟨_, _, 0, 1, f0, -1, false, _, rfl, rfl, Nat.zero_le _, rfl, H2, HQ1⟩
      case round =>
        obtain ⟨u1, u2, i, j, f, Pv, C, e, rfl, rfl, hi, rfl, HR, HQ⟩ := hrel
        clear H2 HQ1
        have sc := HR.out.stop
        have k0 := (HSE.out.2.2.1.but HR.out.but (by have := HNE.out; simp; omega)).cell 0 (v := .int .i64 P) rfl
        have HEND : Hid ((j ≤ m → i = P) → RunOn wr x A cap m g ((moPM false P T).rn t m) ∧ MoObs f Pv C t) := fun hip => by
          have he : j ≤ m → (moPM false P T).ax (moFold false (moVisit P e.D i) e) = none := fun h => by rw [hip h, mo_at_end]; rfl
          refine ⟨by rw [← rj_end HR.out.syn HH.out.2.1 he]; exact HR.out.run, ?_⟩
          rcases HR.out.syn.fin HH.out.2.1 he with ⟨h1, h2⟩ | ⟨h1, h2⟩
          · obtain ⟨q1, q2, q3⟩ := HQ.out.kp (by omega)
            rw [h1, hip (by omega), q1, q2, ← HQ.out.fe]
            exact obs_end q3
          · exact h2
        have HFF : Hid (∀ i, 0 ≤ f i ∧ f i ≤ 18446744073709551615) := HQ.out.bd
        by_cases hlt : i < P
        rotate_left
        · have hst : True := trivial
          obtain rfl : P = i := by omega
          have HEN : Hid (RunOn wr x A cap m g ((moPM false P T).rn t m) ∧ MoObs f Pv C t) := HEND.out (fun _ => by omega)
          have y0 := HR.out.seen.cell 0 (v := .slice (some ⟨b, 0, none⟩) P cp) rfl
          have y1 := HR.out.seen.cell 1 (v := .int .i64 Pv) rfl
          have y2 := HR.out.seen.cell 2 (v := .bool C) rfl
          have hres := HSE.out.2.2.2.1.but HR.out.but (by have := HNE.out; simp; omega)
          have r0 := hres.cell 0 (v := .slice none 0 0) rfl
          have r1 := hres.cell 1 (v := .int .i64 0) rfl
          have r2 := hres.cell 2 (v := .bool false) rfl
          have z0 := hres.fro 0
          have z1 := hres.fro 1
          have z2 := hres.fro 2
          have HRS : Hid _ := hres
          clear hres HEND HQ hst hlt
          go_wp2_with fail
          have hZ := ((HRS.out.set 0 (.slice (some ⟨b, 0, none⟩) P cp)).set 1 (.int .i64 Pv)).set 2 (.bool C)
          have hU : But [w.heap.size + 1 + 1] wr (((wr.setCell ⟨w.heap.size + 1 + 1, 0, none⟩ (.slice (some ⟨b, 0, none⟩) P cp)).setCell ⟨w.heap.size + 1 + 1, 1, none⟩ (.int .i64 Pv)).setCell ⟨w.heap.size + 1 + 1, 2, none⟩ (.bool C)) := (((But.refl _ wr).set (g := w.heap.size + 1 + 1) (.inl (by simp)) 0 _).set (g := w.heap.size + 1 + 1) (.inl (by simp)) 1 _).set (g := w.heap.size + 1 + 1) (.inl (by simp)) 2 _
          generalize (((wr.setCell ⟨w.heap.size + 1 + 1, 0, none⟩ (.slice (some ⟨b, 0, none⟩) P cp)).setCell ⟨w.heap.size + 1 + 1, 1, none⟩ (.int .i64 Pv)).setCell ⟨w.heap.size + 1 + 1, 2, none⟩ (.bool C)) = z at *
          have hfr : z.heap[w.heap.size + 1 + 1]? = some (.cells #[.slice (some ⟨b, 0, none⟩) P cp, .int .i64 Pv, .bool C] 52 (0, 0)) := hZ.heap
          refine bodyPost_ret (v := .agg #[.slice (some ⟨b, 0, none⟩) P cp, .int .i64 Pv, .bool C]) (results_cell_row rfl _ _ (w.heap.size + 1 + 1) 52 #[.slice (some ⟨b, 0, none⟩) P cp, .int .i64 Pv, .bool C] _ _ rfl hfr Tryz.underlying52 rfl (by kernel_rfl)) rfl ?_
          have hgf : GotFar A [w.heap.size + 1 + 1] := fun b2 e2 => by
            rcases HH.out.1.got.form with ⟨e3, _⟩ | ⟨gb, e3, hl⟩
            · rw [e3] at e2; cases e2
            · rw [e3] at e2; cases e2; simp; omega
          have hB1 : But [x, w.heap.size + 1 + 1 + 1, b] w wr := (But.of_below HSE.out.2.2.2.2).trans HR.out.but
          have hB2 : But [x] w z := ((hB1.more (l' := [x, w.heap.size + 1 + 1 + 1, b, w.heap.size + 1 + 1]) (by intro k _ hk; simp at hk ⊢; omega)).trans (hU.more (by intro k _ hk; simp at hk ⊢; omega))).more (by intro k hk hk2; have := HNE.out; simp at hk2 ⊢; omega)
          exact ⟨f, Pv, C, b, cp, rfl, HEN.out.1.but hU (by have := HNE.out; simp; omega) hgf, HR.out.row.but hU (by have := HNE.out; simp; omega), HEN.out.2, hB2, by have := HNE.out; omega, HFF.out⟩
        by_cases hst : m < j
        · rw [decide_eq_true hst] at sc
          have i1 : (i : Int) < (P : Int) := by omega
          have HEN : Hid (RunOn wr x A cap m g ((moPM false P T).rn t m) ∧ MoObs f Pv C t) := HEND.out (fun h => absurd h (by omega))
          have y0 := HR.out.seen.cell 0 (v := .slice (some ⟨b, 0, none⟩) P cp) rfl
          have y1 := HR.out.seen.cell 1 (v := .int .i64 Pv) rfl
          have y2 := HR.out.seen.cell 2 (v := .bool C) rfl
          have hres := HSE.out.2.2.2.1.but HR.out.but (by have := HNE.out; simp; omega)
          have r0 := hres.cell 0 (v := .slice none 0 0) rfl
          have r1 := hres.cell 1 (v := .int .i64 0) rfl
          have r2 := hres.cell 2 (v := .bool false) rfl
          have z0 := hres.fro 0
          have z1 := hres.fro 1
          have z2 := hres.fro 2
          have HRS : Hid _ := hres
          clear hres HEND HQ hst hlt
          go_wp2_with fail
          have hZ := ((HRS.out.set 0 (.slice (some ⟨b, 0, none⟩) P cp)).set 1 (.int .i64 Pv)).set 2 (.bool C)
          have hU : But [w.heap.size + 1 + 1] wr (((wr.setCell ⟨w.heap.size + 1 + 1, 0, none⟩ (.slice (some ⟨b, 0, none⟩) P cp)).setCell ⟨w.heap.size + 1 + 1, 1, none⟩ (.int .i64 Pv)).setCell ⟨w.heap.size + 1 + 1, 2, none⟩ (.bool C)) := (((But.refl _ wr).set (g := w.heap.size + 1 + 1) (.inl (by simp)) 0 _).set (g := w.heap.size + 1 + 1) (.inl (by simp)) 1 _).set (g := w.heap.size + 1 + 1) (.inl (by simp)) 2 _
          generalize (((wr.setCell ⟨w.heap.size + 1 + 1, 0, none⟩ (.slice (some ⟨b, 0, none⟩) P cp)).setCell ⟨w.heap.size + 1 + 1, 1, none⟩ (.int .i64 Pv)).setCell ⟨w.heap.size + 1 + 1, 2, none⟩ (.bool C)) = z at *
          have hfr : z.heap[w.heap.size + 1 + 1]? = some (.cells #[.slice (some ⟨b, 0, none⟩) P cp, .int .i64 Pv, .bool C] 52 (0, 0)) := hZ.heap
          refine bodyPost_ret (v := .agg #[.slice (some ⟨b, 0, none⟩) P cp, .int .i64 Pv, .bool C]) (results_cell_row rfl _ _ (w.heap.size + 1 + 1) 52 #[.slice (some ⟨b, 0, none⟩) P cp, .int .i64 Pv, .bool C] _ _ rfl hfr Tryz.underlying52 rfl (by kernel_rfl)) rfl ?_
          have hgf : GotFar A [w.heap.size + 1 + 1] := fun b2 e2 => by
            rcases HH.out.1.got.form with ⟨e3, _⟩ | ⟨gb, e3, hl⟩
            · rw [e3] at e2; cases e2
            · rw [e3] at e2; cases e2; simp; omega
          have hB1 : But [x, w.heap.size + 1 + 1 + 1, b] w wr := (But.of_below HSE.out.2.2.2.2).trans HR.out.but
          have hB2 : But [x] w z := ((hB1.more (l' := [x, w.heap.size + 1 + 1 + 1, b, w.heap.size + 1 + 1]) (by intro k _ hk; simp at hk ⊢; omega)).trans (hU.more (by intro k _ hk; simp at hk ⊢; omega))).more (by intro k hk hk2; have := HNE.out; simp at hk2 ⊢; omega)
          exact ⟨f, Pv, C, b, cp, rfl, HEN.out.1.but hU (by have := HNE.out; simp; omega) hgf, HR.out.row.but hU (by have := HNE.out; simp; omega), HEN.out.2, hB2, by have := HNE.out; omega, HFF.out⟩
        rw [decide_eq_false hst] at sc
        have HI : Hid (i < P ∧ i < 64) := ⟨hlt, by have := HP.out; omega⟩
        have HJ : Hid (j ≤ m) := (by omega : j ≤ m)
        obtain ⟨rfl, rfl, hkp⟩ := HQ.out.kp (by omega)
        obtain ⟨lp, hlp⟩ : ∃ lp : Int → Int, ∀ f, lp f = wd 20 P 264 i f := ⟨fun f => wd 20 P 264 i f, fun f => rfl⟩
        have HPr : Hid (∀ f : Int, 0 ≤ f ∧ f < 8 → ∀ Y : World, Calls Tryz.prog 25 #[.int .i64 i, .int .i64 f] Y fun e w' => e = .returned (.int .i64 (lp f)) ∧ Y = w') := fun f hf Y => by
          rw [hlp f]
          have h := rprc_any i f Y (by have := HI.out; omega) hf
          rw [show (20 : Int) + 264 * i + f = wd 20 P 264 i f by unfold wd; rw [if_pos ⟨by omega, by omega, by omega, by omega⟩]; omega] at h
          exact h
        obtain ⟨ei, hei⟩ : ∃ ei : MoE, ei = { e with D := { e.D with p := i } } := ⟨_, rfl⟩
        have HE : Hid (ei.D.p = i ∧ ei.D.f = f ∧ ei.D.nw = now ∧ KeptOk ei) := by rw [hei]; exact ⟨rfl, HQ.out.fe, HQ.out.nw, hkp⟩
        have HS : Hid (RmAt wb wr x A cap m g P T (.own .nw e0) (j) (.own .st ei) (MoObs f (-1) false) (w.heap.size + 1 + 1 + 1) b cp f (-1) false) := HR.out.as (HR.out.syn.as (fun _ => by rw [mo_at_st hlt, hei]))
        have HF : Hid (∀ i, 0 ≤ f i ∧ f i ≤ 18446744073709551615) := HQ.out.bd
        have hAx : (moPM false P T).ax (.own .st ei) = some (axLd (lp 0)) := by rw [hlp, ← HE.out.1]; rfl
        have hA := syn_load HS.out.run HS.out.syn HBD.out (lp 0) (fun _ => hAx)
        have i1 : (i : Int) < (P : Int) := by omega
        have i0 : (0 : Int) ≤ (i : Int) := by omega
        clear HR HQ HEND hei hkp hlp hAx hst hlt HFF
        go_wp2_with fail
        go_at_call 25; refine (HPr.out _ (by omega) _).mono ?_; rintro e1 w2 ⟨rfl, rfl⟩
        go_wp2_with fail
        go_at_call 44; refine hA.mono ?_; rintro e1 w2 ⟨v, rfl, hK⟩
        have H3 : Hid (RmAt wb w2 x A cap m g P T (.own .nw e0) (j + 1) ((moPM false P T).nx (.own .st ei) v) (MoObs f (-1) false) (w.heap.size + 1 + 1 + 1) b cp f (-1) false) := by
          have h3 := HS.out.step hK
          refine h3.as (h3.syn.weak (fun q hq => ?_))
          rcases hq with hq | hq
          · rw [hq, ← HE.out.2.1]; exact obs_own HE.out.2.2.2 _
          · exact hq
        clear hA hK HS k0 sc
        have sc := H3.out.stop
        by_cases hst : m < j + 1
        · rw [decide_eq_true hst] at sc
          have HRI : Hid (RmAt wb w2 x A cap m g P T (.own .nw e0) (j + 1) (moFold false (moVisit P ei.D (i + 1)) ei) (MoObs f (-1) false) (w.heap.size + 1 + 1 + 1) b cp f (-1) false) := H3.out.as (syn_stopped H3.out.syn hst (fun q h => h))
          have HQI : Hid (PsQ m now (j + 1) f (-1) false ei) := ⟨HF.out, HE.out.2.2.1, HE.out.2.1, fun _ => ⟨rfl, rfl, HE.out.2.2.2⟩⟩
          clear hst H3
          have hi9 := HI.out.2
          go_wp2_with fail
          go_roundw
          case rel => exact ⟨_, _, i + 1, _, _, _, _, _, rfl, rfl, by have := HI.out; omega, by go_num, HRI, HQI⟩
          case measure => have := HI.out; simp [intOf]; omega
        rw [decide_eq_false hst] at sc
        have HST : Hid (j + 1 ≤ m) := (by omega : j + 1 ≤ m)
        clear hst
        by_cases hv : v = 1
        · subst hv
          obtain ⟨e2, he2⟩ : ∃ e2 : MoE, e2 = { ei with D := { ei.D with st := 1 } } := ⟨_, rfl⟩
          have HE2 : Hid (e2.D.p = i ∧ e2.D.f = f ∧ e2.D.nw = now ∧ KeptOk e2 ∧ e2.D.st = 1) := by rw [he2]; exact ⟨HE.out.1, HE.out.2.1, HE.out.2.2.1, HE.out.2.2.2, rfl⟩
          have H4 : Hid (RmAt wb w2 x A cap m g P T (.own .nw e0) (j + 1) (.own .tu e2) (MoObs f (-1) false) (w.heap.size + 1 + 1 + 1) b cp f (-1) false) := H3.out.as (syn_going H3.out.syn HST.out (by rw [jd_yes (by decide), he2]) _)
          have hT := rm_turns H4.out.from0 HST.out HBD.out HE2.out.2.2.2.1 HE2.out.1 HE2.out.2.1 HE2.out.2.2.1 HI.out.1 HP.out.2.1 HF.out HW1.out
          clear he2 H3
          go_wp2_with fail
          go_at_call 45; refine hT.mono ?_; rintro e1 w3 ⟨lt, j3, f3, rfl, h3, hf3, -⟩
          have HF3 : Hid (∀ i, 0 ≤ f3 i ∧ f3 i ≤ 18446744073709551615) := hf3
          have h5 := h3.since H4.out.but
          rw [← fold_D false _ e2 { e2.D with lt := lt, f := f3 }] at h5
          obtain ⟨e3, he3⟩ : ∃ e3 : MoE, e3 = { e2 with D := { e2.D with lt := lt, f := f3 } } := ⟨_, rfl⟩
          have HE3 : Hid (e3.D.p = i ∧ e3.D.f = f3 ∧ e3.D.nw = now ∧ KeptOk e3 ∧ e3.D.lt = lt ∧ e3.D.st = 1) := by rw [he3]; exact ⟨HE2.out.1, rfl, HE2.out.2.2.1, HE2.out.2.2.2.1, rfl, HE2.out.2.2.2.2⟩
          have H5 : Hid (RmAt wb w3 x A cap m g P T (.own .nw e0) (j3) (moFold false (moSeeStatus P e3.D) e3) (MoObs f3 (-1) false) (w.heap.size + 1 + 1 + 1) b cp f3 (-1) false) := by rw [he3]; exact h5
          clear hT h3 hf3 h5 he3 H4 sc
          have sc := H5.out.stop
          by_cases hst : m < j3
          · rw [decide_eq_true hst] at sc
            have HRI : Hid (RmAt wb w3 x A cap m g P T (.own .nw e0) (j3) (moFold false (moVisit P e3.D (i + 1)) e3) (MoObs f3 (-1) false) (w.heap.size + 1 + 1 + 1) b cp f3 (-1) false) := H5.out.as (syn_stopped H5.out.syn hst (fun q h => h))
            have HQI : Hid (PsQ m now (j3) f3 (-1) false e3) := ⟨HF3.out, HE3.out.2.2.1, HE3.out.2.1, fun _ => ⟨rfl, rfl, HE3.out.2.2.2.1⟩⟩
            clear hst H5
            have hi9 := HI.out.2
            go_wp2_with fail
            go_roundw
            case rel => exact ⟨_, _, i + 1, _, _, _, _, _, rfl, rfl, by have := HI.out; omega, by go_num, HRI, HQI⟩
            case measure => have := HI.out; simp [intOf]; omega
          rw [decide_eq_false hst] at sc
          have HST3 : Hid (j3 ≤ m) := (by omega : j3 ≤ m)
          clear hst
          have HRI : Hid (RmAt wb w3 x A cap m g P T (.own .nw e0) (j3) (moFold false (moVisit P e3.D (i + 1)) e3) (MoObs f3 (-1) false) (w.heap.size + 1 + 1 + 1) b cp f3 (-1) false) := by
            refine H5.out.as (syn_going H5.out.syn HST3.out ?_ _)
            unfold moSeeStatus
            rw [if_neg (by rw [HE3.out.2.2.2.2.2]; decide), HE3.out.1]
          have HQI : Hid (PsQ m now (j3) f3 (-1) false e3) := ⟨HF3.out, HE3.out.2.2.1, HE3.out.2.1, fun _ => ⟨rfl, rfl, HE3.out.2.2.2.1⟩⟩
          clear H5
          have hi9 := HI.out.2
          go_wp2_with fail
          go_roundw
          case rel => exact ⟨_, _, i + 1, _, _, _, _, _, rfl, rfl, by have := HI.out; omega, by go_num, HRI, HQI⟩
          case measure => have := HI.out; simp [intOf]; omega
        by_cases hv2 : v = 2
        · subst hv2
          obtain ⟨e2, he2⟩ : ∃ e2 : MoE, e2 = { ei with D := { ei.D with st := 2 } } := ⟨_, rfl⟩
          have HE2 : Hid (e2.D.p = i ∧ e2.D.f = f ∧ e2.D.nw = now ∧ KeptOk e2 ∧ e2.D.st = 2) := by rw [he2]; exact ⟨HE.out.1, HE.out.2.1, HE.out.2.2.1, HE.out.2.2.2, rfl⟩
          have H4 : Hid (RmAt wb w2 x A cap m g P T (.own .nw e0) (j + 1) (.own .tu e2) (MoObs f (-1) false) (w.heap.size + 1 + 1 + 1) b cp f (-1) false) := H3.out.as (syn_going H3.out.syn HST.out (by rw [jd_yes (by decide), he2]) _)
          have hT := rm_turns H4.out.from0 HST.out HBD.out HE2.out.2.2.2.1 HE2.out.1 HE2.out.2.1 HE2.out.2.2.1 HI.out.1 HP.out.2.1 HF.out HW1.out
          clear he2 H3
          go_wp2_with fail
          go_at_call 45; refine hT.mono ?_; rintro e1 w3 ⟨lt, j3, f3, rfl, h3, hf3, -⟩
          have HF3 : Hid (∀ i, 0 ≤ f3 i ∧ f3 i ≤ 18446744073709551615) := hf3
          have h5 := h3.since H4.out.but
          rw [← fold_D false _ e2 { e2.D with lt := lt, f := f3 }] at h5
          obtain ⟨e3, he3⟩ : ∃ e3 : MoE, e3 = { e2 with D := { e2.D with lt := lt, f := f3 } } := ⟨_, rfl⟩
          have HE3 : Hid (e3.D.p = i ∧ e3.D.f = f3 ∧ e3.D.nw = now ∧ KeptOk e3 ∧ e3.D.lt = lt ∧ e3.D.st = 2) := by rw [he3]; exact ⟨HE2.out.1, rfl, HE2.out.2.2.1, HE2.out.2.2.2.1, rfl, HE2.out.2.2.2.2⟩
          have H5 : Hid (RmAt wb w3 x A cap m g P T (.own .nw e0) (j3) (moFold false (moSeeStatus P e3.D) e3) (MoObs f3 (-1) false) (w.heap.size + 1 + 1 + 1) b cp f3 (-1) false) := by rw [he3]; exact h5
          clear hT h3 hf3 h5 he3 H4 sc
          have sc := H5.out.stop
          by_cases hst : m < j3
          · rw [decide_eq_true hst] at sc
            have HRI : Hid (RmAt wb w3 x A cap m g P T (.own .nw e0) (j3) (moFold false (moVisit P e3.D (i + 1)) e3) (MoObs f3 (-1) false) (w.heap.size + 1 + 1 + 1) b cp f3 (-1) false) := H5.out.as (syn_stopped H5.out.syn hst (fun q h => h))
            have HQI : Hid (PsQ m now (j3) f3 (-1) false e3) := ⟨HF3.out, HE3.out.2.2.1, HE3.out.2.1, fun _ => ⟨rfl, rfl, HE3.out.2.2.2.1⟩⟩
            clear hst H5
            have hi9 := HI.out.2
            go_wp2_with fail
            go_roundw
            case rel => exact ⟨_, _, i + 1, _, _, _, _, _, rfl, rfl, by have := HI.out; omega, by go_num, HRI, HQI⟩
            case measure => have := HI.out; simp [intOf]; omega
          rw [decide_eq_false hst] at sc
          have HST3 : Hid (j3 ≤ m) := (by omega : j3 ≤ m)
          clear hst
          have H6 : Hid (RmAt wb w3 x A cap m g P T (.own .nw e0) (j3) (.own .ca e3) (MoObs f3 (-1) false) (w.heap.size + 1 + 1 + 1) b cp f3 (-1) false) := by
            refine H5.out.as (syn_going H5.out.syn HST3.out ?_ _)
            unfold moSeeStatus
            rw [if_pos HE3.out.2.2.2.2.2]
            rfl
          have hW := rm_waits (G := G) H6.out.from0 HST3.out HBD.out HE3.out.2.2.2.1 HE3.out.1 HE3.out.2.1 HE3.out.2.2.1 HE3.out.2.2.2.2.1 HI.out.1 HP.out.2.1 HF3.out HW1.out
          clear H5
          have k0 := (HSE.out.2.2.1.but H6.out.but (by have := HNE.out; simp; omega)).cell 0 (v := .int .i64 P) rfl
          have k1 := (HSE.out.2.2.1.but H6.out.but (by have := HNE.out; simp; omega)).cell 1 (v := .int .i64 T) rfl
          have k2 := (HSE.out.2.2.1.but H6.out.but (by have := HNE.out; simp; omega)).cell 2 (v := .int .i64 G) rfl
          go_wp2_with fail
          go_at_call 46; refine hW.mono ?_; rintro e1 w4 ⟨bv, j4, f4, e4, rfl, h4, ⟨q1, q2, q3, q4⟩, hf4, hs4⟩
          have HF4 : Hid (∀ i, 0 ≤ f4 i ∧ f4 i ≤ 18446744073709551615) := hf4
          have HE4 : Hid (e4.D.f = f4 ∧ e4.D.p = i ∧ e4.D.nw = now ∧ KeptOk e4) := ⟨q1, q3, q4, kept_hv HE3.out.2.2.2.1 q2⟩
          have H7 : Hid (RmAt wb w4 x A cap m g P T (.own .nw e0) (j4) (if bv = true then .acq .fresh e4 else moFold false (moVisit P e4.D (i + 1)) e4) (MoObs f4 (-1) false) (w.heap.size + 1 + 1 + 1) b cp f4 (-1) false) := h4.since H6.out.but
          clear hW h4 hf4 q1 q2 q3 q4 H6 k0 k1 k2 sc
          have sc := H7.out.stop
          cases bv with
          | false =>
            have HRI : Hid (RmAt wb w4 x A cap m g P T (.own .nw e0) (j4) (moFold false (moVisit P e4.D (i + 1)) e4) (MoObs f4 (-1) false) (w.heap.size + 1 + 1 + 1) b cp f4 (-1) false) := H7.out
            have HQI : Hid (PsQ m now (j4) f4 (-1) false e4) := ⟨HF4.out, HE4.out.2.2.1, HE4.out.1, fun _ => ⟨rfl, rfl, HE4.out.2.2.2⟩⟩
            clear H7 hs4
            have hi9 := HI.out.2
            go_wp2_with fail
            go_roundw
            case rel => exact ⟨_, _, i + 1, _, _, _, _, _, rfl, rfl, by have := HI.out; omega, by go_num, HRI, HQI⟩
            case measure => have := HI.out; simp [intOf]; omega
          | true =>
            have HST4 : Hid (j4 ≤ m) := by
              by_cases h : m < j4
              · exact absurd (hs4 h) (by decide)
              · exact (by omega : j4 ≤ m)
            rw [decide_eq_false (by have := HST4.out; omega)] at sc
            have H8 : Hid (RmAt wb w4 x A cap m g P T (.own .nw e0) (j4) (.acq .fresh e4) (MoObs f4 (-1) false) (w.heap.size + 1 + 1 + 1) b cp f4 (-1) false) := H7.out
            have hSp := rm_spare (G := G) H8.out.from0 HST4.out HBD.out HE4.out.2.2.2 HE4.out.2.1 HE4.out.1 ⟨HP.out.2.2.1, HP.out.2.2.2⟩
            clear H7 hs4
            have k0 := (HSE.out.2.2.1.but H8.out.but (by have := HNE.out; simp; omega)).cell 0 (v := .int .i64 P) rfl
            have k1 := (HSE.out.2.2.1.but H8.out.but (by have := HNE.out; simp; omega)).cell 1 (v := .int .i64 T) rfl
            have k2 := (HSE.out.2.2.1.but H8.out.but (by have := HNE.out; simp; omega)).cell 2 (v := .int .i64 G) rfl
            go_wp2_with fail
            go_at_call 47; refine hSp.mono ?_; rintro e1 w5 ⟨bv, j5, e5, rfl, h5, ⟨q1, q2, q3, q4⟩, hs5⟩
            have HE5 : Hid (e5.D.f = f4 ∧ e5.D.p = i ∧ e5.D.nw = now ∧ KeptOk e5) := ⟨q1, q3, q4.trans HE4.out.2.2.1, kept_hv HE4.out.2.2.2 q2⟩
            have H9 : Hid (RmAt wb w5 x A cap m g P T (.own .nw e0) (j5) (if bv = true then .own .sw e5 else moFold false (moVisit P e5.D (i + 1)) e5) (MoObs f4 (-1) false) (w.heap.size + 1 + 1 + 1) b cp f4 (-1) false) := h5.since H8.out.but
            clear hSp h5 q1 q2 q3 q4 H8 k0 k1 k2 sc
            cases bv with
            | false =>
              have HRI : Hid (RmAt wb w5 x A cap m g P T (.own .nw e0) (j5) (moFold false (moVisit P e5.D (i + 1)) e5) (MoObs f4 (-1) false) (w.heap.size + 1 + 1 + 1) b cp f4 (-1) false) := H9.out
              have HQI : Hid (PsQ m now (j5) f4 (-1) false e5) := ⟨HF4.out, HE5.out.2.2.1, HE5.out.1, fun _ => ⟨rfl, rfl, HE5.out.2.2.2⟩⟩
              clear H9 hs5
              have hi9 := HI.out.2
              go_wp2_with fail
              go_roundw
              case rel => exact ⟨_, _, i + 1, _, _, _, _, _, rfl, rfl, by have := HI.out; omega, by go_num, HRI, HQI⟩
              case measure => have := HI.out; simp [intOf]; omega
            | true =>
              have HST5 : Hid (j5 ≤ m) := by
                by_cases h : m < j5
                · exact absurd (hs5 h) (by decide)
                · exact (by omega : j5 ≤ m)
              have H10 : Hid (RmAt wb w5 x A cap m g P T (.own .nw e0) (j5) (.own .sw e5) (MoObs f4 (-1) false) (w.heap.size + 1 + 1 + 1) b cp f4 (-1) false) := H9.out
              have hTk := rm_takes (G := G) H10.out.from0 HST5.out HBD.out HE5.out.2.2.2 HE5.out.2.1 HE5.out.1 HE5.out.2.2.1 HI.out.1 HP.out.2.1 ⟨HP.out.2.2.1, HP.out.2.2.2⟩ HSW.out HGD.out
              clear H9 hs5
              have k0 := (HSE.out.2.2.1.but H10.out.but (by have := HNE.out; simp; omega)).cell 0 (v := .int .i64 P) rfl
              have k1 := (HSE.out.2.2.1.but H10.out.but (by have := HNE.out; simp; omega)).cell 1 (v := .int .i64 T) rfl
              have k2 := (HSE.out.2.2.1.but H10.out.but (by have := HNE.out; simp; omega)).cell 2 (v := .int .i64 G) rfl
              go_wp2_with fail
              go_at_call 48; refine hTk.mono ?_; rintro e1 w6 ⟨u, j6, Pv, C, e6, rfl, h6, ⟨q1, q2, q3⟩, hs6⟩
              have HRI : Hid (RmAt wb w6 x A cap m g P T (.own .nw e0) (j6) (moFold false (moVisit P e6.D (i + 1)) e6) (MoObs f4 Pv C) (w.heap.size + 1 + 1 + 1) b cp f4 Pv C) := h6.since H10.out.but
              have HQI : Hid (PsQ m now (j6) f4 Pv C e6) := ⟨HF4.out, q3, q1, hs6⟩
              clear hTk h6 q1 q2 q3 hs6 H10 k0 k1 k2
              have hi9 := HI.out.2
              go_wp2_with fail
              go_roundw
              case rel => exact ⟨_, _, i + 1, _, _, _, _, _, rfl, rfl, by have := HI.out; omega, by go_num, HRI, HQI⟩
              case measure => have := HI.out; simp [intOf]; omega
        have d1 : (v != 1) = true := by simpa using hv
        have d2 : (v != 2) = true := by simpa using hv2
        have HRI : Hid (RmAt wb w2 x A cap m g P T (.own .nw e0) (j + 1) (moFold false (moVisit P ei.D (i + 1)) ei) (MoObs f (-1) false) (w.heap.size + 1 + 1 + 1) b cp f (-1) false) := H3.out.as (syn_going H3.out.syn HST.out (by rw [jd_no hv hv2, HE.out.1]) _)
        have HQI : Hid (PsQ m now (j + 1) f (-1) false ei) := ⟨HF.out, HE.out.2.2.1, HE.out.2.1, fun _ => ⟨rfl, rfl, HE.out.2.2.2⟩⟩
        clear hv hv2 H3
        have hi9 := HI.out.2
        go_wp2_with fail
        go_roundw
        case rel => exact ⟨_, _, i + 1, _, _, _, _, _, rfl, rfl, by have := HI.out; omega, by go_num, HRI, HQI⟩
        case measure => have := HI.out; simp [intOf]; omega
end Go.Proofs.YthjfbknmdligeaaGreat

namespace Go.Proofs.YthjfbknmdligeaaGreat
open Go Go.RowKit
set_option linter.unusedVariables false
set_option maxRecDepth 100000
set_option linter.unusedSimpArgs false
set_option linter.unusedSectionVars false

set_option maxHeartbeats 8000000 in
theorem rm_turn {w : World} {y : Nat} {A : Option Addr} {cap m : Nat} {g : Nat → Int} {P : Nat} {T G : Int} {e0 : MoE} {t : MoT} {br cpr : Nat} {ps : Int} {f0 : Nat → Int} (hy : Blk w y #[.slice (some ⟨br, 0, none⟩) P cpr, .int .i64 ps, .slice A m cap] 39) (hg : GotOn w A cap m g) (hgf : GotFar A [y]) (hm : m ≤ 1000) (hh : Hist (moPM false P T) (.own .nw e0) g m t) (hr : DrAt w br (4 * P) f0) (hne : y ≠ br) (hf : e0.D.f = f0) (hk : KeptOk e0) (hp : 1 ≤ P ∧ (P : Int) ≤ 64) (hT : 0 ≤ T ∧ T ≤ 300) (hb : ∀ i, 0 ≤ f0 i ∧ f0 i ≤ 18446744073709551615) :
    Calls Tryz.prog 19 #[.pointer (some ⟨y, 0, none⟩), .agg #[.int .i64 P, .int .i64 T, .int .i64 G]] w fun e' w' => (∃ u, e' = .returned u) ∧ But [y] w w' ∧ ((moPM false P T).ax t = none → ∃ br' cpr', Blk w' y #[.slice (some ⟨br', 0, none⟩) P cpr', .int .i64 (wrap64 (ps + 1)), .slice none 0 0] 39 ∧ DrAt w' br' (4 * P) t.e.D.f ∧ w.heap.size ≤ br') ∧ ((moPM false P T).ax t ≠ none → Blk w' y #[.slice (some ⟨br, 0, none⟩) P cpr, .int .i64 ps, .slice A m cap] 39) := by
  have hlt := hy.lt
  have y0 := hy.cell 0 (v := .slice (some ⟨br, 0, none⟩) P cpr) rfl
  have y1 := hy.cell 1 (v := .int .i64 ps) rfl
  have y2 := hy.cell 2 (v := .slice A m cap) rfl
  have hb1 : Below w.heap.size w (w.alloc (.cells #[.int .i64 P, .int .i64 T, .int .i64 G] 23)) := (Below.refl _ _).alloc (Nat.le_refl _) _
  have hR0 : RunOn ((w.alloc (.cells #[.int .i64 P, .int .i64 T, .int .i64 G] 23)).alloc (.cells #[.slice A m cap, .int .i64 0, .bool false, .int .i64 0, .int .i64 0, .int .i64 0, .int .u64 0, .int .u64 0, .bool false, .bool false] 50)) (w.alloc (.cells #[.int .i64 P, .int .i64 T, .int .i64 G] 23)).heap.size A cap m g rn0 := run_starts (hg.but (But.of_below (l := []) hb1) (fun b e => by simp)) (by omega)
  have hb2 : Below w.heap.size w ((w.alloc (.cells #[.int .i64 P, .int .i64 T, .int .i64 G] 23)).alloc (.cells #[.slice A m cap, .int .i64 0, .bool false, .int .i64 0, .int .i64 0, .int .i64 0, .int .u64 0, .int .u64 0, .bool false, .bool false] 50)) := hb1.alloc (by simp) _
  have HC : Hid (Blk ((w.alloc (.cells #[.int .i64 P, .int .i64 T, .int .i64 G] 23)).alloc (.cells #[.slice A m cap, .int .i64 0, .bool false, .int .i64 0, .int .i64 0, .int .i64 0, .int .u64 0, .int .u64 0, .bool false, .bool false] 50)) w.heap.size #[.int .i64 P, .int .i64 T, .int .i64 G] 23) := (Blk.new w #[.int .i64 P, .int .i64 T, .int .i64 G] 23).al _
  have HY : Hid (Blk ((w.alloc (.cells #[.int .i64 P, .int .i64 T, .int .i64 G] 23)).alloc (.cells #[.slice A m cap, .int .i64 0, .bool false, .int .i64 0, .int .i64 0, .int .i64 0, .int .u64 0, .int .u64 0, .bool false, .bool false] 50)) y #[.slice (some ⟨br, 0, none⟩) P cpr, .int .i64 ps, .slice A m cap] 39 ∧ DrAt ((w.alloc (.cells #[.int .i64 P, .int .i64 T, .int .i64 G] 23)).alloc (.cells #[.slice A m cap, .int .i64 0, .bool false, .int .i64 0, .int .i64 0, .int .i64 0, .int .u64 0, .int .u64 0, .bool false, .bool false] 50)) br (4 * P) f0 ∧ Below w.heap.size w ((w.alloc (.cells #[.int .i64 P, .int .i64 T, .int .i64 G] 23)).alloc (.cells #[.slice A m cap, .int .i64 0, .bool false, .int .i64 0, .int .i64 0, .int .i64 0, .int .u64 0, .int .u64 0, .bool false, .bool false] 50))) := ⟨(hy.al _).al _, hr.but (But.of_below (l := []) hb2) (by simp), hb2⟩
  rw [World.size_alloc] at hR0
  have HPS : Hid (∀ Z, Below ((w.alloc (.cells #[.int .i64 P, .int .i64 T, .int .i64 G] 23)).alloc (.cells #[.slice A m cap, .int .i64 0, .bool false, .int .i64 0, .int .i64 0, .int .i64 0, .int .u64 0, .int .u64 0, .bool false, .bool false] 50)).heap.size ((w.alloc (.cells #[.int .i64 P, .int .i64 T, .int .i64 G] 23)).alloc (.cells #[.slice A m cap, .int .i64 0, .bool false, .int .i64 0, .int .i64 0, .int .i64 0, .int .u64 0, .int .u64 0, .bool false, .bool false] 50)) Z → Calls Tryz.prog 12 #[.agg #[.slice (some ⟨br, 0, none⟩) P cpr, .int .i64 ps, .slice A m cap], .pointer (some ⟨w.heap.size + 1, 0, none⟩), .agg #[.int .i64 P, .int .i64 T, .int .i64 G]] Z fun e' w' => ∃ f Pv C b cp, e' = .returned (.agg #[.slice (some ⟨b, 0, none⟩) P cp, .int .i64 Pv, .bool C]) ∧ RunOn w' (w.heap.size + 1) A cap m g ((moPM false P T).rn t m) ∧ DrAt w' b (4 * P) f ∧ MoObs f Pv C t ∧ But [w.heap.size + 1] Z w' ∧ Z.heap.size ≤ b ∧ (∀ i, 0 ≤ f i ∧ f i ≤ 18446744073709551615)) := fun Z hZ => rm_pass (G := G) (ps := ps) (cpr := cpr) (Ag := A) (mg := m) (capg := cap) (hR0.below hZ) hh (HY.out.2.1.but (But.of_below (l := []) hZ) (by simp)) hf hk hp hT hb
  have HX : Hid (RunOn ((w.alloc (.cells #[.int .i64 P, .int .i64 T, .int .i64 G] 23)).alloc (.cells #[.slice A m cap, .int .i64 0, .bool false, .int .i64 0, .int .i64 0, .int .i64 0, .int .u64 0, .int .u64 0, .bool false, .bool false] 50)) (w.heap.size + 1) A cap m g rn0 ∧ y < w.heap.size) := ⟨hR0, hlt⟩
  clear hy hg hgf hh hr hne hf hk hp hT hb hb1 hb2 hR0
  go_enter Tryz.func19, Tryz.ntmps19
  go_wp2_with fail
  have hWs : ((w.alloc (.cells #[.int .i64 P, .int .i64 T, .int .i64 G] 23)).alloc (.cells #[.slice A m cap, .int .i64 0, .bool false, .int .i64 0, .int .i64 0, .int .i64 0, .int .u64 0, .int .u64 0, .bool false, .bool false] 50)).heap.size = w.heap.size + 1 + 1 := by simp
  generalize ((w.alloc (.cells #[.int .i64 P, .int .i64 T, .int .i64 G] 23)).alloc (.cells #[.slice A m cap, .int .i64 0, .bool false, .int .i64 0, .int .i64 0, .int .i64 0, .int .u64 0, .int .u64 0, .bool false, .bool false] 50)) = W at *
  have c0 := HC.out.cell 0 (v := .int .i64 P) rfl
  have c1 := HC.out.cell 1 (v := .int .i64 T) rfl
  have c2 := HC.out.cell 2 (v := .int .i64 G) rfl
  have w0 := HY.out.1.cell 0 (v := .slice (some ⟨br, 0, none⟩) P cpr) rfl
  have w1 := HY.out.1.cell 1 (v := .int .i64 ps) rfl
  have w2 := HY.out.1.cell 2 (v := .slice A m cap) rfl
  clear y0 y1 y2
  have s0 : y < W.heap.size := HY.out.1.lt
  have s1 : w.heap.size < W.heap.size := HC.out.lt
  have HWS : Hid (W.heap.size = w.heap.size + 1 + 1) := hWs
  have wd0 : (W.alloc (.cells #[.slice none 0 0, .int .i64 0, .bool false] 52)).drew.cell? ⟨y, 0, none⟩ = some (.slice (some ⟨br, 0, none⟩) P cpr) := ((HY.out.1.al _).drew).cell 0 rfl
  have wd1 : (W.alloc (.cells #[.slice none 0 0, .int .i64 0, .bool false] 52)).drew.cell? ⟨y, 1, none⟩ = some (.int .i64 ps) := ((HY.out.1.al _).drew).cell 1 rfl
  have wd2 : (W.alloc (.cells #[.slice none 0 0, .int .i64 0, .bool false] 52)).drew.cell? ⟨y, 2, none⟩ = some (.slice A m cap) := ((HY.out.1.al _).drew).cell 2 rfl
  clear hWs
  go_region_with (first | (go_at_call 12; refine (HPS.out _ (Below.refl _ _).drew).mono ?_; rintro e1 w3 ⟨f, Pv, C, b, cp, rfl, l1, l2, l3, l4, l5, l6⟩) | (go_at_call 12; refine (HPS.out _ (((Below.refl _ _).alloc (Nat.le_refl _) _).drew)).mono ?_; rintro e1 w3 ⟨f, Pv, C, b, cp, rfl, l1, l2, l3, l4, l5, l6⟩; have hq : Blk w3 W.heap.size #[.slice none 0 0, .int .i64 0, .bool false] 52 := ((Blk.new W _ _).drew).but l4 (by rw [HWS.out]; simp); have r0 := hq.cell 0 (v := .slice none 0 0) rfl; have r1 := hq.cell 1 (v := .int .i64 0) rfl; have r2 := hq.cell 2 (v := .bool false) rfl; have z0 := hq.fro 0; have z1 := hq.fro 1; have z2 := hq.fro 2))
  all_goals
    have hbW : But [w.heap.size + 1] W w3 := by first | exact ((But.refl _ W).drew).trans l4 | exact (((But.refl _ W).trans (But.of_below ((Below.refl _ _).alloc (Nat.le_refl _) _))).drew).trans l4
    have hbs : W.heap.size ≤ b := by
      have := l5
      first | (simpa using this) | (simp at this; omega)
    have hsz3 := hbW.size
    have HT : Hid (∀ Y q k0, But [k0] w3 Y → Blk Y q #[.slice (some ⟨b, 0, none⟩) P cp, .int .i64 Pv, .bool C] 52 → W.heap.size ≤ q → W.heap.size ≤ k0 → b ≠ k0 → RunOn Y (w.heap.size + 1) A cap m g ((moPM false P T).rn t m) ∧ Blk Y y #[.slice (some ⟨br, 0, none⟩) P cpr, .int .i64 ps, .slice A m cap] 39 ∧ DrAt Y b (4 * P) f ∧ But [y] w Y ∧ w.heap.size ≤ b ∧ Blk Y q #[.slice (some ⟨b, 0, none⟩) P cp, .int .i64 Pv, .bool C] 52 ∧ y ≠ q ∧ f = t.e.D.f) := fun Y q k0 h1 h2 h3 h5 h4 => by
      have hW := HWS.out
      have hX := HX.out
      have hgf : GotFar A [k0] := fun b2 e2 => by
        rcases HX.out.1.got.form with ⟨e3, _⟩ | ⟨gb, e3, hl⟩
        · rw [e3] at e2; cases e2
        · rw [e3] at e2; cases e2; simp; omega
      have k1 : But [w.heap.size + 1, k0] W Y := (hbW.more (by intro k _ hk; simp at hk ⊢; omega)).trans (h1.more (by intro k _ hk; simp at hk ⊢; omega))
      exact ⟨l1.but h1 (by simp; omega) hgf, HY.out.1.but k1 (by simp; omega), l2.but h1 (by simpa using h4), ((But.of_below HY.out.2.2 : But [y, w.heap.size + 1, k0] w W).trans (k1.more (by intro k _ hk; simp at hk ⊢; omega))).more (by intro k hk hk2; simp at hk2 ⊢; omega), by omega, h2, by omega, l3.1.symm⟩
    clear wd0 wd1 wd2 c0 c1 c2 w0 w1 w2 s0 s1
    first
    | (have hqq := hq
       have hU : But [W.heap.size] w3 (((w3.setCell ⟨W.heap.size, 0, none⟩ (.slice (some ⟨b, 0, none⟩) P cp)).setCell ⟨W.heap.size, 1, none⟩ (.int .i64 Pv)).setCell ⟨W.heap.size, 2, none⟩ (.bool C)) := (((But.refl _ w3).set (g := W.heap.size) (.inl (by simp)) 0 _).set (g := W.heap.size) (.inl (by simp)) 1 _).set (g := W.heap.size) (.inl (by simp)) 2 _
       have HF : Hid _ := HT.out (((w3.setCell ⟨W.heap.size, 0, none⟩ (.slice (some ⟨b, 0, none⟩) P cp)).setCell ⟨W.heap.size, 1, none⟩ (.int .i64 Pv)).setCell ⟨W.heap.size, 2, none⟩ (.bool C)) W.heap.size W.heap.size hU (((hqq.set 0 _).set 1 _).set 2 _) (Nat.le_refl _) (Nat.le_refl _) (by have := l5; simp at this; omega)
       clear hU hqq hq r0 r1 r2 z0 z1 z2 HT hbW l1 l2 l3 l4 l5 hbs hsz3
       generalize (((w3.setCell ⟨W.heap.size, 0, none⟩ (.slice (some ⟨b, 0, none⟩) P cp)).setCell ⟨W.heap.size, 1, none⟩ (.int .i64 Pv)).setCell ⟨W.heap.size, 2, none⟩ (.bool C)) = Y at *
       generalize W.heap.size = q at *)
    | (have HF : Hid _ := HT.out (w3.alloc (.cells #[.slice (some ⟨b, 0, none⟩) P cp, .int .i64 Pv, .bool C] 52)) w3.heap.size (b + 1) (But.of_below ((Below.refl _ _).alloc (Nat.le_refl _) _)) (Blk.new _ _ _) hsz3 (by omega) (by omega)
       clear HT hbW l1 l2 l3 l4 l5 hbs hsz3
       generalize (w3.alloc (.cells #[.slice (some ⟨b, 0, none⟩) P cp, .int .i64 Pv, .bool C] 52)) = Y at *
       generalize w3.heap.size = q at *)
    have s2 := HF.out.1.blk.cell 2 (v := .bool ((moPM false P T).rn t m).stop) rfl
    rw [PM.rn_stop] at s2
    have hql := HF.out.2.2.2.2.2.1.lt
    cases hst : ((moPM false P T).ax t).isSome
    · rw [hst] at s2
      have hno : (moPM false P T).ax t = none := by simpa using hst
      have k0 := HF.out.2.2.2.2.2.1.cell 0 (v := .slice (some ⟨b, 0, none⟩) P cp) rfl
      have m0 := HF.out.2.1.cell 0 (v := .slice (some ⟨br, 0, none⟩) P cpr) rfl
      have m1 := HF.out.2.1.cell 1 (v := .int .i64 ps) rfl
      have m2 := HF.out.2.1.cell 2 (v := .slice A m cap) rfl
      have f0 := HF.out.2.1.fro 0
      have f1 := HF.out.2.1.fro 1
      have f2 := HF.out.2.1.fro 2
      have HM : Hid _ := ((HF.out.2.1.set 0 (.slice (some ⟨b, 0, none⟩) P cp)).set 1 (.int .i64 (wrap64 (ps + 1)))).set 2 (.slice none 0 0)
      have hU : But [y] Y (((Y.setCell ⟨y, 0, none⟩ (.slice (some ⟨b, 0, none⟩) P cp)).setCell ⟨y, 1, none⟩ (.int .i64 (wrap64 (ps + 1)))).setCell ⟨y, 2, none⟩ (.slice none 0 0)) := (((But.refl _ Y).set (g := y) (.inl (by simp)) 0 _).set (g := y) (.inl (by simp)) 1 _).set (g := y) (.inl (by simp)) 2 _
      have HU : Hid _ := hU
      have HNO : Hid ((moPM false P T).ax t = none) := hno
      clear hU hno hst
      go_wp2_with fail
      refine bodyPost_end (results_none rfl _ _ _) rfl ?_
      exact ⟨⟨_, rfl⟩, HF.out.2.2.2.1.trans HU.out, fun _ => ⟨b, cp, HM.out, by rw [← HF.out.2.2.2.2.2.2.2]; exact HF.out.2.2.1.but HU.out (by have := HF.out.2.2.2.2.1; have := HX.out.2; simp; omega), HF.out.2.2.2.2.1⟩, fun h => absurd HNO.out h⟩
    · rw [hst] at s2
      have HSO : Hid ((moPM false P T).ax t ≠ none) := by intro h; rw [h] at hst; cases hst
      clear hst
      go_wp2_with fail
      refine bodyPost_end (results_none rfl _ _ _) rfl ?_
      exact ⟨⟨_, rfl⟩, HF.out.2.2.2.1, fun h => absurd h HSO.out, fun _ => HF.out.2.1⟩
end Go.Proofs.YthjfbknmdligeaaGreat

namespace Go.Proofs.YthjfbknmdligeaaGreat
open Go Go.RowKit
set_option linter.unusedVariables false
set_option maxRecDepth 100000
set_option linter.unusedSimpArgs false
set_option linter.unusedSectionVars false

/-- The monitor itself, where a pass of the document's is over, begins the next one. -/
def moMr : MoT → MoT
  | .en e => .own .nw e
  | t => t
theorem fold_mr (S : MoP × MoD) (e : MoE) : moFold true S e = moMr (moFold false S e) := by
  obtain ⟨ph, d⟩ := S
  cases ph <;> rfl
theorem nx_mr {P : Nat} {T : Int} {t : MoT} {v : Int} (h : ∀ e, t ≠ .en e) : (moPM true P T).nx t v = moMr ((moPM false P T).nx t v) := by
  cases t with
  | en e => exact absurd rfl (h e)
  | own ph e =>
    cases ph with
    | nw => exact fold_mr _ _
    | st => exact fold_mr _ _
    | tu => exact fold_mr _ _
    | pr => exact fold_mr _ _
    | ca =>
      by_cases hc : e.D.lt = false ∧ v ≠ e.D.f (e.D.p * 4 + 2)
      · rw [show (moPM true P T).nx (.own .ca e) v = _ from if_pos hc, show (moPM false P T).nx (.own .ca e) v = _ from if_pos hc]; exact fold_mr _ _
      · rw [show (moPM true P T).nx (.own .ca e) v = _ from if_neg hc, show (moPM false P T).nx (.own .ca e) v = _ from if_neg hc]; rfl
    | sp => rfl
    | ip =>
      by_cases hc : moWaits e.D v = true
      · rw [show (moPM true P T).nx (.own .ip e) v = _ from if_pos hc, show (moPM false P T).nx (.own .ip e) v = _ from if_pos hc]; exact fold_mr _ _
      · rw [show (moPM true P T).nx (.own .ip e) v = _ from if_neg hc, show (moPM false P T).nx (.own .ip e) v = _ from if_neg hc]; rfl
    | im => rfl
    | th => rfl
    | ip2 =>
      by_cases hc : moSpares T e.D.im e.D.th v = true
      · rw [show (moPM true P T).nx (.own .ip2 e) v = _ from if_pos hc, show (moPM false P T).nx (.own .ip2 e) v = _ from if_pos hc]; rfl
      · rw [show (moPM true P T).nx (.own .ip2 e) v = _ from if_neg hc, show (moPM false P T).nx (.own .ip2 e) v = _ from if_neg hc]; rfl
    | sw =>
      by_cases hc : v = 0
      · rw [show (moPM true P T).nx (.own .sw e) v = _ from if_pos hc, show (moPM false P T).nx (.own .sw e) v = _ from if_pos hc]; exact fold_mr _ _
      · rw [show (moPM true P T).nx (.own .sw e) v = _ from if_neg hc, show (moPM false P T).nx (.own .sw e) v = _ from if_neg hc]; rfl
    | ad => rfl
  | lk l e =>
    by_cases hs : ((loPM P e.D.p).ax ((loPM P e.D.p).nx l v)).isSome = true
    · rw [show (moPM true P T).nx (.lk l e) v = _ from if_pos hs, show (moPM false P T).nx (.lk l e) v = _ from if_pos hs]; rfl
    · rw [show (moPM true P T).nx (.lk l e) v = _ from if_neg hs, show (moPM false P T).nx (.lk l e) v = _ from if_neg hs]; split <;> rfl
  | acq a e =>
    by_cases hs : ((acqPM (wd 0 2 3 0 0) (wd 0 2 3 0 1) (wd 0 2 3 0 2) T).ax ((acqPM (wd 0 2 3 0 0) (wd 0 2 3 0 1) (wd 0 2 3 0 2) T).nx a v)).isSome = true
    · rw [show (moPM true P T).nx (.acq a e) v = _ from if_pos hs, show (moPM false P T).nx (.acq a e) v = _ from if_pos hs]; rfl
    · rw [show (moPM true P T).nx (.acq a e) v = _ from if_neg hs, show (moPM false P T).nx (.acq a e) v = _ from if_neg hs]; rfl
  | relN r e =>
    by_cases hs : ((relPM (wd 0 2 3 0 1) (wd 0 2 3 0 2)).ax ((relPM (wd 0 2 3 0 1) (wd 0 2 3 0 2)).nx r v)).isSome = true
    · rw [show (moPM true P T).nx (.relN r e) v = _ from if_pos hs, show (moPM false P T).nx (.relN r e) v = _ from if_pos hs]; rfl
    · rw [show (moPM true P T).nx (.relN r e) v = _ from if_neg hs, show (moPM false P T).nx (.relN r e) v = _ from if_neg hs]; exact fold_mr _ _
  | relT r e =>
    by_cases hs : ((relPM (wd 0 2 3 0 1) (wd 0 2 3 0 2)).ax ((relPM (wd 0 2 3 0 1) (wd 0 2 3 0 2)).nx r v)).isSome = true
    · rw [show (moPM true P T).nx (.relT r e) v = _ from if_pos hs, show (moPM false P T).nx (.relT r e) v = _ from if_pos hs]; rfl
    · rw [show (moPM true P T).nx (.relT r e) v = _ from if_neg hs, show (moPM false P T).nx (.relT r e) v = _ from if_neg hs]; rfl
  | ov hh e =>
    by_cases hs : ((hvPM P T T e.D.p).ax ((hvPM P T T e.D.p).nx hh v)).isSome = true
    · rw [show (moPM true P T).nx (.ov hh e) v = _ from if_pos hs, show (moPM false P T).nx (.ov hh e) v = _ from if_pos hs]; rfl
    · rw [show (moPM true P T).nx (.ov hh e) v = _ from if_neg hs, show (moPM false P T).nx (.ov hh e) v = _ from if_neg hs]; exact fold_mr _ _
theorem ax_mr {P : Nat} {T : Int} {t : MoT} : (moPM true P T).ax t = (moPM false P T).ax t := by cases t <;> rfl
theorem goT_mr {P n : Nat} {T : Int} {t : MoT} {s : St} (h : ∀ e, t ≠ .en e) : (moPM true P T).goT n t s = moMr ((moPM false P T).goT n t s) := by
  have hm : moMr t = t := by cases t <;> first | rfl | exact absurd rfl (h _)
  unfold PM.goT
  rw [ax_mr]
  cases (moPM false P T).ax t with
  | none => exact hm.symm
  | some a =>
    dsimp only
    split
    · exact hm.symm
    · exact nx_mr h
theorem goS_mr {P n : Nat} {T : Int} {t : MoT} {s : St} {who : Int} : (moPM true P T).goS who n t s = (moPM false P T).goS who n t s := by
  unfold PM.goS
  rw [ax_mr]
/-- Within a pass: how many ended ahead of it, and that it is under way. -/
def PsOk (p0 : Int) : MoT → Prop
  | .en e => e.D.ps = wrap64 (p0 + 1) ∧ e.D.un = false
  | .own .nw e => e.D.ps = p0 ∧ e.D.un = false
  | t => t.e.D.ps = p0 ∧ t.e.D.un = true
def NotNw : MoT → Prop
  | .own .nw _ => False
  | _ => True
theorem ps_fold {p0 : Int} {S : MoP × MoD} {e : MoE} (h : (S.1 = .nw ∧ S.2.ps = wrap64 (p0 + 1) ∧ S.2.un = false) ∨ (S.1 ≠ .nw ∧ S.2.ps = p0 ∧ S.2.un = true)) : PsOk p0 (moFold false S e) ∧ NotNw (moFold false S e) := by
  obtain ⟨ph, d⟩ := S
  rcases h with ⟨h1, h2⟩ | ⟨h1, h2⟩
  · obtain rfl : ph = .nw := h1
    exact ⟨h2, trivial⟩
  · cases ph <;> first | exact absurd rfl h1 | exact ⟨h2, trivial⟩
theorem ps_visit {p0 : Int} {P q : Nat} {d : MoD} (h : d.ps = p0 ∧ d.un = true) : ((moVisit P d q).1 = .nw ∧ (moVisit P d q).2.ps = wrap64 (p0 + 1) ∧ (moVisit P d q).2.un = false) ∨ ((moVisit P d q).1 ≠ .nw ∧ (moVisit P d q).2.ps = p0 ∧ (moVisit P d q).2.un = true) := by
  unfold moVisit
  split
  · exact .inl ⟨rfl, by rw [← h.1], rfl⟩
  · exact .inr ⟨(by intro h; cases h), h⟩
theorem ps_seeStatus {p0 : Int} {P : Nat} {d : MoD} (h : d.ps = p0 ∧ d.un = true) : ((moSeeStatus P d).1 = .nw ∧ (moSeeStatus P d).2.ps = wrap64 (p0 + 1) ∧ (moSeeStatus P d).2.un = false) ∨ ((moSeeStatus P d).1 ≠ .nw ∧ (moSeeStatus P d).2.ps = p0 ∧ (moSeeStatus P d).2.un = true) := by
  unfold moSeeStatus
  split
  · exact .inr ⟨(by intro h; cases h), h⟩
  · exact ps_visit h
theorem ps_next {p0 : Int} {P : Nat} {T : Int} {t : MoT} {v : Int} (hP : 1 ≤ P) (h : PsOk p0 t) (hn : ∀ e, t ≠ .en e) : PsOk p0 ((moPM false P T).nx t v) ∧ NotNw ((moPM false P T).nx t v) := by
  cases t with
  | en e => exact absurd rfl (hn e)
  | own ph e =>
    cases ph with
    | nw =>
      refine ps_fold (.inr ?_)
      show (moVisit P { e.D with nw := v, un := true } 0).1 ≠ .nw ∧ _
      unfold moFirst moVisit
      rw [if_neg (by omega)]
      exact ⟨(by intro h; cases h), h.1, rfl⟩
    | st =>
      refine ps_fold ?_
      show ((moJudge P e.D v).1 = .nw ∧ _) ∨ _
      unfold moJudge
      split
      · exact .inr ⟨(by intro h; cases h), h⟩
      · exact ps_visit h
    | tu =>
      refine ps_fold ?_
      show ((moTurns P e.D v).1 = .nw ∧ _) ∨ _
      unfold moTurns
      split
      · exact ps_seeStatus h
      · split
        · exact .inr ⟨(by intro h; cases h), h⟩
        · exact ps_seeStatus h
    | pr => exact ps_fold (ps_seeStatus (d := { e.D with lt := true }) h)
    | ca =>
      by_cases hc : e.D.lt = false ∧ v ≠ e.D.f (e.D.p * 4 + 2)
      · rw [show (moPM false P T).nx (.own .ca e) v = _ from if_pos hc]; exact ps_fold (ps_visit (d := moCallsRow e.D v) h)
      · rw [show (moPM false P T).nx (.own .ca e) v = _ from if_neg hc]; exact ⟨h, trivial⟩
    | sp => exact ⟨h, trivial⟩
    | ip =>
      by_cases hc : moWaits e.D v = true
      · rw [show (moPM false P T).nx (.own .ip e) v = _ from if_pos hc]; exact ps_fold (ps_visit h)
      · rw [show (moPM false P T).nx (.own .ip e) v = _ from if_neg hc]; exact ⟨h, trivial⟩
    | im => exact ⟨h, trivial⟩
    | th => exact ⟨h, trivial⟩
    | ip2 =>
      by_cases hc : moSpares T e.D.im e.D.th v = true
      · rw [show (moPM false P T).nx (.own .ip2 e) v = _ from if_pos hc]; exact ⟨h, trivial⟩
      · rw [show (moPM false P T).nx (.own .ip2 e) v = _ from if_neg hc]; exact ⟨h, trivial⟩
    | sw =>
      by_cases hc : v = 0
      · rw [show (moPM false P T).nx (.own .sw e) v = _ from if_pos hc]; exact ps_fold (ps_visit h)
      · rw [show (moPM false P T).nx (.own .sw e) v = _ from if_neg hc]; exact ⟨h, trivial⟩
    | ad => exact ⟨h, trivial⟩
  | lk l e =>
    by_cases hs : ((loPM P e.D.p).ax ((loPM P e.D.p).nx l v)).isSome = true
    · rw [show (moPM false P T).nx (.lk l e) v = _ from if_pos hs]; exact ⟨h, trivial⟩
    · rw [show (moPM false P T).nx (.lk l e) v = _ from if_neg hs]; split <;> exact ⟨h, trivial⟩
  | acq a e =>
    by_cases hs : ((acqPM (wd 0 2 3 0 0) (wd 0 2 3 0 1) (wd 0 2 3 0 2) T).ax ((acqPM (wd 0 2 3 0 0) (wd 0 2 3 0 1) (wd 0 2 3 0 2) T).nx a v)).isSome = true
    · rw [show (moPM false P T).nx (.acq a e) v = _ from if_pos hs]; exact ⟨h, trivial⟩
    · rw [show (moPM false P T).nx (.acq a e) v = _ from if_neg hs]; exact ⟨h, trivial⟩
  | relN r e =>
    by_cases hs : ((relPM (wd 0 2 3 0 1) (wd 0 2 3 0 2)).ax ((relPM (wd 0 2 3 0 1) (wd 0 2 3 0 2)).nx r v)).isSome = true
    · rw [show (moPM false P T).nx (.relN r e) v = _ from if_pos hs]; exact ⟨h, trivial⟩
    · rw [show (moPM false P T).nx (.relN r e) v = _ from if_neg hs]; exact ps_fold (ps_visit h)
  | relT r e =>
    by_cases hs : ((relPM (wd 0 2 3 0 1) (wd 0 2 3 0 2)).ax ((relPM (wd 0 2 3 0 1) (wd 0 2 3 0 2)).nx r v)).isSome = true
    · rw [show (moPM false P T).nx (.relT r e) v = _ from if_pos hs]; exact ⟨h, trivial⟩
    · rw [show (moPM false P T).nx (.relT r e) v = _ from if_neg hs]; exact ⟨h, trivial⟩
  | ov hh e =>
    by_cases hs : ((hvPM P T T e.D.p).ax ((hvPM P T T e.D.p).nx hh v)).isSome = true
    · rw [show (moPM false P T).nx (.ov hh e) v = _ from if_pos hs]; exact ⟨h, trivial⟩
    · rw [show (moPM false P T).nx (.ov hh e) v = _ from if_neg hs]; exact ps_fold (ps_visit h)
/-- One's own blocks are turned, others made: what is known of the rest. -/
theorem LawOn.rebase {σ : Type} {I : MI σ} {M : PM σ} {R : Rd} {W0 w w' : World} {A A' : Option Addr} {cap cap' c b c' b' n : Nat} {s s2 : St} {Ag : Option Addr} {capg m : Nat} {g : Nat → Int} {x : Nat} {t : σ} {L E E' l : List Nat} (hG : I.Good M) (h : LawOn I R W0 w A A' cap cap' c b c' b' n s s2 Ag capg m g x t L E) (hb : But l w w') (hl : ∀ k ∈ l, k ∈ E ∧ k ∉ R.B) (hE : ∀ k ∈ E', k ∈ E ∨ (w.heap.size ≤ k ∧ k < w'.heap.size)) (hrb : ∀ k ∈ R.B, k ∈ E') : LawOn I R W0 w' A A' cap cap' c b c' b' n s s2 Ag capg m g x t L E' := by
  have k1 := h.poke.mem.lt
  have k2 := h.poke.mem.bl
  have k3 := h.poke.ref.lt
  have k4 := h.poke.ref.bl
  have hs := h.poke.below.size
  have hf : ∀ k ∈ l, (k ≠ c ∧ k ≠ b ∧ k ≠ c' ∧ k ≠ b') ∧ k < w.heap.size ∧ W0.heap.size ≤ k := fun k hk => h.poke.far k (List.mem_append_right _ (hl k hk).1)
  have hgy : GotFar Ag l := fun k e hm => h.poke.gfar k e (by simp [(hl k hm).1])
  have hlt : ∀ k ∈ L, k < w.heap.size := fun k hk => (h.poke.far k (List.mem_append_left _ hk)).2.1
  refine ⟨⟨h.poke.mem.but hb (fun hm => (hf _ hm).1.1 rfl) (fun hm => (hf _ hm).1.2.1 rfl), h.poke.ref.but hb (fun hm => (hf _ hm).1.2.2.1 rfl) (fun hm => (hf _ hm).1.2.2.2 rfl), h.poke.ne, h.poke.got.but hb hgy, fun k e => ?_, h.poke.gup, fun k hk => ?_, h.poke.up, h.poke.below.trans (hb.below (fun k hk => (hf k hk).2.2) hs)⟩, hG.keep h.mach hb (fun k hk hm => h.apart k hk (hl k hm).1), R.keep _ _ _ h.rd hb (fun k hk hm => (hl k hm).2 hk), hrb, fun k hk hke => ?_⟩
  · have h1 := h.poke.gfar k e
    have h2 : k < w.heap.size := by
      rcases h.poke.got.form with ⟨e3, _⟩ | ⟨gb, e3, hl⟩
      · rw [e3] at e; cases e
      · rw [e3] at e; cases e; exact hl
    intro hm
    simp only [List.mem_cons, List.mem_append] at hm h1
    rcases hm with e1 | e1 | e1 | e1 | e1 | e1
    · exact h1 (.inl e1)
    · exact h1 (.inr (.inl e1))
    · exact h1 (.inr (.inr (.inl e1)))
    · exact h1 (.inr (.inr (.inr (.inl e1))))
    · exact h1 (.inr (.inr (.inr (.inr (.inl e1)))))
    · rcases hE k e1 with e2 | e2
      · exact h1 (.inr (.inr (.inr (.inr (.inr e2)))))
      · omega
  · rcases List.mem_append.1 hk with hk | hk
    · obtain ⟨g1, g2, g3⟩ := h.poke.far k (List.mem_append_left _ hk)
      exact ⟨g1, Nat.lt_of_lt_of_le g2 hb.size, g3⟩
    · rcases hE k hk with hk | hk
      · obtain ⟨g1, g2, g3⟩ := h.poke.far k (List.mem_append_right _ hk)
        exact ⟨g1, Nat.lt_of_lt_of_le g2 hb.size, g3⟩
      · exact ⟨⟨by omega, by omega, by omega, by omega⟩, hk.2, by omega⟩
  · rcases hE k hke with h1 | h1
    · exact h.apart k hk h1
    · have := hlt k hk
      omega
/-- What was answered is dropped. -/
theorem LawOn.drop {σ : Type} {I : MI σ} {R : Rd} {W0 w : World} {A A' : Option Addr} {cap cap' c b c' b' n : Nat} {s s2 : St} {Ag : Option Addr} {capg m : Nat} {g g2 : Nat → Int} {x : Nat} {t : σ} {L E : List Nat} (h : LawOn I R W0 w A A' cap cap' c b c' b' n s s2 Ag capg m g x t L E) : LawOn I R W0 w A A' cap cap' c b c' b' n s s2 none 0 0 g2 x t L E :=
  ⟨⟨h.poke.mem, h.poke.ref, h.poke.ne, ⟨World.ownsRow_nil _ _ _ _⟩, (fun k e => by cases e), (fun k e => by cases e), h.poke.far, h.poke.up, h.poke.below⟩, h.mach, h.rd, h.rb, h.apart⟩
theorem mo_bds {T G : Int} {P cl : Nat} {w : World} {x : Nat} {t : MoT} {L : List Nat} (h : (moCp T G P cl).I w x t L) : ∀ i, 0 ≤ t.e.D.f i ∧ t.e.D.f i ≤ 18446744073709551615 := by
  obtain ⟨hok, -⟩ := h
  cases t with
  | en e => exact hok.elim
  | _ => exact hok.1.f
end Go.Proofs.YthjfbknmdligeaaGreat

namespace Go.Proofs.YthjfbknmdligeaaGreat
open Go Go.RowKit
set_option linter.unusedVariables false
set_option maxRecDepth 100000
set_option linter.unusedSimpArgs false
set_option linter.unusedSectionVars false

theorem rn_mr {P : Nat} {T : Int} {t : MoT} {m : Nat} : (moPM true P T).rn t m = (moPM false P T).rn t m := by
  unfold PM.rn
  rw [ax_mr]
theorem goM_mr {P n m : Nat} {T : Int} {t : MoT} {s : St} : (moPM true P T).goM n t s m = (moPM false P T).goM n t s m := by
  unfold PM.goM
  rw [ax_mr]
theorem goG_mr {P n m : Nat} {T : Int} {t : MoT} {s : St} {g : Nat → Int} : (moPM true P T).goG n t s g m = (moPM false P T).goG n t s g m := by
  unfold PM.goG
  rw [ax_mr]
theorem mo_axS {T G : Int} {P cl : Nat} {w : World} {x : Nat} {t : MoT} {L : List Nat} (h : (moCp T G P cl).I w x t L) : ((moPM true P T).ax t).isNone = false := by
  obtain ⟨hok, -⟩ := h
  cases t with
  | en e => exact hok.elim
  | own ph e => rfl
  | lk l e => show ((loPM P e.D.p).ax l).isNone = false; have := hok.2.2.1; revert this; cases (loPM P e.D.p).ax l <;> simp
  | acq a e => show ((acqPM (wd 0 2 3 0 0) (wd 0 2 3 0 1) (wd 0 2 3 0 2) T).ax a).isNone = false; have := hok.2.2; revert this; cases (acqPM (wd 0 2 3 0 0) (wd 0 2 3 0 1) (wd 0 2 3 0 2) T).ax a <;> simp
  | relN r e => show ((relPM (wd 0 2 3 0 1) (wd 0 2 3 0 2)).ax r).isNone = false; have := hok.2.2; revert this; cases (relPM (wd 0 2 3 0 1) (wd 0 2 3 0 2)).ax r <;> simp
  | relT r e => show ((relPM (wd 0 2 3 0 1) (wd 0 2 3 0 2)).ax r).isNone = false; have := hok.2.2; revert this; cases (relPM (wd 0 2 3 0 1) (wd 0 2 3 0 2)).ax r <;> simp
  | ov hh e => show ((hvPM P T T e.D.p).ax hh).isNone = false; have := hok.2.2.2.1; revert this; cases (hvPM P T T e.D.p).ax hh <;> simp
theorem LawOn.stepv {σ : Type} {I : MI σ} {M : PM σ} {R Rm : Rd} {W0 w : World} {A A' : Option Addr} {cap cap' c b c' b' n : Nat} {s s2 : St} {Ag : Option Addr} {capg m : Nat} {g : Nat → Int} {x : Nat} {t : σ} {L E : List Nat} (hG : I.Good M) {F : Nat} {who : Int} (hS : Steps M I Rm F who) (hRm : ∀ w, R.P w → Rm.P w) (hRb : ∀ k ∈ Rm.B, k ∈ R.B) (h : LawOn I R W0 w A A' cap cap' c b c' b' n s s2 Ag capg m g x t L E) (hn : n ≤ 1000000) (hl : Low s 1000000) :
    Calls Tryz.prog F #[.pointer (some ⟨x, 0, none⟩), .pointer (some ⟨c, 0, none⟩)] w fun e w' => e = .returned (.bool (M.ax (M.goT n t s)).isNone) ∧ But (c :: b :: L) w w' ∧ ∃ L', LawOn I R W0 w' A A' cap cap' c b c' b' n (M.goS who n t s) s2 Ag capg m g x (M.goT n t s) L' E := by
  have hE : ∀ k ∈ E, k ∉ L := fun k hk hl => h.apart k hl hk
  have hfar := h.poke.far
  refine (hS w A cap c b n s x t L h.mach (hRm w h.rd) h.poke.mem hn hl (fun k hk => ⟨(hfar k (List.mem_append_left _ hk)).1.1, (hfar k (List.mem_append_left _ hk)).1.2.1, fun hr => h.apart k hk (h.rb k (hRb k hr))⟩)
    ⟨fun hr => (hfar c (List.mem_append_right _ (h.rb c (hRb c hr)))).1.1 rfl, fun hr => (hfar b (List.mem_append_right _ (h.rb b (hRb b hr)))).1.2.1 rfl⟩).mono ?_
  rintro e w' ⟨rfl, L', a1, a2, a3, a4⟩
  have hlt := hG.lt a1
  refine ⟨rfl, a3, L', h.poke.stepped a2 a3 (fun k hk => ?_) (fun k hk => ?_), a1, R.keep _ _ _ h.rd a3 (fun k hk => ?_), h.rb, fun k hk hke => ?_⟩
  · simp only [List.mem_cons] at hk
    rcases hk with rfl | rfl | hk
    · exact .inl rfl
    · exact .inr (.inl rfl)
    · exact .inr (.inr (List.mem_append_left _ hk))
  · rcases List.mem_append.1 hk with hk | hk
    · refine ⟨?_, hlt k hk⟩
      rcases a4 k hk with h1 | h1
      · exact .inl (List.mem_append_left _ h1)
      · exact .inr h1
    · exact ⟨.inl (List.mem_append_right _ hk), Nat.lt_of_lt_of_le (hfar k (List.mem_append_right _ hk)).2.1 a3.size⟩
  · have hke := h.rb k hk
    have := hfar k (List.mem_append_right _ hke)
    simp only [List.mem_cons, not_or]
    exact ⟨this.1.1, this.1.2.1, hE k hke⟩
  · rcases a4 k hk with h1 | h1
    · exact h.apart k h1 hke
    · have := (hfar k (List.mem_append_right _ hke)).2.1
      omega
/-- What the document's monitor is, in memory, where its pass began at e0 and is at t. -/
structure MsQ (P : Nat) (w : World) (y br cpr : Nat) (Ag : Option Addr) (capg mg : Nat) (e0 : MoE) (t : MoT) : Prop where
  want : Blk w y #[.slice (some ⟨br, 0, none⟩) P cpr, .int .i64 e0.D.ps, .slice Ag mg capg] 39
  row : DrAt w br (4 * P) e0.D.f
  kept : KeptOk e0
  bd : ∀ i, 0 ≤ e0.D.f i ∧ e0.D.f i ≤ 18446744073709551615
  ps : PsOk e0.D.ps t
  nen : ∀ e, t ≠ .en e
  nw0 : mg = 0 → t = .own .nw e0
  nnw : 0 < mg → NotNw t
  ne : y ≠ br
theorem MsQ.but {P : Nat} {w w' : World} {y br cpr : Nat} {Ag : Option Addr} {capg mg : Nat} {e0 : MoE} {t : MoT} {l : List Nat} (h : MsQ P w y br cpr Ag capg mg e0 t) (hb : But l w w') (hy : y ∉ l) (hr : br ∉ l) : MsQ P w' y br cpr Ag capg mg e0 t :=
  ⟨h.want.but hb hy, h.row.but hb hr, h.kept, h.bd, h.ps, h.nen, h.nw0, h.nnw, h.ne⟩
theorem MsQ.un {P : Nat} {w : World} {y br cpr : Nat} {Ag : Option Addr} {capg mg : Nat} {e0 : MoE} {t : MoT} (h : MsQ P w y br cpr Ag capg mg e0 t) : t.e.D.un = !decide (mg = 0) ∧ t.e.D.ps = e0.D.ps := by
  have hp := h.ps
  by_cases hm : mg = 0
  · have ht := h.nw0 hm
    rw [ht] at hp
    rw [ht, hm]
    exact ⟨hp.2, hp.1⟩
  · have hn := h.nnw (by omega)
    have he := h.nen
    rw [decide_eq_false hm]
    cases t with
    | en e => exact absurd rfl (he e)
    | own ph e =>
      cases ph <;> first | exact hn.elim | exact ⟨hp.2, hp.1⟩
    | _ => exact ⟨hp.2, hp.1⟩
/-- A step within a pass. -/
theorem ms_go {P n : Nat} {T : Int} {e0 : MoE} {t : MoT} {s : St} {mg : Nat} (hP : 1 ≤ P) (hp : PsOk e0.D.ps t) (hn : ∀ e, t ≠ .en e) (h0 : mg = 0 → t = .own .nw e0) (h1 : 0 < mg → NotNw t) : PsOk e0.D.ps ((moPM false P T).goT n t s) ∧ ((moPM false P T).goM n t s mg = 0 → (moPM false P T).goT n t s = .own .nw e0) ∧ (0 < (moPM false P T).goM n t s mg → NotNw ((moPM false P T).goT n t s)) := by
  unfold PM.goT PM.goM
  cases ha : (moPM false P T).ax t with
  | none => exact ⟨hp, h0, h1⟩
  | some a =>
    dsimp only
    by_cases hz : PM.asl n a s = true
    · rw [if_pos hz, if_pos hz]
      exact ⟨hp, h0, h1⟩
    · rw [if_neg hz, if_neg hz]
      have := ps_next (T := T) (v := PM.ans n a s) hP hp hn
      exact ⟨this.1, fun h => absurd h (by omega), fun _ => this.2⟩
theorem mo_between_nil (w : World) : Calls Tryz.prog 13 #[.pointer none] w fun e w' => e = .returned (.bool true) ∧ w = w' := by
  go_enter Tryz.func13, Tryz.ntmps13
  go_wp2_with fail
  go_ret
  exact ⟨rfl, rfl⟩
theorem mo_passes_nil (w : World) : Calls Tryz.prog 14 #[.pointer none] w fun e w' => e = .returned (.int .i64 0) ∧ w = w' := by
  go_enter Tryz.func14, Tryz.ntmps14
  go_wp2_with fail
  go_ret
  exact ⟨rfl, rfl⟩
theorem mo_hand_nil (w : World) : Calls Tryz.prog 16 #[.pointer none] w fun e w' => e = .returned (.int .i64 (-1)) ∧ w = w' := by
  go_enter Tryz.func16, Tryz.ntmps16
  go_wp2_with fail
  go_ret
  exact ⟨rfl, rfl⟩
theorem mo_counts_nil (w : World) : Calls Tryz.prog 17 #[.pointer none] w fun e w' => e = .returned (.bool false) ∧ w = w' := by
  go_enter Tryz.func17, Tryz.ntmps17
  go_wp2_with fail
  go_ret
  exact ⟨rfl, rfl⟩
theorem LawOn.pokesv {σ : Type} {I : MI σ} {M : PM σ} {R : Rd} {W0 w : World} {A A' : Option Addr} {cap cap' c b c' b' n : Nat} {s : St} {Ag : Option Addr} {capg m : Nat} {g : Nat → Int} {x : Nat} {t : σ} {L E : List Nat} (hG : I.Good M) (h : LawOn I R W0 w A A' cap cap' c b c' b' n s s Ag capg m g x t L E) (hn : n ≤ 1000000) (hl : Low s 1000000) (k who i old new : Int) (hnb : 0 ≤ new ∧ new ≤ 18446744073709551615) :
    Calls Tryz.prog 11 #[.pointer (some ⟨c, 0, none⟩), .pointer (some ⟨c', 0, none⟩), .agg #[.int .i64 k, .int .i64 who, .int .i64 i, .int .u64 old, .int .u64 new]] w fun e w' => e = .returned (.bool true) ∧ LawOn I R W0 w' A A' cap cap' c b c' b' n (actS k who i old new n s) (actS k who i old new n s) Ag capg m g x t L E ∧ But [c, b, c', b'] w w' := by
  refine (h.poke.poke hn hl k who i old new hnb).mono ?_
  rintro e w' ⟨rfl, hO, hB⟩
  have hfar : ∀ z ∈ L ++ E, z ∉ [c, b, c', b'] := fun z hz => by
    obtain ⟨h1, h2, h3, h4⟩ := (h.poke.far z hz).1
    simp [h1, h2, h3, h4]
  exact ⟨rfl, ⟨hO, hG.keep h.mach hB (fun k hk => hfar k (List.mem_append_left _ hk)), R.keep _ _ _ h.rd hB (fun k hk => hfar k (List.mem_append_right _ (h.rb k hk))), h.rb, h.apart⟩, hB⟩
theorem LawOn.turnv {σ : Type} {I : MI σ} {M : PM σ} {R : Rd} {W0 w : World} {A A' : Option Addr} {cap cap' c b c' b' n : Nat} {s : St} {Ag : Option Addr} {capg m : Nat} {g : Nat → Int} {x : Nat} {t : σ} {L E : List Nat} (hG : I.Good M) (h : LawOn I R W0 w A A' cap cap' c b c' b' n s s Ag capg m g x t L E) (hok : ∀ a, M.ax t = some a → a.Ok) (hn : n ≤ 1000000) (hl : Low s 1000000) (hm : m ≤ 1000) (who : Int) :
    Calls Tryz.prog 18 #[.pointer (some ⟨c', 0, none⟩), .agg (runCells (.slice Ag m capg) (M.rn t m)), .int .i64 who] w fun e w' => ∃ Ag' capg', e = .returned (.slice Ag' (M.goM n t s m) capg') ∧ LawOn I R W0 w' A A' cap cap' c b c' b' n s (M.goS who n t s) Ag' capg' (M.goM n t s m) (M.goG n t s g m) x t L E ∧ But (c' :: b' :: gotL Ag) w w' := by
  refine (pm_turn h.poke hok hn hl hm who).mono ?_
  rintro e w' ⟨Ag', capg', rfl, hO, hB⟩
  exact ⟨Ag', capg', rfl, ⟨hO, hG.keep h.mach hB (fun k hk => h.poke.apart (List.mem_append_left _ hk)), R.keep _ _ _ h.rd hB (fun k hk => h.poke.apart (List.mem_append_right _ (h.rb k hk))), h.rb, h.apart⟩, hB⟩
theorem mr_id {t : MoT} (h : ∀ e, t ≠ .en e) : moMr t = t := by cases t <;> first | rfl | exact absurd rfl (h _)
theorem ax_en {P : Nat} {T : Int} {e : MoE} : (moPM false P T).ax (.en e) = none := rfl
end Go.Proofs.YthjfbknmdligeaaGreat

namespace Go.Proofs.YthjfbknmdligeaaGreat
open Go Go.RowKit
set_option linter.unusedVariables false
set_option maxRecDepth 100000
set_option linter.unusedSimpArgs false

/-- Words that were told once, in a block of their own. -/
def Rd.wd1 (g n : Nat) (f : Nat → Int) : Rd := ⟨[g], fun w => g < w.heap.size ∧ ∀ i, i < n → w.cell? ⟨g, i, none⟩ = some (.int .u64 (f i)), fun w w' l h hb hk => ⟨Nat.lt_of_lt_of_le h.1 hb.size, fun i hi => by
  have e := hb.block g h.1 (hk g (by simp))
  have h2 := h.2 i hi
  simp only [World.cell?] at h2 ⊢
  rw [e]
  exact h2⟩⟩
theorem Rd.wd1_sees {g n : Nat} {f : Nat → Int} {w : World} (h : (Rd.wd1 g n f).P w) : SeesU w w.heap.size (some ⟨g, 0, none⟩) n f := fun _ => ⟨g, 0, rfl, h.1, fun i hi => by rw [Nat.zero_add]; exact h.2 i hi⟩
theorem words_own (w : World) (A : Option Addr) (cap c b n : Nat) (s : St) (h : Is w 114 A cap c b n s) (hn : n ≤ 1000000) (hn0 : 0 < n) :
    Calls Tryz.prog 23 #[.pointer (some ⟨c, 0, none⟩)] w fun e w' => ∃ g cap', e = .returned (.slice (some ⟨g, 0, none⟩) n cap') ∧ w.heap.size ≤ g ∧ (Rd.wd1 g n s.f).P w' ∧ Below w.heap.size w w' := by
  have HC := clone_any A n cap s.f w hn (fun e => by have := h.bcap; have := this.2.2 e; omega) h.sees
  have c0 := h.cells.1
  clear h
  go_enter Tryz.func23, Tryz.ntmps23
  go_wp2_with fail
  go_at_call 54; refine HC.mono ?_; rintro e w1 ⟨v, rfl, hown, hb⟩
  have hown2 := hown
  rcases hown.2 with ⟨rfl, e0⟩ | ⟨g, cap, cur, rfl, hg, hh, hnc, hcm, hcs, htk⟩
  · exact absurd e0 (by omega)
  · have HP : Hid ((Rd.wd1 g n s.f).P w1) := ⟨block_lt hh, fun i hi => by
      have hc := hown2.cellAt i (by omega)
      rw [wordCells_at s.f n i hi] at hc
      exact hc⟩
    have HB : Hid (Below w.heap.size w w1) := hb
    have HGG : Hid (w.heap.size ≤ g) := hg
    clear HC hown hown2 hb hh hnc hcm hcs htk hg
    go_wp2_with fail
    go_ret
    exact ⟨g, cap, rfl, HGG.out, HP.out, HB.out⟩
/-- Where it is in the pass i, behind k steps. -/
structure IdOk (P : Nat) (t : MoP × MoD) (i k : Nat) : Prop where
  ps : t.2.ps = i
  f : t.2.f = fun _ => 0
  ov : t.2.ov = none
  nw : 0 ≤ t.2.nw ∧ t.2.nw ≤ 18446744073709551615
  at' : (k = 0 ∧ t.1 = .nw ∧ t.2.un = false) ∨ (0 < k ∧ k ≤ P ∧ t.1 = .st ∧ t.2.un = true ∧ t.2.p = k - 1)
theorem id_start (P : Nat) : IdOk P (.nw, moD0) 0 0 := ⟨rfl, rfl, rfl, by show (0 : Int) ≤ 0 ∧ (0 : Int) ≤ _; omega, .inl ⟨rfl, rfl, rfl⟩⟩
theorem IdOk.ok {P : Nat} {t : MoP × MoD} {i k : Nat} (h : IdOk P t i k) : MoOk P t := by
  refine ⟨?_, fun j => ?_, h.nw⟩
  · rcases h.at' with ⟨_, h1, _⟩ | ⟨h0, h1, h2, _, h3⟩
    · exact .inl h1
    · exact .inr ⟨.inl h2, by omega⟩
  · rw [h.f]
    show (0 : Int) ≤ 0 ∧ (0 : Int) ≤ _
    omega
theorem IdOk.un {P : Nat} {t : MoP × MoD} {i k : Nat} (h : IdOk P t i k) : (!t.2.un) = decide ((k : Int) = 0) := by
  rcases h.at' with ⟨h0, _, h1⟩ | ⟨h0, _, _, h1, _⟩
  · rw [h1, h0]; rfl
  · rw [h1, decide_eq_false (by omega)]; rfl
theorem id_next {P : Nat} {t : MoP × MoD} {i k : Nat} (h : IdOk P t i k) (hP : 1 ≤ P) (hk : k ≤ P) (hi : i ≤ 1000) {v : Int} (hv : 0 ≤ v ∧ v ≤ 18446744073709551615) (h0 : 0 < k → v = 0) : IdOk P (moNx P t v) (if k = P then i + 1 else i) (if k = P then 0 else k + 1) := by
  obtain ⟨ph, d⟩ := t
  obtain ⟨h1, h2, h3, h4, h5⟩ := h
  dsimp only at h1 h2 h3 h4 h5
  rcases h5 with ⟨rfl, rfl, h6⟩ | ⟨h7, h8, rfl, h6, h9⟩
  · rw [if_neg (by omega), if_neg (by omega)]
    have e : moNx P (.nw, d) v = (.st, { d with nw := v, un := true, p := 0 }) := if_neg (by omega)
    rw [e]
    exact ⟨h1, h2, h3, hv, .inr ⟨by omega, by omega, rfl, rfl, rfl⟩⟩
  · have hz := h0 h7
    subst hz
    have e1 : moNx P (.st, d) 0 = moVisit P d k := by
      show moJudge P d 0 = _
      unfold moJudge
      rw [if_neg (by omega), show d.p + 1 = k by omega]
    rw [e1]
    by_cases hkP : k = P
    · rw [if_pos hkP, if_pos hkP]
      have e : moVisit P d k = (.nw, { d with ps := wrap64 (d.ps + 1), un := false }) := if_pos (by omega)
      rw [e]
      refine ⟨?_, h2, h3, h4, .inl ⟨rfl, rfl, rfl⟩⟩
      show wrap64 (d.ps + 1) = _
      rw [h1]
      unfold wrap64
      omega
    · rw [if_neg hkP, if_neg hkP]
      have e : moVisit P d k = (.st, { d with p := k }) := if_neg (by omega)
      rw [e]
      exact ⟨h1, h2, h3, h4, .inr ⟨by omega, by omega, rfl, h6, by show k = k + 1 - 1; omega⟩⟩
theorem id_load {P : Nat} {t : MoP × MoD} {i k : Nat} (h : IdOk P t i k) : ∃ j, moAx P t.2.p t.1 = axLd j ∧ (0 < k → j = wd 20 P 264 ((k - 1 : Nat) : Int) 0) := by
  obtain ⟨ph, d⟩ := t
  rcases h.at' with ⟨h0, h1, _⟩ | ⟨h0, h2, h1, _, h3⟩
  · obtain rfl : ph = .nw := h1
    exact ⟨18, rfl, fun h => absurd h (by omega)⟩
  · obtain rfl : ph = .st := h1
    have h3' : d.p = k - 1 := h3
    exact ⟨wd 20 P 264 d.p 0, rfl, fun _ => by rw [h3']⟩
theorem id_act (who i : Int) (n : Nat) (s : St) : (actS 1 who i 0 0 n s).f = s.f ∧ (actS 1 who i 0 0 n s).clock = s.clock + 1 ∧ (0 ≤ i ∧ i < n → actA 1 i 0 0 n s = s.f i.toNat ∧ (actS 1 who i 0 0 n s).bad = s.bad) := by
  unfold actS actA
  rw [if_neg (by decide), if_neg (by decide), if_neg (by decide), if_neg (by decide), if_neg (by decide), if_neg (by decide)]
  unfold stp ans
  refine ⟨?_, ?_, fun h => ?_⟩
  · split
    · rw [if_neg (by rintro (h | ⟨h, -⟩) <;> cases h), if_neg (by decide)]
    · rfl
  · split <;> rfl
  · rw [if_pos h, if_pos h, if_pos rfl]
    exact ⟨rfl, rfl⟩
theorem id_solo {who T G : Int} {cl r P : Nat} {R : Rd} {W0 w : World} {A : Option Addr} {cap c b n : Nat} {s : St} {x : Nat} {t : MoP × MoD} {L : List Nat} {i k m : Nat} (h : Solo (moI who cl r P) R W0 w A cap c b n s x t L) (hRl : ∀ w, R.P w → Lay w cl P T G) (hRb : cl ∈ R.B) (ho : IdOk P t i k) (hP : 1 ≤ P ∧ P ≤ 4) (hk : k ≤ P) (hi : i ≤ 1000) (hn : 20 + 264 * P ≤ n ∧ n ≤ 1000000) (hz : ∀ p, p < P → s.f (20 + 264 * p) = 0) (hl : Low s m) (hm : m ≤ 1000) :
    Calls Tryz.prog 20 #[.pointer (some ⟨x, 0, none⟩), .pointer (some ⟨c, 0, none⟩)] w fun e w' => e = .returned (.bool false) ∧ ∃ L' t' s', Solo (moI who cl r P) R W0 w' A cap c b n s' x t' L' ∧ IdOk P t' (if k = P then i + 1 else i) (if k = P then 0 else k + 1) ∧ s'.f = s.f ∧ s'.clock = s.clock + 1 ∧ Low s' (m + 1 : Nat) := by
  refine (mo_solo h hRl hRb ho.ok (by omega) hn.2 (hl.more (by omega))).mono ?_
  rintro e w' ⟨rfl, L', h1⟩
  obtain ⟨j, e1, e2⟩ := id_load ho
  rw [e1] at h1
  obtain ⟨a1, a2, a3⟩ := id_act who j n s
  refine ⟨rfl, L', _, _, h1, id_next ho hP.1 hk hi (actA_bd h.mem _ _ _ _) (fun h0 => ?_), a1, a2, (actS_low hl _ _ _ _ _ _).more (by show (m : Int) + 1 ≤ ((m + 1 : Nat) : Int); omega)⟩
  have e3 := e2 h0
  have e4 : wd 20 P 264 ((k - 1 : Nat) : Int) 0 = ((20 + 264 * (k - 1) : Nat) : Int) := by
    unfold wd
    rw [if_pos ⟨by omega, by omega, by omega, by omega⟩]
    omega
  rw [e4] at e3
  subst e3
  refine ((a3 ⟨by omega, by omega⟩).1).trans ?_
  exact hz (k - 1) (by omega)
end Go.Proofs.YthjfbknmdligeaaGreat

namespace Go.Proofs.YthjfbknmdligeaaGreat
open Go Go.RowKit
set_option linter.unusedVariables false
set_option maxRecDepth 100000
set_option linter.unusedSimpArgs false

set_option maxHeartbeats 8000000 in
theorem mon_awake (w : World) : Calls Tryz.prog 8 #[] w fun e w' => e = .returned (.bool true) ∧ Below w.heap.size w w' := by
  have hL := lay_some 1 1 1 none 0 0 289 (fun _ => 0) (fun _ => 0) w (by omega) ⟨⟨by omega⟩, by omega, by omega, by omega⟩ (by omega) (fun h => absurd h (by omega)) (fun i h => absurd h (by omega))
  go_enter Tryz.func8, Tryz.ntmps8
  go_wp2_with fail
  go_at_call 7; refine hL.mono ?_; rintro e w1 ⟨cl, A, A', cap, cap', c, b, c', b', rfl, hLd⟩
  have HB1 : Hid (Below w.heap.size w w1) := hLd.below
  have HI1 : Hid (Is w1 114 A cap c b 289 (fresh (fun _ => 0))) := hLd.two.m
  have HY1 : Hid (Lay w1 cl 1 1 1) := hLd.lay
  have hne : Hid (cl ≠ c ∧ cl ≠ b) := lay_ne hLd.lay (by decide) hLd.two.m (by omega)
  have hup : Hid (w.heap.size ≤ c ∧ w.heap.size ≤ b) := ⟨hLd.up.2.1, hLd.up.2.2.1⟩
  have HRF : Hid (c ∉ (Rd.lay cl 1 1 1).B ∧ b ∉ (Rd.lay cl 1 1 1).B) := ⟨fun h => hne.out.1 (List.mem_singleton.1 h).symm, fun h => hne.out.2 (List.mem_singleton.1 h).symm⟩
  have hN := mo_new w1 cl 1 1 1 hLd.lay (by omega)
  clear hL hLd hne
  go_wp2_with fail
  go_at_call 9; refine hN.mono ?_; rintro e w2 ⟨x, r, L, rfl, ha1, ha2, ha3, -⟩
  have HS0 : Hid (Solo (moI 1 cl r 1) (Rd.lay cl 1 1 1) w w2 A cap c b 289 (fresh (fun _ => 0)) x (.nw, moD0) L) := Solo.begin HI1.out ha2 HB1.out hup.out ha1 ha3 HY1.out (fun k hk => by obtain rfl : k = cl := List.mem_singleton.1 hk; exact HY1.out.lt) HRF.out
  clear hN ha1 ha2 ha3 HI1 HY1 HB1 HRF hup
  have hb := mo_between w2 x cl r 1 1 _ L HS0.out.mach
  rw [(id_start 1).un, show decide (((0 : Nat) : Int) = 0) = true from rfl] at hb
  have hs := id_solo (G := 1) (T := 1) (i := 0) (k := 0) (m := 0) HS0.out (fun _ h => h) (List.mem_singleton.2 rfl) (id_start 1) (by omega) (by omega) (by omega) (by omega) (fun _ _ => rfl) (low_fresh _) (by omega)
  rw [if_neg (by decide), if_neg (by decide)] at hs
  clear HS0
  go_wp2_with fail
  go_at_call 13; refine hb.mono ?_; rintro e w3 ⟨rfl, rfl⟩
  clear hb
  go_wp2_with fail
  go_at_call 20; refine hs.mono ?_; rintro e w3 ⟨rfl, L1, t1, s1, k1, k2, k3, k4, k5⟩
  have HS1 : Hid (Solo (moI 1 cl r 1) (Rd.lay cl 1 1 1) w w3 A cap c b 289 s1 x t1 L1 ∧ s1.clock = 1) := ⟨k1, k4⟩
  have hb := mo_between w3 x cl r 1 1 _ L1 k1.mach
  rw [k2.un, show decide (((0 + 1 : Nat) : Int) = 0) = false from rfl] at hb
  have hs2 := id_solo (G := 1) (T := 1) (i := 0) (k := 1) (m := 1) k1 (fun _ h => h) (List.mem_singleton.2 rfl) k2 (by omega) (by omega) (by omega) (by omega) (fun _ _ => by rw [k3]; rfl) k5 (by omega)
  rw [if_pos rfl, if_pos rfl] at hs2
  clear hs k1 k2 k3 k4 k5
  go_wp2_with fail
  go_at_call 13; refine hb.mono ?_; rintro e w4 ⟨rfl, rfl⟩
  clear hb
  go_wp2_with fail
  go_at_call 20; refine hs2.mono ?_; rintro e w4 ⟨rfl, L2, t2, s2, k1, k2, k3, k4, k5⟩
  have hb := mo_between w4 x cl r 1 1 _ L2 k1.mach
  rw [k2.un, show decide (((0 : Nat) : Int) = 0) = true from rfl] at hb
  have hps := mo_passes w4 x cl r 1 1 _ L2 k1.mach
  rw [k2.ps, show (((0 + 1 : Nat)) : Int) = 1 from rfl] at hps
  have hck := clock_any _ _ _ _ _ _ _ k1.mem
  rw [k4, HS1.out.2, show (1 : Int) + 1 = 2 from rfl] at hck
  have HF : Hid (Below w.heap.size w w4) := k1.below
  clear hs2 HS1 k1 k2 k3 k4 k5
  go_wp2_with fail
  go_at_call 13; refine hb.mono ?_; rintro e w5 ⟨rfl, rfl⟩
  clear hb
  go_wp2_with fail
  go_at_call 14; refine hps.mono ?_; rintro e w5 ⟨rfl, rfl⟩
  clear hps
  go_wp2_with fail
  go_at_call 31; refine hck.mono ?_; rintro e w5 ⟨rfl, rfl⟩
  clear hck
  go_wp2_with fail
  go_ret
  exact ⟨rfl, HF.out⟩
end Go.Proofs.YthjfbknmdligeaaGreat

namespace Go.Proofs.YthjfbknmdligeaaGreat
open Go Go.RowKit
set_option linter.unusedVariables false
set_option maxRecDepth 100000
set_option linter.unusedSimpArgs false
set_option linter.unusedSectionVars false

theorem monSteps_bad (P T G : Int) (E F : Option Addr) (m cp mp cq : Nat) (a v : Nat → Int) (w : World) (hm : m ≤ 9223372036854775807) (hmp : mp ≤ 9223372036854775807) (hs : SeesP w w.heap.size E m a v) (hv : ∀ i, i < m → 0 ≤ v i ∧ v i ≤ 18446744073709551615) (h : (¬ FewC P T G ∨ 400 < m) ∨ 400 < mp) :
    Calls Tryz.prog 3 #[.agg #[.int .i64 P, .int .i64 T, .int .i64 G, .slice E m cp], .slice F mp cq] w fun e w' => e = .returned (.bool true) ∧ Below w.heap.size w w' := by
  have hB0 : Below w.heap.size w (w.alloc (.cells #[.int .i64 P, .int .i64 T, .int .i64 G, .slice E m cp] 26)) := (Below.refl _ _).alloc (Nat.le_refl _) _
  have HB : Hid (Below w.heap.size w (w.alloc (.cells #[.int .i64 P, .int .i64 T, .int .i64 G, .slice E m cp] 26))) := hB0
  have hsz : (w.alloc (.cells #[.int .i64 P, .int .i64 T, .int .i64 G, .slice E m cp] 26)).heap.size = w.heap.size + 1 := by simp
  have HSZ : Hid ((w.alloc (.cells #[.int .i64 P, .int .i64 T, .int .i64 G, .slice E m cp] 26)).heap.size = w.heap.size + 1) := hsz
  by_cases hf : ¬ FewC P T G ∨ 400 < m
  · have hL := lay_none P T G E m cp (w.alloc (.cells #[.int .i64 P, .int .i64 T, .int .i64 G, .slice E m cp] 26)) hm hf
    clear h hf hs hv hsz hB0
    go_enter Tryz.func3, Tryz.ntmps3
    go_wp2_with fail
    generalize (w.alloc (.cells #[.int .i64 P, .int .i64 T, .int .i64 G, .slice E m cp] 26)) = W at *
    go_at_call 7; refine hL.mono ?_; rintro e w1 ⟨rfl, hLd⟩
    have hbl : Below W.heap.size W w1 := hLd
    have HB1 : Hid (Below w.heap.size w w1) := HB.out.trans (hbl.mono (by have := HSZ.out; omega))
    clear hL hbl hLd
    go_wp2_with fail
    go_at_call 8; refine (mon_awake _).mono ?_; rintro e w2 ⟨rfl, h2⟩
    have h3 := seq HB1.out h2
    go_wp2_with fail
    go_ret
    exact ⟨rfl, h3⟩
  · have hF : FewC P T G := Decidable.byContradiction fun h => hf (.inl h)
    have hm4 : m ≤ 400 := by omega
    have hM := hF.h.1.h
    obtain ⟨n, hn⟩ : ∃ n : Nat, (n : Int) = 20 + 264 * P + 3 * T + 2 * G := ⟨(20 + 264 * P + 3 * T + 2 * G).toNat, by omega⟩
    have hL := lay_some P T G E m cp n a v _ hm4 hF hn (hs.up (.cells #[.int .i64 P, .int .i64 T, .int .i64 G, .slice E m cp] 26)) hv
    have d1 : decide ((400 : Int) < (mp : Int)) = true := decide_eq_true (by rcases h with h | h; exact absurd h hf; omega)
    clear h hf hs hv hn hF hM hsz hB0
    go_enter Tryz.func3, Tryz.ntmps3
    go_wp2_with fail
    generalize (w.alloc (.cells #[.int .i64 P, .int .i64 T, .int .i64 G, .slice E m cp] 26)) = W at *
    go_at_call 7; refine hL.mono ?_; rintro e w1 ⟨cl, A, A', cap, cap', c, b, c', b', rfl, hLd⟩
    have hbl : Below W.heap.size W w1 := hLd.below
    have HB1 : Hid (Below w.heap.size w w1) := HB.out.trans (hbl.mono (by have := HSZ.out; omega))
    clear hL hbl hLd
    go_wp2_with fail
    go_at_call 8; refine (mon_awake _).mono ?_; rintro e w2 ⟨rfl, h2⟩
    have h3 := seq HB1.out h2
    go_wp2_with fail
    go_ret
    exact ⟨rfl, h3⟩
set_option maxHeartbeats 8000000 in
theorem monSteps_ok (P : Nat) (T G : Int) (E F : Option Addr) (m cp mp cq : Nat) (a v : Nat → Int) (w : World) (Pks : Nat → Pk) (hm : m ≤ 400) (hF : FewC P T G) (hmp : mp ≤ 400) (hs : SeesP w w.heap.size E m a v) (hv : ∀ i, i < m → 0 ≤ v i ∧ v i ≤ 18446744073709551615) (hP : SeesC w w.heap.size F mp 6 (pkC Pks)) (hpv : ∀ j, j < mp → 0 ≤ (Pks j).v ∧ (Pks j).v ≤ 18446744073709551615) :
    Calls Tryz.prog 3 #[.agg #[.int .i64 P, .int .i64 T, .int .i64 G, .slice E m cp], .slice F mp cq] w fun e w' => e = .returned (.bool true) ∧ Below w.heap.size w w' := by
  have HB : Hid (Below w.heap.size w (w.alloc (.cells #[.int .i64 P, .int .i64 T, .int .i64 G, .slice E m cp] 26))) := (Below.refl _ _).alloc (Nat.le_refl _) _
  have HSZ : Hid ((w.alloc (.cells #[.int .i64 P, .int .i64 T, .int .i64 G, .slice E m cp] 26)).heap.size = w.heap.size + 1) := (by simp : (w.alloc (.cells #[.int .i64 P, .int .i64 T, .int .i64 G, .slice E m cp] 26)).heap.size = w.heap.size + 1)
  have HX0 : Hid (Blk (w.alloc (.cells #[.int .i64 P, .int .i64 T, .int .i64 G, .slice E m cp] 26)) w.heap.size #[.int .i64 P, .int .i64 T, .int .i64 G, .slice E m cp] 26) := Blk.new _ _ _
  have hM := hF.h.1.h
  have hFF := hF.h
  have hp : 1 ≤ P ∧ (P : Int) ≤ 64 := by omega
  have hT : 0 ≤ T ∧ T ≤ 300 := by omega
  obtain ⟨n, hn⟩ : ∃ n : Nat, (n : Int) = 20 + 264 * P + 3 * T + 2 * G := ⟨(20 + 264 * P + 3 * T + 2 * G).toNat, by omega⟩
  have hn0 : 0 < n := by omega
  have hn6 : n ≤ 1000000 := by omega
  have HPT : Hid (1 ≤ P ∧ (P : Int) ≤ 64 ∧ 0 ≤ T ∧ T ≤ 300 ∧ 0 < n ∧ n ≤ 1000000 ∧ mp ≤ 400) := ⟨hp.1, hp.2, hT.1, hT.2, hn0, hn6, hmp⟩
  have hL := lay_some P T G E m cp n a v _ hm hF hn (hs.up (.cells #[.int .i64 P, .int .i64 T, .int .i64 G, .slice E m cp] 26)) hv
  have d1 : decide ((400 : Int) < (mp : Int)) = false := decide_eq_false (by omega)
  have HPP : Hid (SeesC w w.heap.size F mp 6 (pkC Pks)) := hP
  have HPV : Hid (∀ j, j < mp → 0 ≤ (Pks j).v ∧ (Pks j).v ≤ 18446744073709551615) := hpv
  have HLAW : Hid (∀ cl, (moCp T G P cl).Laws (moPM true P T) (Rd.lay cl P T G) T) := fun cl => mo_laws hp.2 (by omega)
  clear hs hv hn hF hM hFF hP hpv hp hT hm hn0 hn6
  have heq := eq_row0
  go_enter Tryz.func3, Tryz.ntmps3
  go_wp2_with fail
  generalize (w.alloc (.cells #[.int .i64 P, .int .i64 T, .int .i64 G, .slice E m cp] 26)) = W at *
  go_at_call 7; refine hL.mono ?_; rintro e w1 ⟨cl, A, A', cap, cap', c, b, c', b', rfl, hLd⟩
  have HL : Hid (Laid W w1 P T G n (putF a v n m) cl A A' cap cap' c b c' b') := hLd
  have HB1 : Hid (Below w.heap.size w w1) := HB.out.trans (hLd.below.mono (by have := HSZ.out; omega))
  have HX1 : Hid (Blk w1 w.heap.size #[.int .i64 P, .int .i64 T, .int .i64 G, .slice E m cp] 26) := HX0.out.but (But.of_below (l := []) hLd.below) (by simp)
  have hN := mo_newF w1 cl P T G HL.out.lay (by have := HPT.out; omega)
  clear hL hLd HX0 HB
  go_wp2_with fail
  go_at_call 9; refine hN.mono ?_; rintro e w2 ⟨x, L0, rfl, hi0, hb2, hu1, hux⟩
  have HI0 : Hid ((moCp T G P cl).I w2 x (.own .nw moE0) L0 ∧ Below w1.heap.size w1 w2 ∧ (∀ k ∈ L0, w1.heap.size ≤ k)) := ⟨hi0, hb2, hu1⟩
  have hX2 := HX1.out.but (But.of_below (l := []) hb2) (by simp)
  have z0 := hX2.cell 0 (v := .int .i64 P) rfl
  have z1 := hX2.cell 1 (v := .int .i64 T) rfl
  have z2 := hX2.cell 2 (v := .int .i64 G) rfl
  have hR := rmon_new (w := w2) (P := P) (T := T) (G := G) (by have := HPT.out; omega)
  clear hN hi0 hb2 hu1 hux hX2
  go_wp2_with fail
  go_at_call 10; refine hR.mono ?_; rintro e w3 ⟨br, cpr, rfl, l1, l2, l3⟩
  have HR3 : Hid (DrAt w3 br (4 * P) (fun _ => 0) ∧ Below w2.heap.size w2 w3 ∧ w2.heap.size ≤ br) := ⟨l1, l2, l3⟩
  clear hR l1 l2 l3 z0 z1 z2
  have HGD : Hid (((moCp T G P cl).I).Good (moPM true P T)) := CpR.good (HLAW.out cl)
  have HST : Hid (Steps (moPM true P T) ((moCp T G P cl).I) (Rd.lay cl P T G) 20 T) := CpR.steps (HLAW.out cl) stepby_mon
  have hb4 : Below w1.heap.size w1 (w3.alloc (.cells #[.slice (some ⟨br, 0, none⟩) P cpr, .int .i64 0, .slice none 0 0] 39)) := ((HI0.out.2.1.trans (HR3.out.2.1.mono HI0.out.2.1.size))).alloc (by have h1 := HI0.out.2.1.size; have h2 := HR3.out.2.1.size; omega) _
  have hb24 : Below w2.heap.size w2 (w3.alloc (.cells #[.slice (some ⟨br, 0, none⟩) P cpr, .int .i64 0, .slice none 0 0] 39)) := HR3.out.2.1.alloc HR3.out.2.1.size _
  have hb34 : Below w3.heap.size w3 (w3.alloc (.cells #[.slice (some ⟨br, 0, none⟩) P cpr, .int .i64 0, .slice none 0 0] 39)) := (Below.refl _ _).alloc (Nat.le_refl _) _
  obtain ⟨u1, u2, u3, u4, u5⟩ := HL.out.up
  have hs0 := HSZ.out
  have hT1 := HL.out.two
  have hly := HL.out.lay
  have hup : w.heap.size ≤ c ∧ w.heap.size ≤ b ∧ w.heap.size ≤ c' ∧ w.heap.size ≤ b' := ⟨by omega, by omega, by omega, by omega⟩
  have hne := lay_ne hly (by decide) hT1.m HPT.out.2.2.2.2.1
  have hne2 := lay_ne hly (by decide) hT1.r HPT.out.2.2.2.2.1
  have hWS : w3.heap.size < (w3.alloc (.cells #[.slice (some ⟨br, 0, none⟩) P cpr, .int .i64 0, .slice none 0 0] 39)).heap.size := by simp
  have hbr := HR3.out.1.lt
  have HO0 : Hid (LawOn ((moCp T G P cl).I) ((Rd.lay cl P T G).and (Rd.blk w.heap.size #[.int .i64 P, .int .i64 T, .int .i64 G, .slice E m cp] 26)) w (w3.alloc (.cells #[.slice (some ⟨br, 0, none⟩) P cpr, .int .i64 0, .slice none 0 0] 39)) A A' cap cap' c b c' b' n (fresh (putF a v n m)) (fresh (putF a v n m)) none 0 0 (fun _ => 0) x (.own .nw moE0) L0 [cl, w.heap.size, w3.heap.size, br]) := by
    have h0 : LawOn ((moCp T G P cl).I) ((Rd.lay cl P T G).and (Rd.blk w.heap.size #[.int .i64 P, .int .i64 T, .int .i64 G, .slice E m cp] 26)) w w2 A A' cap cap' c b c' b' n (fresh (putF a v n m)) (fresh (putF a v n m)) none 0 0 (fun _ => 0) x (.own .nw moE0) L0 [cl, w.heap.size] := LawOn.begin hT1 HI0.out.2.1 HB1.out hup HI0.out.1 HGD.out HI0.out.2.2 ⟨hly.below HI0.out.2.1 hly.lt, HX1.out.but (But.of_below (l := []) HI0.out.2.1) (by simp)⟩ (fun k hk => hk) (by
      intro k hk
      simp only [List.mem_cons, List.not_mem_nil, or_false] at hk
      rcases hk with rfl | rfl
      · exact ⟨⟨hne.1, hne.2, hne2.1, hne2.2⟩, hly.lt, by omega⟩
      · exact ⟨⟨by omega, by omega, by omega, by omega⟩, HX1.out.lt, Nat.le_refl _⟩)
    refine h0.rebase HGD.out (But.of_below (l := []) hb24) (fun k hk => by simp at hk) (fun k hk => ?_) (fun k hk => ?_)
    · simp only [List.mem_cons, List.not_mem_nil, or_false] at hk
      have h9 := HR3.out
      have h8 := HR3.out.2.1.size
      rcases hk with rfl | rfl | rfl | rfl
      · exact .inl (by simp)
      · exact .inl (by simp)
      · exact .inr ⟨h8, hWS⟩
      · exact .inr ⟨h9.2.2, Nat.lt_trans hbr hWS⟩
    · have := h0.rb k hk
      simp at this ⊢
      rcases this with h | h
      · exact .inl h
      · exact .inr (.inl h)
  have HQ0 : Hid (MsQ P (w3.alloc (.cells #[.slice (some ⟨br, 0, none⟩) P cpr, .int .i64 0, .slice none 0 0] 39)) w3.heap.size br cpr none 0 0 moE0 (.own .nw moE0)) := ⟨Blk.new _ _ _, HR3.out.1.but (But.of_below (l := []) hb34) (by simp), (fun p h e => by cases e), (fun i => by show (0 : Int) ≤ 0 ∧ (0 : Int) ≤ _; omega), ⟨rfl, rfl⟩, (fun e h => by cases h), fun _ => rfl, fun h => absurd h (by omega), by omega⟩
  have HYN : Hid (w3.heap.size ≠ cl ∧ w3.heap.size ≠ w.heap.size) := by
    have h7 := hly.lt
    have h8 := HX1.out.lt
    have h9 := HI0.out.2.1.size
    have h10 := HR3.out.2.1.size
    exact ⟨by omega, by omega⟩
  clear hb4 hb24 hb34 u1 u2 u3 u4 u5 hs0 hT1 hly hup hne hne2 hWS hbr
  clear HX1 HL HI0 HR3 HB1
  go_wp2_with fail
  generalize hW4 : (w3.alloc (.cells #[.slice (some ⟨br, 0, none⟩) P cpr, .int .i64 0, .slice none 0 0] 39)) = w4 at *
  generalize hyw : w3.heap.size = y at *
  clear hyw hW4
  go_loopw [11] (fun iv wr => ∃ (k : Nat) (s : St) (Ag : Option Addr) (capg mg : Nat) (gf : Nat → Int) (t : MoT) (L : List Nat) (e0 : MoE) (br cpr : Nat), k ≤ mp ∧ iv = .int .i64 k ∧ mg ≤ k ∧ Hid (LawOn ((moCp T G P cl).I) ((Rd.lay cl P T G).and (Rd.blk w.heap.size #[.int .i64 P, .int .i64 T, .int .i64 G, .slice E m cp] 26)) w wr A A' cap cap' c b c' b' n s s Ag capg mg gf x t L [cl, w.heap.size, y, br]) ∧ Hid (Low s (k : Int)) ∧ Hid (Hist (moPM false P T) (.own .nw e0) gf mg t) ∧ Hid (MsQ P wr y br cpr Ag capg mg e0 t)) (fun iv _ => mp - (intOf iv).toNat)
  case atStart => exact ⟨0, _, none, 0, 0, _, _, L0, moE0, br, cpr, Nat.zero_le _, rfl, Nat.le_refl _, HO0, low_fresh _, Hist.start _ _ _, HQ0⟩
  case round =>
    clear HO0 HQ0
    obtain ⟨k, s, Ag, capg, mg, gf, t, L, e0, br, cpr, hk, rfl, hmg, HO, HLo, HH, HQ⟩ := hrel
    by_cases hlt : k < mp
    · obtain ⟨fb, foff, rfl, hfb, hcell⟩ := HPP.out (by omega)
      have hcw : Hid (∀ i u, (pkC Pks k)[i]? = some u → wr.cell? ⟨fb, foff + k * 6 + i, none⟩ = some u) := fun i u hu => (HO.out.poke.below.cell (p := ⟨fb, foff + k * 6 + i, none⟩) hfb).trans (hcell k hlt i u hu)
      have pz := hcw.out 0 (.bool (Pks k).z) rfl
      have hk0 : (0 : Int) ≤ (k : Int) := Int.natCast_nonneg _
      have hk1 : (k : Int) < (mp : Int) := by omega
      have hk9 : k < 400 := by have := HPT.out; omega
      have HK : Hid (k < mp ∧ k < 400 ∧ mg ≤ k) := ⟨hlt, hk9, hmg⟩
      have HYB : Hid (y ∈ [cl, w.heap.size, y, br] ∧ br ∈ [cl, w.heap.size, y, br]) := ⟨by simp, by simp⟩
      have HF0 : Hid (∀ z ∈ [cl, w.heap.size, y, br], (z ≠ c ∧ z ≠ b ∧ z ≠ c' ∧ z ≠ b') ∧ z ∉ L ∧ z ∉ c' :: b' :: gotL Ag) := fun z hz => ⟨(HO.out.poke.far z (List.mem_append_right _ hz)).1, fun h => HO.out.apart z h hz, HO.out.poke.apart (List.mem_append_right _ hz)⟩
      clear hcell hlt hk hmg
      rw [Nat.add_zero] at pz
      cases hz : (Pks k).z
      · rw [hz] at pz
        have HRA : Hid (wr.rangeAt fb (foff + k * 6 + 1) [.int .i64 (Pks k).k, .int .i64 (Pks k).p, .int .i64 (Pks k).i, .int .u64 (Pks k).o, .int .u64 (Pks k).v]) := fun j u hu => by
          have := hcw.out (1 + j) u (by rw [show pkC Pks k = .bool (Pks k).z :: [.int .i64 (Pks k).k, .int .i64 (Pks k).p, .int .i64 (Pks k).i, .int .u64 (Pks k).o, .int .u64 (Pks k).v] from rfl, Nat.add_comm 1 j, List.getElem?_cons_succ]; exact hu)
          rw [← Nat.add_assoc] at this
          exact this
        clear hz hcw
        go_wp2_with (refine wpList_load_mid rfl 43 _ rfl fb (foff + k * 6 + 1) rfl [.int .i64 (Pks k).k, .int .i64 (Pks k).p, .int .i64 (Pks k).i, .int .u64 (Pks k).o, .int .u64 (Pks k).v] _ HRA.out Tryz.underlying43 rfl (by kernel_rfl) ?_)
        go_at_call 11; refine (HO.out.pokesv HGD.out HPT.out.2.2.2.2.2.1 (HLo.out.more (by omega)) (Pks k).k (Pks k).p (Pks k).i (Pks k).o (Pks k).v (HPV.out k HK.out.1)).mono ?_; rintro e w9 ⟨rfl, hO, hB⟩
        have HO9 : Hid _ := hO
        have HQ9 : Hid (MsQ P w9 y br cpr Ag capg mg e0 t) := HQ.out.but hB (by have := (HF0.out y HYB.out.1).1; simp [this]) (by have := (HF0.out br HYB.out.2).1; simp [this])
        have HLo9 : Hid (Low (actS (Pks k).k (Pks k).p (Pks k).i (Pks k).o (Pks k).v n s) (((k + 1 : Nat)) : Int)) := (actS_low HLo.out _ _ _ _ _ _).more (by omega)
        clear hO hB HO HRA pz HQ
        go_wp2_with fail
        go_roundw
        case rel => exact ⟨k + 1, _, Ag, capg, mg, gf, t, L, e0, br, cpr, HK.out.1, by go_num, by have := HK.out; omega, HO9, HLo9, HH, HQ9⟩
        case measure => have := HK.out; simp [intOf]; omega
      · rw [hz] at pz
        clear hz hcw
        have hR0 : Hid (RunOn (wr.alloc (.cells (runL (.slice Ag mg capg) rn0).toArray 50)) wr.heap.size Ag capg mg gf rn0) := run_starts HO.out.poke.got (by have := HK.out; omega)
        have hb0 : Hid (Below wr.heap.size wr (wr.alloc (.cells (runL (.slice Ag mg capg) rn0).toArray 50))) := (Below.refl _ _).alloc (Nat.le_refl _) _
        have hPs := rm_pass (G := G) (ps := e0.D.ps) (cpr := cpr) (Ag := Ag) (mg := mg) (capg := capg) hR0.out HH.out (HQ.out.row.but (But.of_below (l := []) hb0.out) (by simp)) rfl HQ.out.kept ⟨HPT.out.1, HPT.out.2.1⟩ ⟨HPT.out.2.2.1, HPT.out.2.2.2.1⟩ HQ.out.bd
        have y0 := HO.out.rd.2.cell 0 (v := .int .i64 P) rfl
        have y1 := HO.out.rd.2.cell 1 (v := .int .i64 T) rfl
        have y2 := HO.out.rd.2.cell 2 (v := .int .i64 G) rfl
        have q0 := HQ.out.want.cell 0 (v := .slice (some ⟨br, 0, none⟩) P cpr) rfl
        have q1 := HQ.out.want.cell 1 (v := .int .i64 e0.D.ps) rfl
        have q2 := HQ.out.want.cell 2 (v := .slice Ag mg capg) rfl
        have hbl0 : w.heap.size < wr.heap.size := HO.out.rd.2.lt
        have hbl1 : y < wr.heap.size := HQ.out.want.lt
        go_wp2_with fail
        go_at_call 12; refine hPs.mono ?_; rintro e w40 ⟨f, Pv, C, b9, cp9, rfl, hR40, l2, l3, hB40, l5, l6⟩
        have hs40 : wr.heap.size < w40.heap.size := hR40.blk.lt
        have hb40 : Below wr.heap.size wr w40 := hb0.out.trans (hB40.below (by simp) (by simp))
        have hbw : Below w40.heap.size w40 (w40.alloc (.cells #[.slice (some ⟨b9, 0, none⟩) P cp9, .int .i64 Pv, .bool C] 52)) := (Below.refl _ _).alloc (Nat.le_refl _) _
        have HAL : Hid (Blk (w40.alloc (.cells #[.slice (some ⟨b9, 0, none⟩) P cp9, .int .i64 Pv, .bool C] 52)) w40.heap.size #[.slice (some ⟨b9, 0, none⟩) P cp9, .int .i64 Pv, .bool C] 52 ∧ DrAt (w40.alloc (.cells #[.slice (some ⟨b9, 0, none⟩) P cp9, .int .i64 Pv, .bool C] 52)) b9 (4 * P) f ∧ f = t.e.D.f ∧ t.holds = Pv ∧ t.counts = C) := ⟨Blk.new _ _ _, l2.but (But.of_below (l := []) hbw) (by simp), l3.1.symm, l3.2.1, l3.2.2⟩
        have HO4 : Hid (LawOn ((moCp T G P cl).I) ((Rd.lay cl P T G).and (Rd.blk w.heap.size #[.int .i64 P, .int .i64 T, .int .i64 G, .slice E m cp] 26)) w (w40.alloc (.cells #[.slice (some ⟨b9, 0, none⟩) P cp9, .int .i64 Pv, .bool C] 52)) A A' cap cap' c b c' b' n s s Ag capg mg gf x t L [cl, w.heap.size, y, br]) := (HO.out.still HGD.out hb40).still HGD.out hbw
        have HQ4 : Hid (MsQ P (w40.alloc (.cells #[.slice (some ⟨b9, 0, none⟩) P cp9, .int .i64 Pv, .bool C] 52)) y br cpr Ag capg mg e0 t) := (HQ.out.but (But.of_below (l := []) hb40) (by simp) (by simp)).but (But.of_below (l := []) hbw) (by simp) (by simp)
        have HR4 : Hid (RunOn (w40.alloc (.cells #[.slice (some ⟨b9, 0, none⟩) P cp9, .int .i64 Pv, .bool C] 52)) wr.heap.size Ag capg mg gf ((moPM false P T).rn t mg)) := hR40.below hbw
        have hs4 : Hid (wr.heap.size < (w40.alloc (.cells #[.slice (some ⟨b9, 0, none⟩) P cp9, .int .i64 Pv, .bool C] 52)).heap.size ∧ w40.heap.size < (w40.alloc (.cells #[.slice (some ⟨b9, 0, none⟩) P cp9, .int .i64 Pv, .bool C] 52)).heap.size ∧ y < (w40.alloc (.cells #[.slice (some ⟨b9, 0, none⟩) P cp9, .int .i64 Pv, .bool C] 52)).heap.size) := ⟨Nat.lt_of_lt_of_le hs40 hbw.size, HAL.out.1.lt, HQ4.out.want.lt⟩
        clear pz hPs hR40 hB40 hR0 hb0 hb40 HO HQ y0 y1 y2 q0 q1 q2 hbl0 hbl1 hbw hs40 l2 l3 l5 l6
        go_wp2_with fail
        generalize (w40.alloc (.cells #[.slice (some ⟨b9, 0, none⟩) P cp9, .int .i64 Pv, .bool C] 52)) = w4 at *
        generalize w40.heap.size = g4 at *
        rcases Nat.eq_zero_or_pos mg with hm0 | hm0
        · obtain rfl : mg = 0 := hm0
          have hH : Hid (w4.drew.cell? ⟨y, 1, none⟩ = some (.int .i64 e0.D.ps) ∧ w4.drew.cell? ⟨y, 2, none⟩ = some (.slice Ag 0 capg) ∧ w4.drew.cell? ⟨g4, 0, none⟩ = some (.slice (some ⟨b9, 0, none⟩) P cp9) ∧ w4.drew.cell? ⟨g4, 1, none⟩ = some (.int .i64 Pv) ∧ w4.drew.cell? ⟨g4, 2, none⟩ = some (.bool C) ∧ Below w4.heap.size w4 w4.drew) := ⟨HQ4.out.want.cell 1 rfl, HQ4.out.want.cell 2 rfl, HAL.out.1.cell 0 rfl, HAL.out.1.cell 1 rfl, HAL.out.1.cell 2 rfl, (Below.refl _ _).drew⟩
          have KEEP : Hid (∀ X w' : World, (X.cell? ⟨y, 1, none⟩ = some (.int .i64 e0.D.ps) ∧ X.cell? ⟨y, 2, none⟩ = some (.slice Ag 0 capg) ∧ X.cell? ⟨g4, 0, none⟩ = some (.slice (some ⟨b9, 0, none⟩) P cp9) ∧ X.cell? ⟨g4, 1, none⟩ = some (.int .i64 Pv) ∧ X.cell? ⟨g4, 2, none⟩ = some (.bool C) ∧ Below w4.heap.size w4 X) → Below X.heap.size X w' → (w'.cell? ⟨y, 1, none⟩ = some (.int .i64 e0.D.ps) ∧ w'.cell? ⟨y, 2, none⟩ = some (.slice Ag 0 capg) ∧ w'.cell? ⟨g4, 0, none⟩ = some (.slice (some ⟨b9, 0, none⟩) P cp9) ∧ w'.cell? ⟨g4, 1, none⟩ = some (.int .i64 Pv) ∧ w'.cell? ⟨g4, 2, none⟩ = some (.bool C) ∧ Below w4.heap.size w4 w')) := fun X w' h kk => ⟨(kk.cell (p := ⟨y, 1, none⟩) (Nat.lt_of_lt_of_le hs4.out.2.2 h.2.2.2.2.2.size)).trans h.1, (kk.cell (p := ⟨y, 2, none⟩) (Nat.lt_of_lt_of_le hs4.out.2.2 h.2.2.2.2.2.size)).trans h.2.1, (kk.cell (p := ⟨g4, 0, none⟩) (Nat.lt_of_lt_of_le hs4.out.2.1 h.2.2.2.2.2.size)).trans h.2.2.1, (kk.cell (p := ⟨g4, 1, none⟩) (Nat.lt_of_lt_of_le hs4.out.2.1 h.2.2.2.2.2.size)).trans h.2.2.2.1, (kk.cell (p := ⟨g4, 2, none⟩) (Nat.lt_of_lt_of_le hs4.out.2.1 h.2.2.2.2.2.size)).trans h.2.2.2.2.1, h.2.2.2.2.2.trans (kk.mono h.2.2.2.2.2.size)⟩
          have HBt : Hid (∀ Y, Below w4.heap.size w4 Y → Calls Tryz.prog 13 #[.pointer (some ⟨x, 0, none⟩)] Y fun e w' => e = .returned (.bool true) ∧ Y = w') := fun Y hY => by
            have h := mo_betweenF (HGD.out.below HO4.out.mach hY)
            rw [HQ4.out.un.1, Bool.not_not, decide_eq_true rfl] at h
            exact h
          have HPs : Hid (∀ Y, Below w4.heap.size w4 Y → Calls Tryz.prog 14 #[.pointer (some ⟨x, 0, none⟩)] Y fun e w' => e = .returned (.int .i64 e0.D.ps) ∧ Y = w') := fun Y hY => by
            have h := mo_passesF (HGD.out.below HO4.out.mach hY)
            rw [HQ4.out.un.2] at h
            exact h
          have HHd : Hid (∀ Y, Below w4.heap.size w4 Y → Calls Tryz.prog 16 #[.pointer (some ⟨x, 0, none⟩)] Y fun e w' => e = .returned (.int .i64 Pv) ∧ Y = w') := fun Y hY => by
            have h := mo_handF (HGD.out.below HO4.out.mach hY)
            rw [HAL.out.2.2.2.1] at h
            exact h
          have HCt : Hid (∀ Y, Below w4.heap.size w4 Y → Calls Tryz.prog 17 #[.pointer (some ⟨x, 0, none⟩)] Y fun e w' => e = .returned (.bool C) ∧ Y = w') := fun Y hY => by
            have h := mo_countsF (HGD.out.below HO4.out.mach hY)
            rw [HAL.out.2.2.2.2] at h
            exact h
          have HRw : Hid (∀ Y, Below w4.heap.size w4 Y → Calls Tryz.prog 15 #[.pointer (some ⟨x, 0, none⟩), .slice (some ⟨b9, 0, none⟩) P cp9] Y fun e w' => e = .returned (.bool true) ∧ Below Y.heap.size Y w') := fun Y hY => by
            obtain ⟨es, nx, h1, h2⟩ := mo_blkF (HGD.out.below HO4.out.mach hY)
            have h3 := HAL.out.2.1.but (But.of_below (l := []) hY) (by simp)
            rw [HAL.out.2.2.1] at h3
            exact mo_rows h1 h2 h3 HPT.out.2.1
          go_region_held3 (fun w' => w'.cell? ⟨y, 1, none⟩ = some (.int .i64 e0.D.ps) ∧ w'.cell? ⟨y, 2, none⟩ = some (.slice Ag 0 capg) ∧ w'.cell? ⟨g4, 0, none⟩ = some (.slice (some ⟨b9, 0, none⟩) P cp9) ∧ w'.cell? ⟨g4, 1, none⟩ = some (.int .i64 Pv) ∧ w'.cell? ⟨g4, 2, none⟩ = some (.bool C) ∧ Below w4.heap.size w4 w') (first | exact hH.out | assumption | exact KEEP.out _ _ ‹_› ‹_›) (first | (go_at_call 13; refine (HBt.out _ (by simp only [*])).mono ?_; rintro e x1 ⟨rfl, rfl⟩) | (go_at_call 14; refine (HPs.out _ (by simp only [*])).mono ?_; rintro e x1 ⟨rfl, rfl⟩) | (go_at_call 15; refine (HRw.out _ (by simp only [*])).mono ?_; rintro e x1 ⟨rfl, g1⟩) | (go_at_call 16; refine (HHd.out _ (by simp only [*])).mono ?_; rintro e x1 ⟨rfl, rfl⟩) | (go_at_call 17; refine (HCt.out _ (by simp only [*])).mono ?_; rintro e x1 ⟨rfl, rfl⟩))
          all_goals
            rename_i hHeld
            have HB5 : Hid (Below w4.heap.size w4 _) := hHeld.2.2.2.2.2
            have HO5 : Hid _ := HO4.out.still HGD.out HB5.out
            have HQ5 : Hid _ := HQ4.out.but (But.of_below (l := []) HB5.out) (by simp) (by simp)
            have HRg : Hid _ := (HR4.out.below HB5.out).range
            have hTu := HO5.out.turnv HGD.out (fun a ha => CpR.axok (HLAW.out cl) HO5.out.mach a ha) HPT.out.2.2.2.2.2.1 (HLo.out.more (by have := HK.out; omega)) (by have := HK.out; omega) T
            rw [rn_mr, goM_mr, goG_mr, goS_mr] at hTu
            rw [show runCells (.slice Ag 0 capg) ((moPM false P T).rn t 0) = (runL (.slice Ag 0 capg) ((moPM false P T).rn t 0)).toArray from rfl] at hTu
            have HHn : Hid _ := HH.out.next n s (fun k i old new => actA_bd HO5.out.poke.mem k i old new)
            have HMG : Hid _ := ms_go (n := n) (T := T) (s := s) HPT.out.1 HQ4.out.ps HQ4.out.nen HQ4.out.nw0 HQ4.out.nnw
            have HGT : Hid _ := goT_mr (P := P) (n := n) (T := T) (s := s) HQ4.out.nen
            have HGS : Hid ((moPM true P T).goS T n t s = (moPM false P T).goS T n t s) := goS_mr
            have HLo7 : Hid (Low ((moPM false P T).goS T n t s) ((k + 1 : Nat) : Int)) := PM.goS_low HLo.out
            have hml : (moPM false P T).goM n t s 0 ≤ k + 1 := by have := HK.out; unfold PM.goM; split <;> (try split) <;> omega
            have HML : Hid ((moPM false P T).goM n t s 0 ≤ k + 1) := hml
            clear hml
            generalize (moPM false P T).rn t 0 = RN at *
            generalize (moPM false P T).goS T n t s = s1 at *
            generalize (moPM false P T).goG n t s gf 0 = g' at *
            generalize (moPM false P T).goM n t s 0 = m' at *
            generalize (moPM false P T).goT n t s = t1 at *
            simp only [runL] at hTu
            have yT := HO5.out.rd.2.cell 1 (v := .int .i64 T) rfl
            clear HBt HPs HHd HCt HRw KEEP hH HO4 HR4 hHeld HQ4 HB5 HAL hs4 HO5
            go_wp2_with (refine wpList_load_mid rfl 50 _ rfl wr.heap.size 0 rfl (runL (.slice Ag 0 capg) RN) _ HRg.out Tryz.underlying50 rfl (by kernel_rfl) ?_; clear HRg)
            go_at_call 18; refine hTu.mono ?_; rintro e w6 ⟨Ag', capg', rfl, hO6, hB6⟩
            have HQ6 : Hid (MsQ P w6 y br cpr Ag capg 0 e0 t) := HQ5.out.but hB6 (HF0.out y HYB.out.1).2.2 (HF0.out br HYB.out.2).2.2
            have q2 := HQ6.out.want.cell 2 (v := .slice Ag 0 capg) rfl
            have f2 := HQ6.out.want.fro 2
            have y0 := hO6.rd.2.cell 0 (v := .int .i64 P) rfl
            have y1 := hO6.rd.2.cell 1 (v := .int .i64 T) rfl
            have y2 := hO6.rd.2.cell 2 (v := .int .i64 G) rfl
            have n1 : w.heap.size ≠ y := fun h => HYN.out.2 h.symm
            have n2 : y ≠ w.heap.size := HYN.out.2
            have hU : But [y] w6 (w6.setCell ⟨y, 2, none⟩ (.slice Ag' m' capg')) := (But.refl _ w6).set (g := y) (.inl (by simp)) 2 _
            have HYR : Hid (∀ k ∈ [y], k ∈ [cl, w.heap.size, y, br] ∧ k ∉ (((Rd.lay cl P T G).and (Rd.blk w.heap.size #[.int .i64 P, .int .i64 T, .int .i64 G, .slice E m cp] 26))).B) := fun k hk => by
              simp only [List.mem_cons, List.not_mem_nil, or_false] at hk
              subst hk
              refine ⟨HYB.out.1, fun h => ?_⟩
              have h4 : k ∈ [cl] ++ [w.heap.size] := h
              simp at h4
              rcases h4 with h4 | h4
              · exact HYN.out.1 h4
              · exact HYN.out.2 h4
            have HO6 : Hid (LawOn ((moCp T G P cl).I) ((Rd.lay cl P T G).and (Rd.blk w.heap.size #[.int .i64 P, .int .i64 T, .int .i64 G, .slice E m cp] 26)) w (w6.setCell ⟨y, 2, none⟩ (.slice Ag' m' capg')) A A' cap cap' c b c' b' n s s1 Ag' capg' m' g' x t L [cl, w.heap.size, y, br]) := hO6.rebase HGD.out hU (fun k hk => HYR.out k hk) (fun k hk => .inl hk) hO6.rb
            have HW6 : Hid (Blk (w6.setCell ⟨y, 2, none⟩ (.slice Ag' m' capg')) y #[.slice (some ⟨br, 0, none⟩) P cpr, .int .i64 e0.D.ps, .slice Ag' m' capg'] 39) := HQ6.out.want.set 2 _
            have HD6 : Hid (DrAt (w6.setCell ⟨y, 2, none⟩ (.slice Ag' m' capg')) br (4 * P) e0.D.f) := HQ6.out.row.but hU (by have := HQ6.out.ne; simp; exact fun h => this h.symm)
            have HKE : Hid (KeptOk e0 ∧ (∀ i, 0 ≤ e0.D.f i ∧ e0.D.f i ≤ 18446744073709551615) ∧ y ≠ br) := ⟨HQ6.out.kept, HQ6.out.bd, HQ6.out.ne⟩
            have HYL : Hid (y < (w6.setCell ⟨y, 2, none⟩ (.slice Ag' m' capg')).heap.size) := HW6.out.lt
            have hRT := rm_turn (G := G) HW6.out HO6.out.poke.got (HO6.out.poke.gfar.of (by intro k hk; simp at hk ⊢; exact .inr (.inr (.inr (.inr (.inr (.inr (.inr (.inl hk)))))))))
              (by have := HML.out; have := HK.out; omega) HHn.out HD6.out HKE.out.2.2 rfl HKE.out.1 ⟨HPT.out.1, HPT.out.2.1⟩ ⟨HPT.out.2.2.1, HPT.out.2.2.2.1⟩ HKE.out.2.1
            clear hTu hO6 hB6 hU HW6 HQ6 HQ5 yT
            go_wp2_with fail
            generalize (w6.setCell ⟨y, 2, none⟩ (.slice Ag' m' capg')) = w6b at *
            go_at_call 19; refine hRT.mono ?_; rintro e w7 ⟨⟨u, rfl⟩, hB7, h1, h2⟩
            clear hRT q2 f2 y0 y1 y2 n1 n2
            cases hax : (moPM false P T).ax t1 with
            | none =>
              obtain ⟨br', cpr', k1, k2, k3⟩ := h1 hax
              have hyl := HYL.out
              have hE' : ∀ k ∈ [cl, w.heap.size, y, br'], k ∈ [cl, w.heap.size, y, br] ∨ (w6b.heap.size ≤ k ∧ k < w7.heap.size) := fun k hk => by
                simp only [List.mem_cons, List.not_mem_nil, or_false] at hk
                rcases hk with rfl | rfl | rfl | rfl
                · exact .inl (by simp)
                · exact .inl (by simp)
                · exact .inl (by simp)
                · exact .inr ⟨k3, k2.lt⟩
              have hrb' : ∀ k ∈ (((Rd.lay cl P T G).and (Rd.blk w.heap.size #[.int .i64 P, .int .i64 T, .int .i64 G, .slice E m cp] 26))).B, k ∈ [cl, w.heap.size, y, br'] := fun k hk => by
                have := HO6.out.rb k hk
                have h3 : k = cl ∨ k = w.heap.size := by
                  have h4 : k ∈ [cl] ++ [w.heap.size] := hk
                  simpa using h4
                rcases h3 with rfl | rfl <;> simp
              have HO7 : Hid (LawOn ((moCp T G P cl).I) ((Rd.lay cl P T G).and (Rd.blk w.heap.size #[.int .i64 P, .int .i64 T, .int .i64 G, .slice E m cp] 26)) w w7 A A' cap cap' c b c' b' n s s1 none 0 0 (fun _ => 0) x t L [cl, w.heap.size, y, br']) := (HO6.out.rebase HGD.out hB7 (fun k hk => HYR.out k hk) hE' hrb').drop
              have HFN : Hid ((y ∉ c :: b :: L) ∧ (br' ∉ c :: b :: L) ∧ y ≠ br') := by
                have g1 := HO7.out.poke.far y (List.mem_append_right _ (by simp))
                have g2 := HO7.out.poke.far br' (List.mem_append_right _ (by simp))
                have g3 : y ∉ L := fun h => HO7.out.apart y h (by simp)
                have g4 : br' ∉ L := fun h => HO7.out.apart br' h (by simp)
                exact ⟨by simp [g1.1.1, g1.1.2.1, g3], by simp [g2.1.1, g2.1.2.1, g4], by omega⟩
              have HKK : Hid (Blk w7 y #[.slice (some ⟨br', 0, none⟩) P cpr', .int .i64 (wrap64 (e0.D.ps + 1)), .slice none 0 0] 39 ∧ DrAt w7 br' (4 * P) t1.e.D.f) := ⟨k1, k2⟩
              have hSt := HO7.out.stepv HGD.out HST.out (fun Y (h : (((Rd.lay cl P T G).and (Rd.blk w.heap.size #[.int .i64 P, .int .i64 T, .int .i64 G, .slice E m cp] 26))).P Y) => h.1) (fun k hk => List.mem_append_left _ hk) HPT.out.2.2.2.2.2.1 (HLo.out.more (by have := HK.out; omega))
              rw [HGT.out, HGS.out] at hSt
              have HAX : Hid ((moPM false P T).ax t1 = none) := hax
              clear h1 h2 hax k1 k2 k3 hB7 hE' hrb' HO6 HO7 HLo
              go_wp2_with fail
              go_at_call 20; refine hSt.mono ?_; rintro e w8 ⟨he, hB8, L7, hO8⟩
              rw [mo_axS hO8.mach] at he
              subst he
              obtain ⟨e1, rfl⟩ : ∃ e1, t1 = .en e1 := by
                by_cases hen : ∃ e1, t1 = .en e1
                · exact hen
                · have h9 := mo_axS hO8.mach
                  rw [mr_id (fun e h => hen ⟨e, h⟩), ax_mr, HAX.out] at h9
                  cases h9
              have HO8 : Hid _ := hO8
              have hkp : KeptOk e1 := by
                have h9 := mo_good_run HPT.out.2.1 (by have := HPT.out; omega) (show MoGood T P (.own .nw e0) from HKE.out.1) HHn.out.bd HHn.out.live m' (Nat.le_refl _)
                rw [HHn.out.at'] at h9
                exact h9
              have HQ8 : Hid (MsQ P w8 y br' cpr' none 0 0 e1 (.own .nw e1)) := ⟨by have h9 := HKK.out.1.but hB8 HFN.out.1; rw [← HMG.out.1.1] at h9; exact h9, HKK.out.2.but hB8 HFN.out.2.1, hkp, mo_bds hO8.mach, ⟨rfl, HMG.out.1.2⟩, (fun e h => by cases h), fun _ => rfl, fun h => absurd h (by omega), HFN.out.2.2⟩
              clear hSt hO8 hB8 hkp
              have hAl := alike_any w8 A A' cap cap' c b c' b' n s1 HPT.out.2.2.2.2.2.1 HO8.out.poke.two
              go_wp2_with fail
              go_at_call 21; refine hAl.mono ?_; rintro e w9 ⟨rfl, hb9⟩
              have HO9 : Hid _ := HO8.out.still HGD.out hb9
              have HQ9 : Hid _ := HQ8.out.but (But.of_below (l := []) hb9) (by simp) (by simp)
              clear hAl hb9 HO8 HQ8
              go_wp2_with fail
              go_roundw
              case rel => exact ⟨k + 1, s1, none, 0, 0, _, .own .nw e1, L7, e1, br', cpr', HK.out.1, by go_num, by have := HK.out; have := HML.out; omega, HO9.out, HLo7, Hist.start _ _ _, HQ9.out⟩
              case measure => have := HK.out; simp [intOf]; omega
            | some a9 =>
              have k1 := h2 (by rw [hax]; simp)
              have HO7 : Hid (LawOn ((moCp T G P cl).I) ((Rd.lay cl P T G).and (Rd.blk w.heap.size #[.int .i64 P, .int .i64 T, .int .i64 G, .slice E m cp] 26)) w w7 A A' cap cap' c b c' b' n s s1 Ag' capg' m' g' x t L [cl, w.heap.size, y, br]) := HO6.out.rebase HGD.out hB7 (fun k hk => HYR.out k hk) (fun k hk => .inl hk) HO6.out.rb
              have HKK : Hid (Blk w7 y #[.slice (some ⟨br, 0, none⟩) P cpr, .int .i64 e0.D.ps, .slice Ag' m' capg'] 39 ∧ DrAt w7 br (4 * P) e0.D.f) := ⟨k1, HD6.out.but hB7 (by have := HKE.out.2.2; simp; exact fun h => this h.symm)⟩
              have HFN : Hid ((y ∉ c :: b :: L) ∧ (br ∉ c :: b :: L)) := by
                have g1 := HF0.out y HYB.out.1
                have g2 := HF0.out br HYB.out.2
                exact ⟨by simp [g1.1.1, g1.1.2.1, g1.2.1], by simp [g2.1.1, g2.1.2.1, g2.2.1]⟩
              have HEN : Hid (∀ e, t1 ≠ .en e) := fun e h => by rw [h] at hax; cases hax
              have hSt := HO7.out.stepv HGD.out HST.out (fun Y (h : (((Rd.lay cl P T G).and (Rd.blk w.heap.size #[.int .i64 P, .int .i64 T, .int .i64 G, .slice E m cp] 26))).P Y) => h.1) (fun k hk => List.mem_append_left _ hk) HPT.out.2.2.2.2.2.1 (HLo.out.more (by have := HK.out; omega))
              rw [HGT.out, HGS.out, mr_id HEN.out] at hSt
              clear h1 h2 hax k1 hB7 HO6 HO7 HLo HD6
              go_wp2_with fail
              go_at_call 20; refine hSt.mono ?_; rintro e w8 ⟨he, hB8, L7, hO8⟩
              rw [mo_axS hO8.mach] at he
              subst he
              have HO8 : Hid _ := hO8
              have HQ8 : Hid (MsQ P w8 y br cpr Ag' capg' m' e0 t1) := ⟨HKK.out.1.but hB8 HFN.out.1, HKK.out.2.but hB8 HFN.out.2, HKE.out.1, HKE.out.2.1, HMG.out.1, HEN.out, HMG.out.2.1, HMG.out.2.2, HKE.out.2.2⟩
              clear hSt hO8 hB8
              have hAl := alike_any w8 A A' cap cap' c b c' b' n s1 HPT.out.2.2.2.2.2.1 HO8.out.poke.two
              go_wp2_with fail
              go_at_call 21; refine hAl.mono ?_; rintro e w9 ⟨rfl, hb9⟩
              have HO9 : Hid _ := HO8.out.still HGD.out hb9
              have HQ9 : Hid _ := HQ8.out.but (But.of_below (l := []) hb9) (by simp) (by simp)
              clear hAl hb9 HO8 HQ8
              go_wp2_with fail
              go_roundw
              case rel => exact ⟨k + 1, s1, Ag', capg', m', g', t1, L7, e0, br, cpr, HK.out.1, by go_num, by have := HK.out; have := HML.out; omega, HO9.out, HLo7, HHn, HQ9.out⟩
              case measure => have := HK.out; simp [intOf]; omega
        · replace hm0 : ¬ mg = 0 := by omega
          have d0 : ((mg : Int) == 0) = false := by simp; omega
          have hH : Hid (w4.drew.cell? ⟨y, 1, none⟩ = some (.int .i64 e0.D.ps) ∧ w4.drew.cell? ⟨y, 2, none⟩ = some (.slice Ag mg capg) ∧ w4.drew.cell? ⟨g4, 0, none⟩ = some (.slice (some ⟨b9, 0, none⟩) P cp9) ∧ w4.drew.cell? ⟨g4, 1, none⟩ = some (.int .i64 Pv) ∧ w4.drew.cell? ⟨g4, 2, none⟩ = some (.bool C) ∧ Below w4.heap.size w4 w4.drew) := ⟨HQ4.out.want.cell 1 rfl, HQ4.out.want.cell 2 rfl, HAL.out.1.cell 0 rfl, HAL.out.1.cell 1 rfl, HAL.out.1.cell 2 rfl, (Below.refl _ _).drew⟩
          have KEEP : Hid (∀ X w' : World, (X.cell? ⟨y, 1, none⟩ = some (.int .i64 e0.D.ps) ∧ X.cell? ⟨y, 2, none⟩ = some (.slice Ag mg capg) ∧ X.cell? ⟨g4, 0, none⟩ = some (.slice (some ⟨b9, 0, none⟩) P cp9) ∧ X.cell? ⟨g4, 1, none⟩ = some (.int .i64 Pv) ∧ X.cell? ⟨g4, 2, none⟩ = some (.bool C) ∧ Below w4.heap.size w4 X) → Below X.heap.size X w' → (w'.cell? ⟨y, 1, none⟩ = some (.int .i64 e0.D.ps) ∧ w'.cell? ⟨y, 2, none⟩ = some (.slice Ag mg capg) ∧ w'.cell? ⟨g4, 0, none⟩ = some (.slice (some ⟨b9, 0, none⟩) P cp9) ∧ w'.cell? ⟨g4, 1, none⟩ = some (.int .i64 Pv) ∧ w'.cell? ⟨g4, 2, none⟩ = some (.bool C) ∧ Below w4.heap.size w4 w')) := fun X w' h kk => ⟨(kk.cell (p := ⟨y, 1, none⟩) (Nat.lt_of_lt_of_le hs4.out.2.2 h.2.2.2.2.2.size)).trans h.1, (kk.cell (p := ⟨y, 2, none⟩) (Nat.lt_of_lt_of_le hs4.out.2.2 h.2.2.2.2.2.size)).trans h.2.1, (kk.cell (p := ⟨g4, 0, none⟩) (Nat.lt_of_lt_of_le hs4.out.2.1 h.2.2.2.2.2.size)).trans h.2.2.1, (kk.cell (p := ⟨g4, 1, none⟩) (Nat.lt_of_lt_of_le hs4.out.2.1 h.2.2.2.2.2.size)).trans h.2.2.2.1, (kk.cell (p := ⟨g4, 2, none⟩) (Nat.lt_of_lt_of_le hs4.out.2.1 h.2.2.2.2.2.size)).trans h.2.2.2.2.1, h.2.2.2.2.2.trans (kk.mono h.2.2.2.2.2.size)⟩
          have HBt : Hid (∀ Y, Below w4.heap.size w4 Y → Calls Tryz.prog 13 #[.pointer (some ⟨x, 0, none⟩)] Y fun e w' => e = .returned (.bool false) ∧ Y = w') := fun Y hY => by
            have h := mo_betweenF (HGD.out.below HO4.out.mach hY)
            rw [HQ4.out.un.1, Bool.not_not, decide_eq_false hm0] at h
            exact h
          have HPs : Hid (∀ Y, Below w4.heap.size w4 Y → Calls Tryz.prog 14 #[.pointer (some ⟨x, 0, none⟩)] Y fun e w' => e = .returned (.int .i64 e0.D.ps) ∧ Y = w') := fun Y hY => by
            have h := mo_passesF (HGD.out.below HO4.out.mach hY)
            rw [HQ4.out.un.2] at h
            exact h
          have HHd : Hid (∀ Y, Below w4.heap.size w4 Y → Calls Tryz.prog 16 #[.pointer (some ⟨x, 0, none⟩)] Y fun e w' => e = .returned (.int .i64 Pv) ∧ Y = w') := fun Y hY => by
            have h := mo_handF (HGD.out.below HO4.out.mach hY)
            rw [HAL.out.2.2.2.1] at h
            exact h
          have HCt : Hid (∀ Y, Below w4.heap.size w4 Y → Calls Tryz.prog 17 #[.pointer (some ⟨x, 0, none⟩)] Y fun e w' => e = .returned (.bool C) ∧ Y = w') := fun Y hY => by
            have h := mo_countsF (HGD.out.below HO4.out.mach hY)
            rw [HAL.out.2.2.2.2] at h
            exact h
          have HRw : Hid (∀ Y, Below w4.heap.size w4 Y → Calls Tryz.prog 15 #[.pointer (some ⟨x, 0, none⟩), .slice (some ⟨b9, 0, none⟩) P cp9] Y fun e w' => e = .returned (.bool true) ∧ Below Y.heap.size Y w') := fun Y hY => by
            obtain ⟨es, nx, h1, h2⟩ := mo_blkF (HGD.out.below HO4.out.mach hY)
            have h3 := HAL.out.2.1.but (But.of_below (l := []) hY) (by simp)
            rw [HAL.out.2.2.1] at h3
            exact mo_rows h1 h2 h3 HPT.out.2.1
          go_region_held3 (fun w' => w'.cell? ⟨y, 1, none⟩ = some (.int .i64 e0.D.ps) ∧ w'.cell? ⟨y, 2, none⟩ = some (.slice Ag mg capg) ∧ w'.cell? ⟨g4, 0, none⟩ = some (.slice (some ⟨b9, 0, none⟩) P cp9) ∧ w'.cell? ⟨g4, 1, none⟩ = some (.int .i64 Pv) ∧ w'.cell? ⟨g4, 2, none⟩ = some (.bool C) ∧ Below w4.heap.size w4 w') (first | exact hH.out | assumption | exact KEEP.out _ _ ‹_› ‹_›) (first | (go_at_call 13; refine (HBt.out _ (by simp only [*])).mono ?_; rintro e x1 ⟨rfl, rfl⟩) | (go_at_call 14; refine (HPs.out _ (by simp only [*])).mono ?_; rintro e x1 ⟨rfl, rfl⟩) | (go_at_call 15; refine (HRw.out _ (by simp only [*])).mono ?_; rintro e x1 ⟨rfl, g1⟩) | (go_at_call 16; refine (HHd.out _ (by simp only [*])).mono ?_; rintro e x1 ⟨rfl, rfl⟩) | (go_at_call 17; refine (HCt.out _ (by simp only [*])).mono ?_; rintro e x1 ⟨rfl, rfl⟩))
          all_goals
            rename_i hHeld
            have HB5 : Hid (Below w4.heap.size w4 _) := hHeld.2.2.2.2.2
            have HO5 : Hid _ := HO4.out.still HGD.out HB5.out
            have HQ5 : Hid _ := HQ4.out.but (But.of_below (l := []) HB5.out) (by simp) (by simp)
            have HRg : Hid _ := (HR4.out.below HB5.out).range
            have hTu := HO5.out.turnv HGD.out (fun a ha => CpR.axok (HLAW.out cl) HO5.out.mach a ha) HPT.out.2.2.2.2.2.1 (HLo.out.more (by have := HK.out; omega)) (by have := HK.out; omega) T
            rw [rn_mr, goM_mr, goG_mr, goS_mr] at hTu
            rw [show runCells (.slice Ag mg capg) ((moPM false P T).rn t mg) = (runL (.slice Ag mg capg) ((moPM false P T).rn t mg)).toArray from rfl] at hTu
            have HHn : Hid _ := HH.out.next n s (fun k i old new => actA_bd HO5.out.poke.mem k i old new)
            have HMG : Hid _ := ms_go (n := n) (T := T) (s := s) HPT.out.1 HQ4.out.ps HQ4.out.nen HQ4.out.nw0 HQ4.out.nnw
            have HGT : Hid _ := goT_mr (P := P) (n := n) (T := T) (s := s) HQ4.out.nen
            have HGS : Hid ((moPM true P T).goS T n t s = (moPM false P T).goS T n t s) := goS_mr
            have HLo7 : Hid (Low ((moPM false P T).goS T n t s) ((k + 1 : Nat) : Int)) := PM.goS_low HLo.out
            have hml : (moPM false P T).goM n t s mg ≤ k + 1 := by have := HK.out; unfold PM.goM; split <;> (try split) <;> omega
            have HML : Hid ((moPM false P T).goM n t s mg ≤ k + 1) := hml
            clear hml
            generalize (moPM false P T).rn t mg = RN at *
            generalize (moPM false P T).goS T n t s = s1 at *
            generalize (moPM false P T).goG n t s gf mg = g' at *
            generalize (moPM false P T).goM n t s mg = m' at *
            generalize (moPM false P T).goT n t s = t1 at *
            simp only [runL] at hTu
            have yT := HO5.out.rd.2.cell 1 (v := .int .i64 T) rfl
            clear HBt HPs HHd HCt HRw KEEP hH HO4 HR4 hHeld HQ4 HB5 HAL hs4 HO5
            go_wp2_with (refine wpList_load_mid rfl 50 _ rfl wr.heap.size 0 rfl (runL (.slice Ag mg capg) RN) _ HRg.out Tryz.underlying50 rfl (by kernel_rfl) ?_; clear HRg)
            go_at_call 18; refine hTu.mono ?_; rintro e w6 ⟨Ag', capg', rfl, hO6, hB6⟩
            have HQ6 : Hid (MsQ P w6 y br cpr Ag capg mg e0 t) := HQ5.out.but hB6 (HF0.out y HYB.out.1).2.2 (HF0.out br HYB.out.2).2.2
            have q2 := HQ6.out.want.cell 2 (v := .slice Ag mg capg) rfl
            have f2 := HQ6.out.want.fro 2
            have y0 := hO6.rd.2.cell 0 (v := .int .i64 P) rfl
            have y1 := hO6.rd.2.cell 1 (v := .int .i64 T) rfl
            have y2 := hO6.rd.2.cell 2 (v := .int .i64 G) rfl
            have n1 : w.heap.size ≠ y := fun h => HYN.out.2 h.symm
            have n2 : y ≠ w.heap.size := HYN.out.2
            have hU : But [y] w6 (w6.setCell ⟨y, 2, none⟩ (.slice Ag' m' capg')) := (But.refl _ w6).set (g := y) (.inl (by simp)) 2 _
            have HYR : Hid (∀ k ∈ [y], k ∈ [cl, w.heap.size, y, br] ∧ k ∉ (((Rd.lay cl P T G).and (Rd.blk w.heap.size #[.int .i64 P, .int .i64 T, .int .i64 G, .slice E m cp] 26))).B) := fun k hk => by
              simp only [List.mem_cons, List.not_mem_nil, or_false] at hk
              subst hk
              refine ⟨HYB.out.1, fun h => ?_⟩
              have h4 : k ∈ [cl] ++ [w.heap.size] := h
              simp at h4
              rcases h4 with h4 | h4
              · exact HYN.out.1 h4
              · exact HYN.out.2 h4
            have HO6 : Hid (LawOn ((moCp T G P cl).I) ((Rd.lay cl P T G).and (Rd.blk w.heap.size #[.int .i64 P, .int .i64 T, .int .i64 G, .slice E m cp] 26)) w (w6.setCell ⟨y, 2, none⟩ (.slice Ag' m' capg')) A A' cap cap' c b c' b' n s s1 Ag' capg' m' g' x t L [cl, w.heap.size, y, br]) := hO6.rebase HGD.out hU (fun k hk => HYR.out k hk) (fun k hk => .inl hk) hO6.rb
            have HW6 : Hid (Blk (w6.setCell ⟨y, 2, none⟩ (.slice Ag' m' capg')) y #[.slice (some ⟨br, 0, none⟩) P cpr, .int .i64 e0.D.ps, .slice Ag' m' capg'] 39) := HQ6.out.want.set 2 _
            have HD6 : Hid (DrAt (w6.setCell ⟨y, 2, none⟩ (.slice Ag' m' capg')) br (4 * P) e0.D.f) := HQ6.out.row.but hU (by have := HQ6.out.ne; simp; exact fun h => this h.symm)
            have HKE : Hid (KeptOk e0 ∧ (∀ i, 0 ≤ e0.D.f i ∧ e0.D.f i ≤ 18446744073709551615) ∧ y ≠ br) := ⟨HQ6.out.kept, HQ6.out.bd, HQ6.out.ne⟩
            have HYL : Hid (y < (w6.setCell ⟨y, 2, none⟩ (.slice Ag' m' capg')).heap.size) := HW6.out.lt
            have hRT := rm_turn (G := G) HW6.out HO6.out.poke.got (HO6.out.poke.gfar.of (by intro k hk; simp at hk ⊢; exact .inr (.inr (.inr (.inr (.inr (.inr (.inr (.inl hk)))))))))
              (by have := HML.out; have := HK.out; omega) HHn.out HD6.out HKE.out.2.2 rfl HKE.out.1 ⟨HPT.out.1, HPT.out.2.1⟩ ⟨HPT.out.2.2.1, HPT.out.2.2.2.1⟩ HKE.out.2.1
            clear hTu hO6 hB6 hU HW6 HQ6 HQ5 yT
            go_wp2_with fail
            generalize (w6.setCell ⟨y, 2, none⟩ (.slice Ag' m' capg')) = w6b at *
            go_at_call 19; refine hRT.mono ?_; rintro e w7 ⟨⟨u, rfl⟩, hB7, h1, h2⟩
            clear hRT q2 f2 y0 y1 y2 n1 n2
            cases hax : (moPM false P T).ax t1 with
            | none =>
              obtain ⟨br', cpr', k1, k2, k3⟩ := h1 hax
              have hyl := HYL.out
              have hE' : ∀ k ∈ [cl, w.heap.size, y, br'], k ∈ [cl, w.heap.size, y, br] ∨ (w6b.heap.size ≤ k ∧ k < w7.heap.size) := fun k hk => by
                simp only [List.mem_cons, List.not_mem_nil, or_false] at hk
                rcases hk with rfl | rfl | rfl | rfl
                · exact .inl (by simp)
                · exact .inl (by simp)
                · exact .inl (by simp)
                · exact .inr ⟨k3, k2.lt⟩
              have hrb' : ∀ k ∈ (((Rd.lay cl P T G).and (Rd.blk w.heap.size #[.int .i64 P, .int .i64 T, .int .i64 G, .slice E m cp] 26))).B, k ∈ [cl, w.heap.size, y, br'] := fun k hk => by
                have := HO6.out.rb k hk
                have h3 : k = cl ∨ k = w.heap.size := by
                  have h4 : k ∈ [cl] ++ [w.heap.size] := hk
                  simpa using h4
                rcases h3 with rfl | rfl <;> simp
              have HO7 : Hid (LawOn ((moCp T G P cl).I) ((Rd.lay cl P T G).and (Rd.blk w.heap.size #[.int .i64 P, .int .i64 T, .int .i64 G, .slice E m cp] 26)) w w7 A A' cap cap' c b c' b' n s s1 none 0 0 (fun _ => 0) x t L [cl, w.heap.size, y, br']) := (HO6.out.rebase HGD.out hB7 (fun k hk => HYR.out k hk) hE' hrb').drop
              have HFN : Hid ((y ∉ c :: b :: L) ∧ (br' ∉ c :: b :: L) ∧ y ≠ br') := by
                have g1 := HO7.out.poke.far y (List.mem_append_right _ (by simp))
                have g2 := HO7.out.poke.far br' (List.mem_append_right _ (by simp))
                have g3 : y ∉ L := fun h => HO7.out.apart y h (by simp)
                have g4 : br' ∉ L := fun h => HO7.out.apart br' h (by simp)
                exact ⟨by simp [g1.1.1, g1.1.2.1, g3], by simp [g2.1.1, g2.1.2.1, g4], by omega⟩
              have HKK : Hid (Blk w7 y #[.slice (some ⟨br', 0, none⟩) P cpr', .int .i64 (wrap64 (e0.D.ps + 1)), .slice none 0 0] 39 ∧ DrAt w7 br' (4 * P) t1.e.D.f) := ⟨k1, k2⟩
              have hSt := HO7.out.stepv HGD.out HST.out (fun Y (h : (((Rd.lay cl P T G).and (Rd.blk w.heap.size #[.int .i64 P, .int .i64 T, .int .i64 G, .slice E m cp] 26))).P Y) => h.1) (fun k hk => List.mem_append_left _ hk) HPT.out.2.2.2.2.2.1 (HLo.out.more (by have := HK.out; omega))
              rw [HGT.out, HGS.out] at hSt
              have HAX : Hid ((moPM false P T).ax t1 = none) := hax
              clear h1 h2 hax k1 k2 k3 hB7 hE' hrb' HO6 HO7 HLo
              go_wp2_with fail
              go_at_call 20; refine hSt.mono ?_; rintro e w8 ⟨he, hB8, L7, hO8⟩
              rw [mo_axS hO8.mach] at he
              subst he
              obtain ⟨e1, rfl⟩ : ∃ e1, t1 = .en e1 := by
                by_cases hen : ∃ e1, t1 = .en e1
                · exact hen
                · have h9 := mo_axS hO8.mach
                  rw [mr_id (fun e h => hen ⟨e, h⟩), ax_mr, HAX.out] at h9
                  cases h9
              have HO8 : Hid _ := hO8
              have hkp : KeptOk e1 := by
                have h9 := mo_good_run HPT.out.2.1 (by have := HPT.out; omega) (show MoGood T P (.own .nw e0) from HKE.out.1) HHn.out.bd HHn.out.live m' (Nat.le_refl _)
                rw [HHn.out.at'] at h9
                exact h9
              have HQ8 : Hid (MsQ P w8 y br' cpr' none 0 0 e1 (.own .nw e1)) := ⟨by have h9 := HKK.out.1.but hB8 HFN.out.1; rw [← HMG.out.1.1] at h9; exact h9, HKK.out.2.but hB8 HFN.out.2.1, hkp, mo_bds hO8.mach, ⟨rfl, HMG.out.1.2⟩, (fun e h => by cases h), fun _ => rfl, fun h => absurd h (by omega), HFN.out.2.2⟩
              clear hSt hO8 hB8 hkp
              have hAl := alike_any w8 A A' cap cap' c b c' b' n s1 HPT.out.2.2.2.2.2.1 HO8.out.poke.two
              go_wp2_with fail
              go_at_call 21; refine hAl.mono ?_; rintro e w9 ⟨rfl, hb9⟩
              have HO9 : Hid _ := HO8.out.still HGD.out hb9
              have HQ9 : Hid _ := HQ8.out.but (But.of_below (l := []) hb9) (by simp) (by simp)
              clear hAl hb9 HO8 HQ8
              go_wp2_with fail
              go_roundw
              case rel => exact ⟨k + 1, s1, none, 0, 0, _, .own .nw e1, L7, e1, br', cpr', HK.out.1, by go_num, by have := HK.out; have := HML.out; omega, HO9.out, HLo7, Hist.start _ _ _, HQ9.out⟩
              case measure => have := HK.out; simp [intOf]; omega
            | some a9 =>
              have k1 := h2 (by rw [hax]; simp)
              have HO7 : Hid (LawOn ((moCp T G P cl).I) ((Rd.lay cl P T G).and (Rd.blk w.heap.size #[.int .i64 P, .int .i64 T, .int .i64 G, .slice E m cp] 26)) w w7 A A' cap cap' c b c' b' n s s1 Ag' capg' m' g' x t L [cl, w.heap.size, y, br]) := HO6.out.rebase HGD.out hB7 (fun k hk => HYR.out k hk) (fun k hk => .inl hk) HO6.out.rb
              have HKK : Hid (Blk w7 y #[.slice (some ⟨br, 0, none⟩) P cpr, .int .i64 e0.D.ps, .slice Ag' m' capg'] 39 ∧ DrAt w7 br (4 * P) e0.D.f) := ⟨k1, HD6.out.but hB7 (by have := HKE.out.2.2; simp; exact fun h => this h.symm)⟩
              have HFN : Hid ((y ∉ c :: b :: L) ∧ (br ∉ c :: b :: L)) := by
                have g1 := HF0.out y HYB.out.1
                have g2 := HF0.out br HYB.out.2
                exact ⟨by simp [g1.1.1, g1.1.2.1, g1.2.1], by simp [g2.1.1, g2.1.2.1, g2.2.1]⟩
              have HEN : Hid (∀ e, t1 ≠ .en e) := fun e h => by rw [h] at hax; cases hax
              have hSt := HO7.out.stepv HGD.out HST.out (fun Y (h : (((Rd.lay cl P T G).and (Rd.blk w.heap.size #[.int .i64 P, .int .i64 T, .int .i64 G, .slice E m cp] 26))).P Y) => h.1) (fun k hk => List.mem_append_left _ hk) HPT.out.2.2.2.2.2.1 (HLo.out.more (by have := HK.out; omega))
              rw [HGT.out, HGS.out, mr_id HEN.out] at hSt
              clear h1 h2 hax k1 hB7 HO6 HO7 HLo HD6
              go_wp2_with fail
              go_at_call 20; refine hSt.mono ?_; rintro e w8 ⟨he, hB8, L7, hO8⟩
              rw [mo_axS hO8.mach] at he
              subst he
              have HO8 : Hid _ := hO8
              have HQ8 : Hid (MsQ P w8 y br cpr Ag' capg' m' e0 t1) := ⟨HKK.out.1.but hB8 HFN.out.1, HKK.out.2.but hB8 HFN.out.2, HKE.out.1, HKE.out.2.1, HMG.out.1, HEN.out, HMG.out.2.1, HMG.out.2.2, HKE.out.2.2⟩
              clear hSt hO8 hB8
              have hAl := alike_any w8 A A' cap cap' c b c' b' n s1 HPT.out.2.2.2.2.2.1 HO8.out.poke.two
              go_wp2_with fail
              go_at_call 21; refine hAl.mono ?_; rintro e w9 ⟨rfl, hb9⟩
              have HO9 : Hid _ := HO8.out.still HGD.out hb9
              have HQ9 : Hid _ := HQ8.out.but (But.of_below (l := []) hb9) (by simp) (by simp)
              clear hAl hb9 HO8 HQ8
              go_wp2_with fail
              go_roundw
              case rel => exact ⟨k + 1, s1, Ag', capg', m', g', t1, L7, e0, br, cpr, HK.out.1, by go_num, by have := HK.out; have := HML.out; omega, HO9.out, HLo7, HHn, HQ9.out⟩
              case measure => have := HK.out; simp [intOf]; omega
    · obtain rfl : mp = k := by omega
      have hgd : decide ((mp : Int) < (mp : Int)) = false := by simp
      have HT := HO.out.poke.two
      have HTS : Hid (∀ Y, Below wr.heap.size wr Y → Two Y A A' cap cap' c b c' b' n s) := fun Y hY => HT.below hY
      have hH : Hid (wr.drew.cell? ⟨c', 0, none⟩ = some (.slice A' n cap') ∧ Below wr.heap.size wr wr.drew) := ⟨HT.r.cells.1, (Below.refl _ _).drew⟩
      have KEEP : Hid (∀ X w' : World, (X.cell? ⟨c', 0, none⟩ = some (.slice A' n cap') ∧ Below wr.heap.size wr X) → Below X.heap.size X w' → (w'.cell? ⟨c', 0, none⟩ = some (.slice A' n cap') ∧ Below wr.heap.size wr w')) := fun X w' h k => ⟨(HTS.out _ (h.2.trans (k.mono h.2.size))).r.cells.1, h.2.trans (k.mono h.2.size)⟩
      have HB9 : Hid (Below w.heap.size w wr) := HO.out.poke.below
      clear HT HO HLo HH HQ
      go_wp2_with fail
      go_region_held3 (fun w' => w'.cell? ⟨c', 0, none⟩ = some (.slice A' n cap') ∧ Below wr.heap.size wr w') (first | exact hH.out | assumption | exact KEEP.out _ _ ‹_› ‹_›) (first | (go_at_call 8; refine (mon_awake _).mono ?_; rintro e x1 ⟨rfl, g1⟩) | (go_at_call 23; refine (words_any _ A cap c b n s (HTS.out _ (by simp only [*])).m HPT.out.2.2.2.2.2.1).mono ?_; rintro e x5 ⟨A4, cap4, rfl, hs4, g5⟩) | (go_at_call 22; refine (sameB_any _ A4 A' n cap4 cap' s.f HPT.out.2.2.2.2.2.1 hs4 (HTS.out _ (by simp only [*])).r.sees).mono ?_; rintro e x6 ⟨rfl, g6⟩) | (go_at_call 20; refine (step_nil_mon _ _).mono ?_; rintro e x7 ⟨rfl, rfl⟩) | (go_at_call 13; refine (mo_between_nil _).mono ?_; rintro e x7 ⟨rfl, rfl⟩) | (go_at_call 14; refine (mo_passes_nil _).mono ?_; rintro e x7 ⟨rfl, rfl⟩) | (go_at_call 24; refine (mo_row_nil _ _).mono ?_; rintro e x7 ⟨rfl, g7⟩) | (go_at_call 16; refine (mo_hand_nil _).mono ?_; rintro e x7 ⟨rfl, rfl⟩) | (go_at_call 17; refine (mo_counts_nil _).mono ?_; rintro e x7 ⟨rfl, rfl⟩))
      all_goals
        rename_i hHeld
        have hbF := HB9.out.trans (hHeld.2.mono HB9.out.size)
        go_wp2_with fail
        go_ret
        exact ⟨rfl, hbF⟩
theorem monSteps_walk (P T G : Int) (E F : Option Addr) (m cp mp cq : Nat) (a v : Nat → Int) (w : World) (Pks : Nat → Pk) (hm : m ≤ 9223372036854775807) (hmp : mp ≤ 9223372036854775807) (hs : SeesP w w.heap.size E m a v) (hv : ∀ i, i < m → 0 ≤ v i ∧ v i ≤ 18446744073709551615) (hP : SeesC w w.heap.size F mp 6 (pkC Pks)) (hpv : ∀ j, j < mp → 0 ≤ (Pks j).v ∧ (Pks j).v ≤ 18446744073709551615) :
    Calls Tryz.prog 3 #[.agg #[.int .i64 P, .int .i64 T, .int .i64 G, .slice E m cp], .slice F mp cq] w fun e w' => e = .returned (.bool true) ∧ Below w.heap.size w w' := by
  by_cases h : (¬ FewC P T G ∨ 400 < m) ∨ 400 < mp
  · exact monSteps_bad P T G E F m cp mp cq a v w hm hmp hs hv h
  · have hF : FewC P T G := Decidable.byContradiction fun hf => h (.inl (.inl hf))
    have hM := hF.h.1.h
    obtain ⟨P', rfl⟩ : ∃ P' : Nat, P = (P' : Int) := ⟨P.toNat, by omega⟩
    exact monSteps_ok P' T G E F m cp mp cq a v w Pks (by omega) hF (by omega) hs hv hP hpv
end Go.Proofs.YthjfbknmdligeaaGreat

namespace Go.Proofs.YthjfbknmdligeaaGreat
open Go Go.ChangeShapes Go.WideShapes Go.ChangeAt Go.RowKit

theorem below_trodAll {H : Type} {enc : TypeId × Value → H} {P : Program} (hl : laidOutB P = true) {W W' : World} (hb : Below W.heap.size W W') :
    ∀ (ts : List TypeId) (vs : List Value) (ds : List (DataW H)) (ps : List MemPlace), (ts.all fun t => P.readableRec t && decide (t < P.types.size)) = true →
      DataW.TrodAll enc P W 0 (fun _ => true) true ts vs ds ps → DataW.TrodAll enc P W' 0 (fun b => decide (b < W.heap.size)) true ts vs ds ps := by
  intro ts
  induction ts with
  | nil =>
    intro vs ds ps _ h
    cases vs <;> cases ds <;> first | exact h | exact (h : False).elim
  | cons t ts ih =>
    intro vs ds ps hall h
    cases vs with
    | nil => exact (h : False).elim
    | cons v vs =>
      cases ds with
      | nil => exact (h : False).elim
      | cons d ds =>
        obtain ⟨p, q, h1, h2, rfl⟩ := h
        simp only [List.all_cons, Bool.and_eq_true, decide_eq_true_eq] at hall
        have lt : ∀ x ∈ p, x.block < W.heap.size := by obtain ⟨m, hm⟩ := h1; exact DataW.trod_lt m _ _ _ hm
        exact ⟨p, q, Below.trod hl hall.1.1 hall.1.2 h1 hb lt, ih vs ds q hall.2 h2, rfl⟩

theorem law_post {H : Type} {enc : TypeId × Value → H} {P : Program} {f : Func} {s : ChangeSpec} {apart : Bool} {W W' : World} {args : Array Value} {ds gs : List (DataW H)} {before : List MemPlace} {bt : TypeId}
    (hl : laidOutB P = true) (hr : f.resultTypes.toList = [bt]) (hbt : P.underlying bt = some .bool) (hts : (f.params.toList.all fun t => P.readableRec t && decide (t < P.types.size)) = true)
    (hvars : s.vars = []) (hres : (s.fn H ds).results = [.lit (.bool true)]) (harg : (s.fn H ds).args = ds) (hvs : (s.fn H ds).vars = [])
    (hW : DataW.Whole enc P f.params.toList s.vars apart W args.toList ds gs before) (hb : Below W.heap.size W W') :
    s.post enc P f apart true false false W args (.bool true) W' := by
  have hW' := hW
  obtain ⟨p, q, hA, hV, rfl, hfz, hnd⟩ := hW
  have hg : gs = [] ∧ q = [] := by rw [hvars] at hV; exact trodVars_none hV
  obtain ⟨rfl, rfl⟩ := hg
  refine ⟨ds, [], _, [], p, [], hW', ?_, ?_, ?_, hb.frame _, fun h => by cases h⟩
  · have e : (Value.bool true).resultList f.resultTypes.size = [.bool true] := by
      have hs : f.resultTypes.size = 1 := by rw [← Array.length_toList, hr]; rfl
      rw [hs]; rfl
    rw [List.append_nil, hres, hr, e]
    exact trodAll_mk1 (shut_bool hbt _)
  · rw [List.append_nil, harg]
    exact below_trodAll hl hb _ _ _ _ hts hA
  · rw [List.append_nil, hvs, hvars]
    rfl
end Go.Proofs.YthjfbknmdligeaaGreat

namespace Go.Proofs.YthjfbknmdligeaaGreat
open Go Go.ChangeShapes Go.WideShapes Go.ChangeAt Go.RowKit Go.Joins
set_option linter.unusedVariables false
set_option linter.unusedSimpArgs false

theorem own_monSteps : ownKnob Tryz.prog.godebug = none := by kernel_rfl
theorem laidOut_monSteps : laidOutB Tryz.prog = true := by kernel_rfl

set_option maxRecDepth 100000 in
theorem lifted_monSteps (os : Os) (started : os.Started) (H : Type) (enc : TypeId × Value → H) :
    ReturnsInHanded {} Tryz.checked os 3 .any (Rows.monStepsSpec.pre6 enc Tryz.prog Tryz.f3 Rows.monStepsRow.domain false) (Rows.monStepsSpec.post enc Tryz.prog Tryz.f3 false true false false) := by
  refine returnsInHanded_of_change (C := Tryz.checked) own_monSteps started (by kernel_rfl) Tryz.func3
    (ChangeSpec.witness6 (enc := enc) (C := Tryz.checked) false ⟨#[], #[.agg #[.int .i64 0, .int .i64 0, .int .i64 0, .slice none 0 0], .slice none 0 0], []⟩ 8 (by kernel_rfl) (by kernel_rfl) (by kernel_rfl) (by kernel_rfl)) ?_
  intro W base args ds gs before hval0 hW hcnd _
  have hval : ∀ (j : Nat) t v, Tryz.f3.params[j]? = some t → args[j]? = some v → Value.okWide Tryz.prog W .any base t v := hval0
  have hW' := hW
  obtain ⟨p, q, hA0, hV, rfl, hfz, hnd⟩ := hW
  have hA : DataW.TrodAll enc Tryz.prog W 0 (fun _ => true) true Tryz.f3.params.toList args.toList ds p := hA0
  rw [Tryz.params3] at hA hval
  obtain ⟨v0, vs0, d0, ds0, p0, q0, hargs, rfl, rfl, h0, r0⟩ := trodAll_cons hA
  obtain ⟨v1, vs1, d1, ds1, p1, q1, rfl, rfl, rfl, h1, r1⟩ := trodAll_cons r0
  obtain ⟨rfl, rfl, rfl⟩ := trodAll_nil r1
  obtain rfl : args = #[v0, v1] := by cases args; simp_all
  obtain ⟨P, T, G, E, m, cp, a, x, rfl, hm, hs, hx⟩ := open_ground (hval 0 26 v0 rfl rfl) h0
  unfold maxLen at hm
  obtain ⟨F, mp, cq, Pks, rfl, hmp, hP, hpv⟩ := open_pokes (hval 1 27 v1 rfl rfl) h1
  unfold maxLen at hmp
  clear hA0 hval0
  refine (monSteps_walk P T G E F m cp mp cq a x W Pks (by omega) (by omega) hs hx hP hpv).mono fun e W' ⟨he, hb⟩ => ?_
  subst he
  exact ⟨_, rfl, law_post laidOut_monSteps rfl Tryz.underlying4 (by kernel_rfl) rfl rfl rfl rfl hW' hb⟩

theorem monSteps_jlaid : laidOutB Tryz.pinned.checked.prog = true := by kernel_rfl
theorem monSteps_jmaps : mapsRowed Tryz.pinned.checked.prog = true := by kernel_rfl
theorem monSteps_jinp : (Rows.monStepsRow.inPlace == Tryz.pinned.checked.prog.inPlace 3) = true := by kernel_rfl
theorem monSteps_junf : (Rows.monStepsRow.unfollowed == Tryz.pinned.checked.prog.unfollowed 3) = true := by kernel_rfl
theorem monSteps_jrec : (Rows.monStepsRow.recurses == Tryz.pinned.checked.prog.recurses 3) = true := by kernel_rfl
theorem monSteps_jnam : (Rows.monStepsRow.named == Tryz.pinned.checked.prog.varsNamed 3) = true := by kernel_rfl
theorem monSteps_closed : joinedFacts Tryz.pinned.checked.prog 3 Tryz.f3 Rows.monStepsSpec Rows.monStepsRow = true := by
  unfold joinedFacts
  rw [monSteps_jlaid, monSteps_jmaps, monSteps_jinp, monSteps_junf, monSteps_jrec, monSteps_jnam]
  kernel_rfl
theorem monSteps_holds : Rows.MonStepsSaid :=
  OpenClaim.holds_of_wide 3 Tryz.f3 rfl rfl rfl rfl rfl rfl rfl ⟨rfl, rfl, rfl, rfl, rfl⟩ rfl rfl rfl rfl rfl (by kernel_rfl) Tryz.func3 monSteps_closed
    (of_decide_eq_true (by kernel_rfl)) (by unfold Func.isWrapper; first | (rw [if_pos (by decide +kernel)]; kernel_rfl) | (rw [if_neg (by decide +kernel)]; exact ⟨rfl, rfl⟩))
    (fun os started H enc _ => lifted_monSteps os started H enc)
#print axioms monSteps_holds
end Go.Proofs.YthjfbknmdligeaaGreat
