/- Machines in one memory that take their turns; lists that are spelled out. -/
import Derived.Test.YthhlklfioipmgaaGreatLaw
import Derived.Test.YthhlklfioipmgaaGreatLinks
import Derived.Test.YthhlklfioipmgaaGreatGq3
import Derived.Test.YthhlklfioipmgaaGreatRunD
import Derived.Stop.Asserts
import Derived.Test.YthhlklfioipmgaaGreatGq1
import Derived.Test.YthhlklfioipmgaaGreatGwEq
import Derived.Test.YthhlklfioipmgaaGreatLock1
import Derived.Maps.OwnSet
import Derived.Maps.AppendAt
import Derived.OwnWalk
import Derived.ChangeShapes
import Derived.Test.YthhlklfioipmgaaGreatGnd2
import Derived.Deep.RegionLaw
import Derived.Deep.AppendLies
import Derived.Test.YthhlklfioipmgaaGreatRp1
import Derived.BigRegion
import Derived.Test.YthhlklfioipmgaaGreatRM3
import Derived.Test.YthhlklfioipmgaaGreatLock2
import Derived.Test.YthhlklfioipmgaaGreatRun_qput
import Derived.Test.YthhlklfioipmgaaGreatRun_rel
import Derived.Test.YthhlklfioipmgaaGreatRun_acq
import Derived.Test.YthhlklfioipmgaaGreatInts
import Derived.Deep.RegionHeldLaw
import Derived.Deep.RegionLawGrows
import Derived.Test.YthhlklfioipmgaaGreatCp
import Derived.Test.YthhlklfioipmgaaGreatLkFl
import Derived.Deep.RegionHeld3
namespace Go.Proofs.YthhlklfioipmgaaGreat
open Go Go.RowKit
set_option linter.unusedVariables false
set_option maxRecDepth 100000
set_option linter.unusedSimpArgs false

/-- So many steps of a machine. -/
def PM.steps {σ : Type} (M : PM σ) (who : Int) (n : Nat) : Nat → σ × St → σ × St
  | 0, p => p
  | k + 1, p => PM.steps M who n k (M.goT n p.1 p.2, M.goS who n p.1 p.2)
theorem PM.steps_succ {σ : Type} (M : PM σ) (who : Int) (n : Nat) : ∀ (k : Nat) (p : σ × St), M.steps who n (k + 1) p = (M.goT n (M.steps who n k p).1 (M.steps who n k p).2, M.goS who n (M.steps who n k p).1 (M.steps who n k p).2)
  | 0, p => rfl
  | k + 1, p => PM.steps_succ M who n k (M.goT n p.1 p.2, M.goS who n p.1 p.2)
theorem PM.steps_low {σ : Type} (M : PM σ) (who : Int) (n : Nat) {m : Int} : ∀ (k : Nat) (p : σ × St), Low p.2 m → Low (M.steps who n k p).2 (m + k)
  | 0, p, h => h.more (by omega)
  | k + 1, p, h => (PM.steps_low M who n k (M.goT n p.1 p.2, M.goS who n p.1 p.2) (PM.goS_low h)).more (by omega)

/-- A machine over a memory, apart, with what is only read. -/
structure Solo {σ : Type} (I : MI σ) (R : Rd) (W0 w : World) (A : Option Addr) (cap c b n : Nat) (s : St) (x : Nat) (t : σ) (L : List Nat) : Prop where
  mem : Is w 136 A cap c b n s
  mach : I w x t L
  rd : R.P w
  far : ∀ k ∈ L, k ≠ c ∧ k ≠ b ∧ k ∉ R.B
  rfar : c ∉ R.B ∧ b ∉ R.B
  up : W0.heap.size ≤ c ∧ W0.heap.size ≤ b ∧ ∀ k ∈ L, W0.heap.size ≤ k
  rlt : ∀ k ∈ R.B, k < w.heap.size
  below : Below W0.heap.size W0 w
section
variable {σ : Type} {I : MI σ} {M : PM σ} {R Rm : Rd} {W0 w w' : World} {A : Option Addr} {cap c b n : Nat} {s : St} {x : Nat} {t : σ} {L : List Nat}
theorem Solo.still (hG : I.Good M) (h : Solo I R W0 w A cap c b n s x t L) (hb : Below w.heap.size w w') : Solo I R W0 w' A cap c b n s x t L :=
  ⟨h.mem.below hb, hG.below h.mach hb, R.below h.rd hb, h.far, h.rfar, h.up, fun k hk => Nat.lt_of_lt_of_le (h.rlt k hk) hb.size, h.below.trans (hb.mono h.below.size)⟩
theorem Solo.step (hG : I.Good M) {F : Nat} {who : Int} (hS : Steps M I Rm F who) (hRm : ∀ w, R.P w → Rm.P w) (hRb : ∀ k ∈ Rm.B, k ∈ R.B) (h : Solo I R W0 w A cap c b n s x t L) (hn : n ≤ 1000000) (hl : Low s 1000000) :
    Calls Tryz.prog F #[.pointer (some ⟨x, 0, none⟩), .pointer (some ⟨c, 0, none⟩)] w fun e w' => (e = .returned (.bool (M.ax (M.goT n t s)).isNone)) ∧ ∃ L', Solo I R W0 w' A cap c b n (M.goS who n t s) x (M.goT n t s) L' := by
  refine (hS w A cap c b n s x t L h.mach (hRm w h.rd) h.mem hn hl (fun k hk => ⟨(h.far k hk).1, (h.far k hk).2.1, fun hr => (h.far k hk).2.2 (hRb k hr)⟩) ⟨fun hr => h.rfar.1 (hRb c hr), fun hr => h.rfar.2 (hRb b hr)⟩).mono ?_
  rintro e w' ⟨rfl, L', a1, a2, a3, a4⟩
  have hsz := h.below.size
  have k1 := h.mem.lt
  have k2 := h.mem.bl
  refine ⟨rfl, L', a2, a1, R.keep _ _ _ h.rd a3 (fun k hk => ?_), fun k hk => ?_, h.rfar, ⟨h.up.1, h.up.2.1, fun k hk => ?_⟩, fun k hk => Nat.lt_of_lt_of_le (h.rlt k hk) a3.size, h.below.trans (a3.below ?_ hsz)⟩
  · simp only [List.mem_cons, not_or]
    exact ⟨fun e => h.rfar.1 (e ▸ hk), fun e => h.rfar.2 (e ▸ hk), fun hm => (h.far k hm).2.2 hk⟩
  · rcases a4 k hk with h1 | h1
    · exact h.far k h1
    · exact ⟨by omega, by omega, fun hr => by have := h.rlt k hr; omega⟩
  · rcases a4 k hk with h1 | h1
    · exact h.up.2.2 k h1
    · omega
  · intro k hk
    simp only [List.mem_cons] at hk
    rcases hk with rfl | rfl | hk
    · exact h.up.1
    · exact h.up.2.1
    · exact h.up.2.2 k hk
/-- How it begins. -/
theorem Solo.begin {w2 w3 : World} (hm : Is w2 136 A cap c b n s) (hb : Below w2.heap.size w2 w3) (hB2 : Below W0.heap.size W0 w2) (hup : W0.heap.size ≤ c ∧ W0.heap.size ≤ b) (hi : I w3 x t L) (hL : ∀ k ∈ L, w2.heap.size ≤ k) (hr : R.P w2) (hrl : ∀ k ∈ R.B, k < w2.heap.size) (hrf : c ∉ R.B ∧ b ∉ R.B) : Solo I R W0 w3 A cap c b n s x t L := by
  have k1 := hm.lt
  have k2 := hm.bl
  have hsz := hB2.size
  refine ⟨hm.below hb, hi, R.below hr hb, fun k hk => ?_, hrf, ⟨hup.1, hup.2, fun k hk => Nat.le_trans hsz (hL k hk)⟩, fun k hk => Nat.lt_of_lt_of_le (hrl k hk) hb.size, hB2.trans (hb.mono hsz)⟩
  have h1 := hL k hk
  exact ⟨by omega, by omega, fun hr => by have := hrl k hr; omega⟩
end
end Go.Proofs.YthhlklfioipmgaaGreat

namespace Go.Proofs.YthhlklfioipmgaaGreat
open Go Go.RowKit
set_option linter.unusedVariables false
set_option maxRecDepth 100000
set_option linter.unusedSimpArgs false

section
variable {σ : Type} {M : PM σ} {who : Int} {n k : Nat} {t : σ} {s : St} {i v : Int}
theorem steps_no (ha : M.ax t = none) : ∀ k, M.steps who n k (t, s) = (t, s)
  | 0 => rfl
  | k + 1 => by
    show M.steps who n k (M.goT n t s, M.goS who n t s) = _
    have e1 : M.goT n t s = t := by unfold PM.goT; rw [ha]
    have e2 : M.goS who n t s = s := by unfold PM.goS; rw [ha]
    rw [e1, e2]
    exact steps_no ha k
theorem steps_ld (ha : M.ax t = some (axLd i)) (hi : 0 ≤ i ∧ i < n) : ∃ s', M.steps who n (k + 1) (t, s) = M.steps who n k (M.nx t (s.f i.toNat), s') ∧ s'.f = s.f ∧ s'.bad = s.bad := by
  have e1 : M.goT n t s = M.nx t (s.f i.toNat) := by
    unfold PM.goT; rw [ha]
    simp [PM.ans, PM.asl, axLd, actA, Go.Proofs.YthhlklfioipmgaaGreat.ans, hi]
  refine ⟨M.goS who n t s, by show M.steps who n k (M.goT n t s, M.goS who n t s) = _; rw [e1], ?_⟩
  unfold PM.goS; rw [ha]
  simp [PM.asl, axLd, actS, stp, hi]
theorem steps_st (ha : M.ax t = some (axSt i v)) (hi : 0 ≤ i ∧ i < n) : ∃ s', M.steps who n (k + 1) (t, s) = M.steps who n k (M.nx t 0, s') ∧ s'.f = upd s.f i.toNat v ∧ s'.bad = s.bad := by
  have e1 : M.goT n t s = M.nx t 0 := by
    unfold PM.goT; rw [ha]
    simp [PM.ans, PM.asl, axSt, actA]
  refine ⟨M.goS who n t s, by show M.steps who n k (M.goT n t s, M.goS who n t s) = _; rw [e1], ?_⟩
  unfold PM.goS; rw [ha]
  simp [PM.asl, axSt, actS, stp, hi]
theorem steps_ad (ha : M.ax t = some (axAd i v)) (hi : 0 ≤ i ∧ i < n) : ∃ s', M.steps who n (k + 1) (t, s) = M.steps who n k (M.nx t ((s.f i.toNat + v) % 4294967296), s') ∧ s'.f = upd s.f i.toNat ((s.f i.toNat + v) % 4294967296) ∧ s'.bad = s.bad := by
  have e1 : M.goT n t s = M.nx t ((s.f i.toNat + v) % 4294967296) := by
    unfold PM.goT; rw [ha]
    simp [PM.ans, PM.asl, axAd, actA, Go.Proofs.YthhlklfioipmgaaGreat.ans, hi]
  refine ⟨M.goS who n t s, by show M.steps who n k (M.goT n t s, M.goS who n t s) = _; rw [e1], ?_⟩
  unfold PM.goS; rw [ha]
  simp [PM.asl, axAd, actS, stp, hi]
end
theorem upd_at {f : Nat → Int} {i : Nat} {v : Int} : upd f i v i = v := if_pos rfl
theorem upd_ne {f : Nat → Int} {i j : Nat} {v : Int} (h : j ≠ i) : upd f i v j = f j := if_neg h
/-- A list that goes from word to word. -/
def Lnk (lk : Int → Int) : Int → List Int → Prop
  | w, [] => w = 0
  | w, y :: r => w = y + 1 ∧ Lnk lk (lk y) r
theorem Lnk.congr {lk lk' : Int → Int} : ∀ {r : List Int} {w : Int}, (∀ y ∈ r, lk' y = lk y) → Lnk lk w r → Lnk lk' w r
  | [], _, _, h => h
  | y :: r, w, e, h => ⟨h.1, by rw [e y (by simp)]; exact Lnk.congr (fun z hz => e z (by simp [hz])) h.2⟩
theorem lnk_go (nx : Int → Int) (many : Int) : ∀ (r acc : List Int) (w : Int) (f : Nat), Lnk nx w r → (acc ++ r).Nodup → (∀ y ∈ r, 0 ≤ y ∧ y < many) → r.length < f → lsGo nx many f acc w = (acc ++ r, true)
  | [], acc, w, f + 1, h, _, _, _ => by
    have h : w = 0 := h
    rw [lsGo, if_pos h]
    simp
  | y :: r, acc, w, f + 1, h, hnd, hr, hf => by
    obtain ⟨rfl, h2⟩ := h
    have h0 := hr y (by simp)
    have hin : y ∉ acc := fun hm => (List.nodup_append.1 hnd).2.2 y hm y (by simp) rfl
    rw [lsGo, if_neg (by omega), if_neg (by
      rintro (h | h)
      · rw [show y + 1 - 1 = y by omega] at h; exact hin h
      · omega), show y + 1 - 1 = y by omega]
    have := lnk_go nx many r (acc ++ [y]) (nx y) f h2 (by simpa using hnd) (fun z hz => hr z (by simp [hz])) (by simp at hf; omega)
    rw [this]
    simp
theorem lnk_of (nx : Int → Int) (many w : Int) (r : List Int) (h : Lnk nx w r) (hnd : r.Nodup) (hr : ∀ y ∈ r, 0 ≤ y ∧ y < many) : lsOf nx many w = (r, true) := by
  have hlen := nodup_room many.toNat r hnd (fun x hx => by have := hr x hx; omega)
  exact lnk_go nx many r [] w (many.toNat + 1) h (by simpa using hnd) hr (by omega)

section
variable {σ : Type} {M : PM σ} {who : Int} {n k : Nat} {t : σ} {s : St} {i v : Int}
theorem steps_sw {old : Int} (ha : M.ax t = some (axSw i old v)) (hi : 0 ≤ i ∧ i < n) (hold : s.f i.toNat = old) : ∃ s', M.steps who n (k + 1) (t, s) = M.steps who n k (M.nx t 1, s') ∧ s'.f = upd s.f i.toNat v ∧ s'.bad = s.bad := by
  have e1 : M.goT n t s = M.nx t 1 := by
    unfold PM.goT; rw [ha]
    simp [PM.ans, PM.asl, axSw, actA, Go.Proofs.YthhlklfioipmgaaGreat.ans, hi, hold]
  refine ⟨M.goS who n t s, by show M.steps who n k (M.goT n t s, M.goS who n t s) = _; rw [e1], ?_⟩
  unfold PM.goS; rw [ha]
  simp [PM.asl, axSw, actS, stp, hi, hold]
end
theorem steps_add {σ : Type} (M : PM σ) (who : Int) (n : Nat) : ∀ (k m : Nat) (p : σ × St), M.steps who n (k + m) p = M.steps who n m (M.steps who n k p)
  | 0, m, p => by rw [Nat.zero_add]; rfl
  | k + 1, m, p => by
    rw [show k + 1 + m = (k + m) + 1 by omega]
    show M.steps who n (k + m) _ = M.steps who n m (M.steps who n k _)
    exact steps_add M who n k m _
end Go.Proofs.YthhlklfioipmgaaGreat

namespace Go.Proofs.YthhlklfioipmgaaGreat
open Go Go.RowKit
set_option linter.unusedVariables false
set_option maxRecDepth 100000
set_option linter.unusedSimpArgs false

def Rd.row (g cap : Nat) (l : List Int) : Rd := ⟨[g], fun w => RowAt w g cap l, fun w w' lb h hb hk => h.but hb (hk g (by simp))⟩
inductive QpT where
  | ch (k : Nat)
  | ld
  | pt (t : Int)
  | tr
  | ct
  | over
  | done0
def qpPM (gl : Int → Int) (l : List Int) : PM QpT where
  ax := fun
    | .ch k => some (axSt (gl (l.getD k 0)) (if k + 1 < l.length then qwd (l.getD (k + 1) 0) else 0))
    | .ld => some (axLd 7)
    | .pt t => some (axSt (if t = 0 then 6 else gl (gw t)) (qwd (l.getD 0 0)))
    | .tr => some (axSt 7 (qwd (l.getD (l.length - 1) 0)))
    | .ct => some (axAd 8 l.length)
    | .over => none
    | .done0 => none
  nx := fun
    | .ch k, _ => if k + 1 < l.length then .ch (k + 1) else .ld
    | .ld, v => .pt v
    | .pt _, _ => .tr
    | .tr, _ => .ct
    | .ct, _ => .over
    | t, _ => t
def QpT.linked (n : Nat) : QpT → Nat
  | .ch k => k + 1
  | .done0 => 0
  | _ => n
def QpT.lies : QpT → Bool
  | .tr => true
  | .ct => true
  | .over => true
  | _ => false
def qpFl (who : Int) (cl : Nat) (sl : Value) (l : List Int) : Fl QpT where
  T := 120
  cells := fun t nx => qpCells who nx cl sl (t.linked l.length) t.lies
  fol := fun
    | .ch _ => .untold 71
    | .ld => .told 125
    | .pt _ => .untold 159
    | .tr => .untold 179
    | _ => .nil
  ok := fun
    | .ch k => k < l.length
    | _ => True
theorem ent_qp1 : Ent 71 := fun args w => by kernel_rfl
theorem ent_qp2 : Ent 125 := fun args w => by kernel_rfl
theorem ent_qp3 : Ent 159 := fun args w => by kernel_rfl
theorem ent_qp4 : Ent 179 := fun args w => by kernel_rfl
theorem getD_bd {l : List Int} (hb : ∀ y ∈ l, 0 ≤ y ∧ y ≤ 1000000) (j : Nat) : 0 ≤ l.getD j 0 ∧ l.getD j 0 ≤ 1000000 := by
  rw [List.getD_eq_getElem?_getD]
  rcases Nat.lt_or_ge j l.length with h | h
  · rw [List.getElem?_eq_getElem h]; exact hb _ (List.getElem_mem _)
  · rw [List.getElem?_eq_none h]; exact ⟨Int.le_refl _, by decide⟩
section
variable (who P T G : Int) (cl g cap : Nat) (l : List Int) (hp : 0 ≤ P ∧ P ≤ 64) (hT : 0 ≤ T ∧ T ≤ 65536) (hG : 0 ≤ G ∧ G ≤ 65536) (h0 : 0 < l.length) (hn : l.length ≤ 1000000)
include hp hT hG h0 hn
theorem qp_laws : (qpFl who cl (.slice (some ⟨g, 0, none⟩) l.length cap) l).Laws (qpPM (fun y => wd (20 + P * 264 + T * 3) G 2 y 1) l) ((Rd.lay cl P T G).and (Rd.row g cap l)) who where
  c0 := fun t nx => rfl
  c1 := fun t nx => rfl
  set := fun t nx nx' => rfl
  axok := fun t a hok h => by
    cases t with
    | ch k =>
      cases h
      have := qwd_bd (l.getD (k + 1) 0)
      refine axSt_ok _ _ ?_
      by_cases hk : k + 1 < l.length
      · rw [if_pos hk]; omega
      · rw [if_neg hk]; omega
    | ld => cases h; exact axLd_ok _
    | pt t => cases h; exact axSt_ok _ _ (qwd_bd _)
    | tr => cases h; exact axSt_ok _ _ (qwd_bd _)
    | ct => cases h; exact axAd_ok _ _ (by omega)
    | over => cases h
    | done0 => cases h
  ents := fun t a h => by
    cases t with
    | ch k => exact ent_qp1
    | ld => exact ent_qp2
    | pt t => exact ent_qp3
    | tr => exact ent_qp4
    | ct => exact trivial
    | over => exact trivial
    | done0 => exact trivial
  ok := fun t a v hok h hv => by
    cases t with
    | ch k => by_cases hk : k + 1 < l.length <;> simp [qpPM, qpFl, hk]
    | ld => exact trivial
    | pt t => exact trivial
    | tr => exact trivial
    | ct => exact trivial
    | over => exact trivial
    | done0 => exact trivial
  fol := fun W x t a v hok h hv hB hR hxR => by
    obtain ⟨hR1, hR2⟩ := hR
    have hcx : cl ≠ x := fun e => hxR (by rw [← e]; exact List.mem_append_left _ (List.mem_singleton.2 rfl))
    have hgx : g ≠ x := fun e => hxR (by rw [← e]; exact List.mem_append_right _ (List.mem_singleton.2 rfl))
    cases t with
    | ch k =>
      cases h
      by_cases hk : k + 1 < l.length
      · have e : (qpPM (fun y => wd (20 + P * 264 + T * 3) G 2 y 1) l).nx (.ch k) v = .ch (k + 1) := if_pos hk
        rw [e]
        by_cases hk2 : k + 1 + 1 < l.length
        · have H := qput_chain_more W x cl g cap who l none (k + 1) P T G false hB hR2 hgx hk2 hn hR1 hcx hp hT hG.2
          have e2 : (qpPM (fun y => wd (20 + P * 264 + T * 3) G 2 y 1) l).ax (.ch (k + 1)) = some (axSt (wd (20 + P * 264 + T * 3) G 2 (l.getD (k + 1) 0) 1) (qwd (l.getD (k + 1 + 1) 0))) := by
            show some (axSt _ (if k + 1 + 1 < l.length then _ else _)) = _
            rw [if_pos hk2]
          refine H.mono ?_
          rintro e' w' ⟨hu, hC⟩
          refine ⟨hu, ?_⟩
          unfold Fl.Landed
          rw [e2]
          exact hC
        · have H := qput_chain_last W x cl g cap who l none (k + 1) P T G false hB hR2 hgx (by omega) hn hR1 hcx hp hT hG.2
          have e2 : (qpPM (fun y => wd (20 + P * 264 + T * 3) G 2 y 1) l).ax (.ch (k + 1)) = some (axSt (wd (20 + P * 264 + T * 3) G 2 (l.getD (k + 1) 0) 1) 0) := by
            show some (axSt _ (if k + 1 + 1 < l.length then _ else _)) = _
            rw [if_neg hk2]
          refine H.mono ?_
          rintro e' w' ⟨hu, hC⟩
          refine ⟨hu, ?_⟩
          unfold Fl.Landed
          rw [e2]
          exact hC
      · have e : (qpPM (fun y => wd (20 + P * 264 + T * 3) G 2 y 1) l).nx (.ch k) v = .ld := if_neg hk
        have hkn : k + 1 = l.length := by have : k < l.length := hok; omega
        rw [e]
        have hB' : Blk W x (qpCells who none cl (.slice (some ⟨g, 0, none⟩) l.length cap) l.length false) 120 := by
          have hB1 : Blk W x (qpCells who none cl (.slice (some ⟨g, 0, none⟩) l.length cap) ((k + 1 : Nat) : Int) false) 120 := hB
          rw [hkn] at hB1
          exact hB1
        exact qput_chain_end W x cl g cap who l none false hB' hn
    | ld =>
      cases h
      by_cases hv0 : v = 0
      · subst hv0
        exact qput_lead_none W x cl g cap who l none l.length false hB hR2 h0 hn
      · have H := qput_lead_some W x cl g cap who l none l.length v P T G false hB hR2 h0 hn hv0 hR1 hp hT hG.2
        have e2 : (qpPM (fun y => wd (20 + P * 264 + T * 3) G 2 y 1) l).ax (.pt v) = some (axSt (wd (20 + P * 264 + T * 3) G 2 (gw v) 1) (qwd (l.getD 0 0))) := by
          show some (axSt (if v = 0 then _ else _) _) = _
          rw [if_neg hv0]
        refine H.mono ?_
        rintro e' w' ⟨hu, hC⟩
        refine ⟨hu, ?_⟩
        show Fl.Landed _ _ _ _ _ (QpT.pt v)
        unfold Fl.Landed
        rw [e2]
        exact hC
    | pt t => cases h; exact qput_trail W x cl g cap who l none l.length false hB hR2 hgx h0 hn
    | tr => cases h; exact qput_tell W x cl g cap who l none l.length true hB hn
    | ct => cases h; exact ⟨hB, But.refl _ _⟩
    | over => cases h
    | done0 => cases h
end

/-- How a machine that puts goroutines behind lies in memory: its row is its own. -/
def qpI (who : Int) (cl : Nat) (gl : Int → Int) (l : List Int) : MI QpT := fun w x t L =>
  (0 < l.length ∧ ∃ g cap L', L = g :: L' ∧ g ∉ L' ∧ RowAt w g cap l ∧ (qpFl who cl (.slice (some ⟨g, 0, none⟩) l.length cap) l).I (qpPM gl l) w x t L') ∨
  (l = [] ∧ t = .done0 ∧ ∃ A cap, (A = none → cap = 0) ∧ (qpFl who cl (.slice A 0 cap) []).I (qpPM gl []) w x .done0 L)
theorem qp_good (who P T G : Int) (cl : Nat) (l : List Int) (hp : 0 ≤ P ∧ P ≤ 64) (hT : 0 ≤ T ∧ T ≤ 65536) (hG : 0 ≤ G ∧ G ≤ 65536) (hn : l.length ≤ 1000000) : (qpI who cl (fun y => wd (20 + P * 264 + T * 3) G 2 y 1) l).Good (qpPM (fun y => wd (20 + P * 264 + T * 3) G 2 y 1) l) where
  keep := by
    rintro w w' x t L lb (⟨h0, g, cap, L', rfl, hg, hr, h⟩ | ⟨rfl, rfl, A, cap, ha, h⟩) hbt hk
    · exact .inl ⟨h0, g, cap, L', rfl, hg, hr.but hbt (hk g (by simp)), (Fl.good (qp_laws who P T G cl g cap l hp hT hG h0 hn)).keep h hbt (fun k hm => hk k (by simp [hm]))⟩
    · rw [Fl.at_none rfl] at h
      obtain ⟨h1, h2, rfl⟩ := h
      refine .inr ⟨rfl, rfl, A, cap, ha, ?_⟩
      rw [Fl.at_none rfl]
      exact ⟨h1, h2.but hbt (hk x (by simp)), rfl⟩
  lt := by
    rintro w x t L (⟨h0, g, cap, L', rfl, hg, hr, h⟩ | ⟨rfl, rfl, A, cap, ha, h⟩) k hk
    · simp at hk
      rcases hk with rfl | hk
      · exact hr.lt
      · exact (Fl.good (qp_laws who P T G cl g cap l hp hT hG h0 hn)).lt h k hk
    · rw [Fl.at_none rfl] at h
      obtain ⟨h1, h2, rfl⟩ := h
      simp at hk; subst hk; exact h2.lt
  mem := by
    rintro w x t L (⟨h0, g, cap, L', rfl, hg, hr, h⟩ | ⟨rfl, rfl, A, cap, ha, h⟩)
    · exact List.mem_cons_of_mem _ ((Fl.good (qp_laws who P T G cl g cap l hp hT hG h0 hn)).mem h)
    · rw [Fl.at_none rfl] at h
      obtain ⟨h1, h2, rfl⟩ := h
      simp
  next := by
    rintro w x t L (⟨h0, g, cap, L', rfl, hg, hr, h⟩ | ⟨rfl, rfl, A, cap, ha, h⟩)
    · exact (Fl.good (qp_laws who P T G cl g cap l hp hT hG h0 hn)).next h
    · rw [Fl.at_none rfl] at h
      obtain ⟨h1, h2, rfl⟩ := h
      exact ⟨none, h2.cell 1 rfl, rfl⟩
theorem qp_steps (who P T G : Int) (cl : Nat) (l : List Int) (hp : 0 ≤ P ∧ P ≤ 64) (hT : 0 ≤ T ∧ T ≤ 65536) (hG : 0 ≤ G ∧ G ≤ 65536) (hn : l.length ≤ 1000000) {K : Nat} (hK : StepBy K) : Steps (qpPM (fun y => wd (20 + P * 264 + T * 3) G 2 y 1) l) (qpI who cl (fun y => wd (20 + P * 264 + T * 3) G 2 y 1) l) (Rd.lay cl P T G) K who := by
  rintro w A cp cm b n s x t L (⟨h0, g, cap, L', rfl, hg, hr, h⟩ | ⟨rfl, rfl, A1, cap, ha, h⟩) hR hI hn1 hl hf hcb
  · have hgf := hf g (by simp)
    have hgd := Fl.good (qp_laws who P T G cl g cap l hp hT hG h0 hn)
    refine (Fl.steps (qp_laws who P T G cl g cap l hp hT hG h0 hn) hK w A cp cm b n s x t L' h ⟨hR, hr⟩ hI hn1 hl (fun k hk => ⟨(hf k (by simp [hk])).1, (hf k (by simp [hk])).2.1, fun hm => ?_⟩) ⟨fun hm => ?_, fun hm => ?_⟩).mono ?_
    · rcases List.mem_append.1 hm with hm | hm
      · exact (hf k (by simp [hk])).2.2 hm
      · exact hg ((List.mem_singleton.1 hm) ▸ hk)
    · rcases List.mem_append.1 hm with hm | hm
      · exact hcb.1 hm
      · exact hgf.1 (List.mem_singleton.1 hm).symm
    · rcases List.mem_append.1 hm with hm | hm
      · exact hcb.2 hm
      · exact hgf.2.1 (List.mem_singleton.1 hm).symm
    · rintro e w' ⟨rfl, L2, h1, h2, h3, h4⟩
      refine ⟨rfl, g :: L2, .inl ⟨h0, g, cap, L2, rfl, fun hm => ?_, hr.but h3 ?_, h1⟩, h2, h3.more (by intro k _ hk; simp at hk ⊢; rcases hk with h | h | h <;> simp [h]), fun k hk => ?_⟩
      · rcases h4 g hm with h5 | h5
        · exact hg h5
        · have := hr.lt; omega
      · simp only [List.mem_cons, not_or]
        exact ⟨hgf.1, hgf.2.1, hg⟩
      · simp at hk
        rcases hk with rfl | hk
        · exact .inl (by simp)
        · rcases h4 k hk with h5 | h5
          · exact .inl (by simp [h5])
          · exact .inr h5
  · have hI0 := h
    rw [Fl.at_none rfl] at h
    obtain ⟨h1, h2, rfl⟩ := h
    refine (hK w x _ (fun z w' => z = true ∧ w = w') ((step_none w x cm (h2.cell 1 rfl)).mono ?_)).mono ?_
    · rintro e w' ⟨rfl, rfl⟩; exact ⟨true, rfl, rfl, rfl⟩
    · rintro e w' ⟨z, rfl, rfl, rfl⟩
      exact ⟨rfl, [x], .inr ⟨rfl, rfl, A1, cap, ha, hI0⟩, hI, But.refl _ _, fun k hk => .inl hk⟩
end Go.Proofs.YthhlklfioipmgaaGreat

namespace Go.Proofs.YthhlklfioipmgaaGreat
open Go Go.RowKit
set_option linter.unusedVariables false
set_option maxRecDepth 100000
set_option linter.unusedSimpArgs false

theorem RowAt.sees {w : World} {g cap : Nat} {l : List Int} (h : RowAt w g cap l) : SeesL w (.slice (some ⟨g, 0, none⟩) l.length cap) l :=
  ⟨_, cap, rfl, (fun h => by cases h), fun _ => ⟨g, 0, rfl, h.lt, fun j hj => by rw [Nat.zero_add]; exact h.cell j hj⟩⟩
theorem qput_holds (w : World) (x cl : Nat) (who k : Int) (nx : Option Addr) (sl : Value) (l : List Int) (z : Bool) (h : Blk w x (qpCells who nx cl sl k z) 120) (hs : SeesL w sl l) (hn : l.length ≤ 1000000) :
    Calls Tryz.prog 17 #[.pointer (some ⟨x, 0, none⟩)] w fun e w' => ∃ v, e = .returned v ∧ IntsOn w' w.heap.size v (if z then [] else l) ∧ Below w.heap.size w w' := by
  have c3 := h.cell 3 (v := sl) rfl
  have c5 := h.cell 5 (v := .bool z) rfl
  have HC := lclone_any sl l w hn hs
  clear h hs
  cases z with
  | true =>
    clear HC c3
    go_enter Tryz.func17, Tryz.ntmps17
    go_wp2_with fail
    go_ret
    exact ⟨_, rfl, ⟨World.ownsRow_nil _ _ _ _⟩, Below.refl _ _⟩
  | false =>
    go_enter Tryz.func17, Tryz.ntmps17
    go_wp2_with fail
    go_at_call 69; refine HC.mono ?_; rintro e w1 ⟨v, rfl, h1, h2⟩
    clear HC c3 c5
    go_wp2_with fail
    go_ret
    exact ⟨_, rfl, h1, h2⟩
theorem qput_holds_nil (w : World) : Calls Tryz.prog 17 #[.pointer none] w fun e w' => e = .returned (.slice none 0 0) ∧ w = w' := by
  go_enter Tryz.func17, Tryz.ntmps17
  go_wp2_with fail
  go_ret
  exact ⟨rfl, rfl⟩
theorem qp_holds {who : Int} {cl : Nat} {gl : Int → Int} {l : List Int} {w : World} {x : Nat} {t : QpT} {L : List Nat} (h : qpI who cl gl l w x t L) (hn : l.length ≤ 1000000) :
    Calls Tryz.prog 17 #[.pointer (some ⟨x, 0, none⟩)] w fun e w' => ∃ v, e = .returned v ∧ IntsOn w' w.heap.size v (if t.lies then [] else l) ∧ Below w.heap.size w w' := by
  rcases h with ⟨h0, g, cap, L', rfl, hg, hr, h⟩ | ⟨rfl, rfl, A, cap, ha, h⟩
  · obtain ⟨nx, h1, -⟩ := Fl.blk h
    exact qput_holds w x cl who _ nx _ l t.lies h1 hr.sees hn
  · obtain ⟨nx, h1, -⟩ := Fl.blk h
    exact qput_holds w x cl who _ nx (.slice A 0 cap) [] false h1 ⟨A, cap, rfl, fun e => ⟨rfl, ha e⟩, fun e => absurd e (by simp)⟩ hn
def qpStart (l : List Int) : QpT := if l = [] then .done0 else .ch 0
theorem qp_new_nil (w : World) (cl : Nat) (who : Int) (gl : Int → Int) (sl : Value) (hs : SeesL w sl []) :
    Calls Tryz.prog 12 #[.pointer (some ⟨cl, 0, none⟩), .int .i64 who, sl] w fun e w' => ∃ x L, e = .returned (.pointer (some ⟨x, 0, none⟩)) ∧ qpI who cl gl [] w' x .done0 L ∧ Below w.heap.size w w' ∧ (∀ k ∈ L, w.heap.size ≤ k) ∧ w.heap.size ≤ x := by
  have HC := lclone_any sl [] w (by simp) hs
  obtain ⟨A0, cap0, rfl, -, -⟩ := hs
  go_enter Tryz.func12, Tryz.ntmps12
  go_wp2_with fail
  go_at_call 69; refine HC.mono ?_; rintro e w1 ⟨v, rfl, h1, hb1⟩
  obtain ⟨A, cap, rfl, ha, -⟩ := h1.sees
  have hB := Blk.new w1 #[.int .i64 0, .pointer none, .pointer none, .slice A 0 cap, .int .i64 0, .bool false] 120
  have hO := q_of _ w1.heap.size cl who _ (qpCells who none cl (.slice A 0 cap) 0 false) 120 hB (by simp) rfl
  have HH : Hid (Below w.heap.size w (w1.alloc (.cells #[.int .i64 0, .pointer none, .pointer none, .slice A 0 cap, .int .i64 0, .bool false] 120)) ∧ w.heap.size ≤ w1.heap.size) := ⟨seq hb1 ((Below.refl _ _).alloc (Nat.le_refl _) _), hb1.size⟩
  clear HC h1 hb1 hB
  go_wp2_with fail
  go_at_call 70; refine hO.mono ?_; rintro e w2 ⟨⟨v, rfl⟩, k1, k2, k3⟩
  have HF : Hid (qpI who cl gl [] w2 w1.heap.size .done0 [w1.heap.size] ∧ Below w.heap.size w w2) := by
    refine ⟨.inr ⟨rfl, rfl, A, cap, fun e => (ha e).2, (Fl.at_none rfl).2 ⟨trivial, k1, rfl⟩⟩, ?_⟩
    exact HH.out.1.trans (k2.below (by intro k hk; simp at hk; subst hk; first | exact HH.out.2 | exact HH.out.2.2.2.1) (by have := HH.out.2; rw [World.size_alloc]; omega))
  have hsz := HH.out.2
  clear hO HH k1 k2 k3
  go_wp2_with fail
  go_ret
  exact ⟨_, _, rfl, HF.out.1, HF.out.2, fun k hk => by simp at hk; subst hk; exact hsz, hsz⟩
theorem qp_new_some (w : World) (cl : Nat) (who P T G : Int) (sl : Value) (l : List Int) (hs : SeesL w sl l) (h0 : 0 < l.length) (hn : l.length ≤ 1000000) (hl : Lay w cl P T G) (hp : 0 ≤ P ∧ P ≤ 64) (hT : 0 ≤ T ∧ T ≤ 65536) (hG : 0 ≤ G ∧ G ≤ 65536) :
    Calls Tryz.prog 12 #[.pointer (some ⟨cl, 0, none⟩), .int .i64 who, sl] w fun e w' => ∃ x L, e = .returned (.pointer (some ⟨x, 0, none⟩)) ∧ qpI who cl (fun y => wd (20 + P * 264 + T * 3) G 2 y 1) l w' x (.ch 0) L ∧ Below w.heap.size w w' ∧ (∀ k ∈ L, w.heap.size ≤ k) ∧ w.heap.size ≤ x := by
  have HC := lclone_any sl l w hn hs
  obtain ⟨A0, cap0, rfl, -, -⟩ := hs
  have hd : (0 : Int) < (l.length : Int) := by omega
  have HCH : Hid (∀ (Y : World) (x g cap : Nat), Blk Y x (qpCells who none cl (.slice (some ⟨g, 0, none⟩) l.length cap) 0 false) 120 → RowAt Y g cap l → g ≠ x → Lay Y cl P T G → cl ≠ x → Calls Tryz.prog 71 #[.pointer (some ⟨x, 0, none⟩)] Y fun e w' => (∃ v, e = .returned v) ∧ (qpFl who cl (.slice (some ⟨g, 0, none⟩) l.length cap) l).Landed (qpPM (fun y => wd (20 + P * 264 + T * 3) G 2 y 1) l) Y w' x (.ch 0)) := by
    intro Y x g cap hB hr hgx hl hcx
    by_cases hk2 : 0 + 1 < l.length
    · have H := qput_chain_more Y x cl g cap who l none 0 P T G false hB hr hgx hk2 hn hl hcx hp hT hG.2
      have e2 : (qpPM (fun y => wd (20 + P * 264 + T * 3) G 2 y 1) l).ax (.ch 0) = some (axSt (wd (20 + P * 264 + T * 3) G 2 (l.getD 0 0) 1) (qwd (l.getD (0 + 1) 0))) := by
        show some (axSt _ (if 0 + 1 < l.length then _ else _)) = _
        rw [if_pos hk2]
      refine H.mono ?_
      rintro e' w' ⟨hu, hC⟩
      refine ⟨hu, ?_⟩
      unfold Fl.Landed
      rw [e2]
      exact hC
    · have H := qput_chain_last Y x cl g cap who l none 0 P T G false hB hr hgx (by omega) hn hl hcx hp hT hG.2
      have e2 : (qpPM (fun y => wd (20 + P * 264 + T * 3) G 2 y 1) l).ax (.ch 0) = some (axSt (wd (20 + P * 264 + T * 3) G 2 (l.getD 0 0) 1) 0) := by
        show some (axSt _ (if 0 + 1 < l.length then _ else _)) = _
        rw [if_neg hk2]
      refine H.mono ?_
      rintro e' w' ⟨hu, hC⟩
      refine ⟨hu, ?_⟩
      unfold Fl.Landed
      rw [e2]
      exact hC
  have HLW : Hid (qpFl who cl .nilIface l = qpFl who cl .nilIface l ∧ 0 < l.length ∧ Lay w cl P T G) := ⟨rfl, h0, hl⟩
  have HLL : Hid (∀ g cap, (qpFl who cl (.slice (some ⟨g, 0, none⟩) l.length cap) l).Laws (qpPM (fun y => wd (20 + P * 264 + T * 3) G 2 y 1) l) ((Rd.lay cl P T G).and (Rd.row g cap l)) who) := fun g cap => qp_laws who P T G cl g cap l hp hT hG h0 hn
  generalize (fun y => wd (20 + P * 264 + T * 3) G 2 y 1) = gl at *
  generalize hnn : l.length = n at *
  clear hp hT hG hl
  go_enter Tryz.func12, Tryz.ntmps12
  go_wp2_with fail
  go_at_call 69; refine HC.mono ?_; rintro e w1 ⟨v, rfl, h1, hb1⟩
  obtain ⟨g, cap, rfl, hg0, hr⟩ := h1.row (by omega)
  rw [hnn]
  have hB := Blk.new w1 #[.int .i64 0, .pointer none, .pointer none, .slice (some ⟨g, 0, none⟩) n cap, .int .i64 0, .bool false] 120
  have hO := q_of _ w1.heap.size cl who _ (qpCells who none cl (.slice (some ⟨g, 0, none⟩) n cap) 0 false) 120 hB (by simp) rfl
  have HH : Hid (Below w.heap.size w w1 ∧ RowAt w1 g cap l ∧ Below w.heap.size w (w1.alloc (.cells #[.int .i64 0, .pointer none, .pointer none, .slice (some ⟨g, 0, none⟩) n cap, .int .i64 0, .bool false] 120)) ∧ w.heap.size ≤ w1.heap.size ∧ w.heap.size ≤ g) := ⟨hb1, hr, seq hb1 ((Below.refl _ _).alloc (Nat.le_refl _) _), hb1.size, hg0⟩
  clear HC h1 hb1 hB hr
  go_wp2_with fail
  go_at_call 70; refine hO.mono ?_; rintro e w2 ⟨⟨v, rfl⟩, k1, k2, k3⟩
  have hb2 : Below w.heap.size w w2 := HH.out.2.2.1.trans (k2.below (by intro k hk; simp at hk; subst hk; first | exact HH.out.2 | exact HH.out.2.2.2.1) (by have := HH.out.2.2.2.1; rw [World.size_alloc]; omega))
  have hgl := HH.out.2.1.lt
  have hr2 : RowAt w2 g cap l := (HH.out.2.1.below ((Below.refl _ _).alloc (Nat.le_refl _) _)).but k2 (by simp; omega)
  have hll := HLW.out.2.2.lt
  have hsz := HH.out.2.2.2.1
  have hCh := HCH.out w2 w1.heap.size g cap k1 hr2 (by omega) (HLW.out.2.2.below hb2 hll) (by omega)
  have HF2 : Hid (Below w.heap.size w w2 ∧ RowAt w2 g cap l ∧ w1.heap.size < w2.heap.size ∧ g < w1.heap.size ∧ w.heap.size ≤ g) := ⟨hb2, hr2, k1.lt, hgl, HH.out.2.2.2.2⟩
  clear hO HH k1 k2 k3 hr2 hb2 HCH
  go_wp2_with fail
  go_at_call 71; refine hCh.mono ?_; rintro e w3 ⟨⟨v2, rfl⟩, hC⟩
  have HF : Hid (∃ L, qpI who cl gl l w3 w1.heap.size (.ch 0) L ∧ Below w.heap.size w w3 ∧ ∀ k ∈ L, w.heap.size ≤ k) := by
    obtain ⟨-, ⟨L', i1, i2⟩, i3⟩ := Fl.land (HLL.out g cap) hC (by show 0 < l.length; rw [hnn]; exact HLW.out.2.1) HF2.out.2.2.1
    refine ⟨g :: L', .inl ⟨by rw [hnn]; exact HLW.out.2.1, g, cap, L', rfl, fun hm => ?_, HF2.out.2.1.but i3 (by have := HF2.out.2.2.2.1; simp; omega), by rw [hnn]; exact i1⟩, HF2.out.1.trans (i3.below (by simp; omega) HF2.out.1.size), fun k hk => ?_⟩
    · have := HF2.out.2.2.2.1
      rcases i2 g hm with h | h
      · omega
      · have := HF2.out.2.2.1; omega
    · have h3 := HF2.out.1.size
      simp at hk
      rcases hk with rfl | hk
      · exact HF2.out.2.2.2.2
      · rcases i2 k hk with rfl | h
        · exact hsz
        · omega
  clear hCh hC HF2
  go_wp2_with fail
  go_ret
  obtain ⟨L, f1, f2, f3⟩ := HF.out
  exact ⟨_, L, rfl, f1, f2, f3, hsz⟩
end Go.Proofs.YthhlklfioipmgaaGreat

namespace Go.Proofs.YthhlklfioipmgaaGreat
open Go Go.RowKit
set_option linter.unusedVariables false
set_option maxRecDepth 100000
set_option linter.unusedSimpArgs false

theorem isD_qpull (v : Value) (xT : TypeId) (w : World) : (Instr.typeAssert (.iface 64 v) xT 217 true).run Tryz.prog w = .ok (.tuple #[.iface 64 v, .bool true]) w := run_typeAssert_hasB Tryz.underlying217 (by kernel_rfl) v xT w
theorem eqIIn_qpull (w : World) (fuel : Nat) (v : Value) : (Op.equalIn (fuel + 1) 181 (.iface 64 v) .nilIface).run Tryz.prog w = .ok false w := by
  simp only [Op.equalIn, Sem.run_bind, run_underlying Tryz.underlying181, Result.andThen_ok]
  rfl
theorem eqI_qpull (v : Value) (w : World) : (binOp .eql 181 (.iface 64 v) .nilIface).run Tryz.prog w = .ok (.bool false) w := by
  have h := eqIIn_qpull w 9999 v
  simp only [binOp]
  simp [Op.equal, Op.maxDepth, h]
theorem neqI_qpull (v : Value) (w : World) : (binOp .neq 181 (.iface 64 v) .nilIface).run Tryz.prog w = .ok (.bool true) w := by
  have h := eqIIn_qpull w 9999 v
  simp only [binOp]
  simp [Op.equal, Op.maxDepth, h]
theorem isdone_qpull (w : World) (x : Nat) (nx : Option Addr) (hc : w.cell? ⟨x, 1, none⟩ = some (.pointer nx)) :
    Calls Tryz.prog 177 #[.iface 64 (.pointer (some ⟨x, 0, none⟩))] w fun e w' => e = .returned (.bool nx.isNone) ∧ w = w' := by
  have h1 := isD_qpull
  have h2 := eqI_qpull
  have hD := done_qpull w x nx hc
  go_enter Tryz.func177, Tryz.ntmps177
  go_wp2_with fail
  go_at_call 27; refine hD.mono ?_; rintro e w1 ⟨rfl, rfl⟩
  go_wp2_with fail
  go_ret
  exact ⟨rfl, rfl⟩

theorem frun0_qpull (w : World) (c x : Nat) (cs : Array Value) (T : TypeId) (fv : Value) (nx : Addr) (h : Blk w c cs T) (hs : 2 ≤ cs.size) (hf : Fv fv) (hxc : x ≠ c) (hx : w.cell? ⟨x, 1, none⟩ = some (.pointer (some nx))) :
    Calls Tryz.prog 157 #[.pointer (some ⟨c, 0, none⟩), .iface 64 (.pointer (some ⟨x, 0, none⟩)), fv] w fun e w' => (∃ v, e = .returned v) ∧ ∃ q g, CameBox w w' c cs T (fun v => comCells 0 0 0 0 0 false (.iface 64 (.pointer (some ⟨x, 0, none⟩))) v false false) fv q g := by
  have c1 := h.cell 1 (Array.getElem?_eq_getElem (by omega))
  have f1 := h.fro 1
  have hlt := h.lt
  have h1 := h.set 1 (.pointer none)
  have c2 := h1.cell 1 (v := .pointer none) (by rw [Array.getElem?_setIfInBounds, if_pos rfl, if_pos (by omega)])
  have f2 := h1.fro 1
  have hB1 : But [c] w (w.setCell ⟨c, 1, none⟩ (.pointer none)) := (But.refl _ w).set (g := c) (.inl (by simp)) 1 _
  have hsz : (w.setCell ⟨c, 1, none⟩ (.pointer none)).heap.size = w.heap.size := size_set _ _ _
  have hD := isdone_qpull (w.setCell ⟨c, 1, none⟩ (.pointer none)) x (some nx) (by
    rw [show (w.setCell ⟨c, 1, none⟩ (.pointer none)).cell? ⟨x, 1, none⟩ = w.cell? ⟨x, 1, none⟩ by simp only [World.cell?]; rw [heap_set_ne w hxc 1 _]]
    exact hx)
  have hU := fun w => untold_any w fv hf
  have HH : Hid (Blk (w.setCell ⟨c, 1, none⟩ (.pointer none)) c (cs.setIfInBounds 1 (.pointer none)) T ∧ But [c] w (w.setCell ⟨c, 1, none⟩ (.pointer none))) := ⟨h1, hB1⟩
  clear h h1 hB1 hx
  go_enter Tryz.func157, Tryz.ntmps157
  go_wp2_with fail
  generalize w.setCell ⟨c, 1, none⟩ (.pointer none) = W at *
  go_at_call 177; refine hD.mono ?_; rintro e w1 ⟨rfl, rfl⟩
  go_wp2_with fail
  go_at_call 160; refine (hU _).mono ?_; rintro e w2 ⟨rfl, rfl⟩
  have hg := Blk.new W #[fv] 1
  have hW2 : Blk (W.alloc (.cells #[fv] 1)) c (cs.setIfInBounds 1 (.pointer none)) T := HH.out.1.al _
  have hsz2 : Hid ((W.alloc (.cells #[fv] 1)).heap.size = w.heap.size + 1) := (by rw [World.size_alloc, hsz] : (W.alloc (.cells #[fv] 1)).heap.size = w.heap.size + 1)
  have hB2 : But [c] w (W.alloc (.cells #[fv] 1)) := HH.out.2.alloc _
  rw [hsz] at hg ⊢
  have HG : Hid (Blk (W.alloc (.cells #[fv] 1)) w.heap.size #[fv] 1 ∧ Blk (W.alloc (.cells #[fv] 1)) c (cs.setIfInBounds 1 (.pointer none)) T ∧ But [c] w (W.alloc (.cells #[fv] 1))) := ⟨hg, hW2, hB2⟩
  have c3 := hW2.cell 1 (v := .pointer none) (by rw [Array.getElem?_setIfInBounds, if_pos rfl, if_pos (by omega)])
  have f3 := hW2.fro 1
  clear hD hU c1 f1 c2 f2 hg hW2 hB2
  generalize W.alloc (.cells #[fv] 1) = W2 at *
  have hlt2 : c < W2.heap.size := by have := hsz2.out; omega
  clear hsz HH
  go_wp2_with fail
  go_end0
  obtain ⟨g1, g2, g3⟩ := HG.out
  have hsz2 := hsz2.out
  refine ⟨⟨_, rfl⟩, W2.heap.size, w.heap.size, ⟨⟨by omega, ?_, ?_, ?_⟩, Nat.le_refl _, ?_, by omega⟩⟩
  · have := (g2.set 1 (.pointer (some ⟨W2.heap.size, 0, none⟩))).al (.cells (comCells 0 0 0 0 0 false (.iface 64 (.pointer (some ⟨x, 0, none⟩))) (.func (.func 180) #[] #[.pointer (some ⟨w.heap.size, 0, none⟩)]) false false) 183)
    rw [set_twice] at this
    exact this
  · have := Blk.new (W2.setCell ⟨c, 1, none⟩ (.pointer (some ⟨W2.heap.size, 0, none⟩))) (comCells 0 0 0 0 0 false (.iface 64 (.pointer (some ⟨x, 0, none⟩))) (.func (.func 180) #[] #[.pointer (some ⟨w.heap.size, 0, none⟩)]) false false) 183
    rw [size_set] at this
    exact this
  · exact (g3.set (g := c) (.inl (by simp)) 1 _).alloc _
  · exact (g1.setne (by omega) 1 _).al _

theorem act0_qpull (w : World) (q cm x : Nat) (who : Int) (thn : Value) (z : Bool) (Mw : World → Prop) (hq : Blk w q (comCells 0 0 0 0 0 false (.iface 64 (.pointer (some ⟨x, 0, none⟩))) thn false false) 183)
    (hS : ∀ W, But [q] w W → Blk W q (comCells 0 0 0 0 0 false (.iface 64 (.pointer (some ⟨x, 0, none⟩))) thn false true) 183 → Calls Tryz.prog 29 #[.pointer (some ⟨x, 0, none⟩), .pointer (some ⟨cm, 0, none⟩)] W fun e w' => e = .returned (.bool z) ∧ Blk w' q (comCells 0 0 0 0 0 false (.iface 64 (.pointer (some ⟨x, 0, none⟩))) thn false true) 183 ∧ Mw w') :
    Calls Tryz.prog 134 #[.pointer (some ⟨q, 0, none⟩), .int .i64 who, .pointer (some ⟨cm, 0, none⟩)] w fun e w' => e = .returned (.tuple #[.int .u64 0, .bool z]) ∧ ∃ w1, Mw w1 ∧ Blk w1 q (comCells 0 0 0 0 0 false (.iface 64 (.pointer (some ⟨x, 0, none⟩))) thn false true) 183 ∧ w' = w1.setCell ⟨q, 9, none⟩ (.bool false) := by
  have hn := neqI_qpull
  have hbm := Blk.new w #[.pointer (some ⟨cm, 0, none⟩)] 30
  have hq1 := hq.al (.cells #[.pointer (some ⟨cm, 0, none⟩)] 30)
  have hqlt := hq.lt
  have k6 := hq1.cell 6 (v := .iface 64 (.pointer (some ⟨x, 0, none⟩))) rfl
  have hask : Calls Tryz.prog 161 #[.pointer (some ⟨q, 0, none⟩), .func (.func 162) #[] #[.pointer (some ⟨w.heap.size, 0, none⟩)]] (w.alloc (.cells #[.pointer (some ⟨cm, 0, none⟩)] 30)) fun e w' => e = .returned (.bool z) ∧ ∃ w1, Mw w1 ∧ Blk w1 q (comCells 0 0 0 0 0 false (.iface 64 (.pointer (some ⟨x, 0, none⟩))) thn false true) 183 ∧ w' = w1.setCell ⟨q, 9, none⟩ (.bool false) := by
    have hne : w.heap.size ≠ q := by omega
    have k9 := hq1.cell 9 (v := .bool false) rfl
    have f9 := hq1.fro 9
    have hq2 := hq1.set 9 (.bool true)
    have l6 := hq2.cell 6 (v := .iface 64 (.pointer (some ⟨x, 0, none⟩))) rfl
    have hb2 := hbm.setne hne 9 (.bool true)
    have b0 := hb2.cell 0 (v := .pointer (some ⟨cm, 0, none⟩)) rfl
    have hst := hS ((w.alloc (.cells #[.pointer (some ⟨cm, 0, none⟩)] 30)).setCell ⟨q, 9, none⟩ (.bool true)) (((But.refl [q] w).alloc _).set (g := q) (.inl (by simp)) 9 _) hq2
    have hrun : Calls Tryz.prog 162 #[.iface 64 (.pointer (some ⟨x, 0, none⟩)), .pointer (some ⟨w.heap.size, 0, none⟩)] ((w.alloc (.cells #[.pointer (some ⟨cm, 0, none⟩)] 30)).setCell ⟨q, 9, none⟩ (.bool true)) fun e w' => e = .returned (.bool z) ∧ Blk w' q (comCells 0 0 0 0 0 false (.iface 64 (.pointer (some ⟨x, 0, none⟩))) thn false true) 183 ∧ Mw w' := by
      clear hS hq hbm hq1 k6 k9 f9 hq2 l6 hb2 hqlt hne
      generalize (w.alloc (.cells #[.pointer (some ⟨cm, 0, none⟩)] 30)).setCell ⟨q, 9, none⟩ (.bool true) = W at *
      go_enter Tryz.func162, Tryz.ntmps162
      go_wp2_with fail
      go_at_call 29; refine hst.mono ?_; rintro e w1 ⟨rfl, h1, h2⟩
      go_wp2_with fail
      go_ret
      exact ⟨rfl, h1, h2⟩
    clear hS hq hbm hq1 hq2 hb2 hst b0 hqlt
    go_enter Tryz.func161, Tryz.ntmps161
    go_wp2_with fail
    generalize (w.alloc (.cells #[.pointer (some ⟨cm, 0, none⟩)] 30)).setCell ⟨q, 9, none⟩ (.bool true) = W at *
    go_at_call 162; refine hrun.mono ?_; rintro e w1 ⟨rfl, h1, h2⟩
    have m9 := h1.cell 9 (v := .bool true) rfl
    have g9 := h1.fro 9
    clear hrun l6 k9 f9 k6
    go_wp2_with fail
    go_ret
    exact ⟨rfl, w1, h2, h1, rfl⟩
  clear hS hq hq1 hbm
  go_enter Tryz.func134, Tryz.ntmps134
  go_wp2_with fail
  generalize w.alloc (.cells #[.pointer (some ⟨cm, 0, none⟩)] 30) = W at *
  go_at_call 161; refine hask.mono ?_; rintro e w1 ⟨rfl, h1⟩
  clear hask k6
  go_wp2_with fail
  go_returns
  exact ⟨rfl, h1⟩

theorem frun_qpull : RunCome 64 := fun w c y cs T fv nx h hs hf hyc hx => frun0_qpull w c y cs T fv nx h hs hf hyc hx
theorem act_qpull : ActRun 64 29 := fun w q cm y g who z Mw hq hS => act0_qpull w q cm y who _ z Mw hq hS
end Go.Proofs.YthhlklfioipmgaaGreat

namespace Go.Proofs.YthhlklfioipmgaaGreat
open Go Go.RowKit
set_option linter.unusedVariables false
set_option maxRecDepth 100000
set_option linter.unusedSimpArgs false

inductive PlT where
  | ld
  | lnk (y : Int)
  | un (y l : Int)
  | tl (y : Int)
  | ct (y l : Int)
  | none'
  | over (y l : Int)
def plPM (gl : Int → Int) : PM PlT where
  ax := fun
    | .ld => some (axLd 6)
    | .lnk y => some (axLd (gl y))
    | .un _ l => some (axSt 6 l)
    | .tl _ => some (axSt 7 0)
    | .ct _ _ => some (axAd 8 4294967295)
    | .none' => none
    | .over _ _ => none
  nx := fun
    | .ld, v => if v = 0 then .none' else .lnk (gw v)
    | .lnk y, v => .un y v
    | .un y l, _ => if l = 0 then .tl y else .ct y l
    | .tl y, _ => .ct y 0
    | .ct y l, _ => .over y l
    | t, _ => t
def PlT.g : PlT → Int
  | .lnk y => y
  | .un y _ => y
  | .tl y => y
  | .ct y _ => y
  | .over y _ => y
  | _ => 0
def PlT.l : PlT → Int
  | .un _ l => l
  | .ct _ l => l
  | .over _ l => l
  | _ => 0
def PlT.pulled : PlT → Bool
  | .tl _ => true
  | .ct _ _ => true
  | .over _ _ => true
  | _ => false
/-- Which one was pulled. -/
def PlT.obs (t : PlT) : Int := if t.pulled then t.g else -1
def plCells (who : Int) (nx : Option Addr) (cl : Nat) (g l : Int) (z : Bool) : Array Value := #[.int .i64 who, .pointer nx, .pointer (some ⟨cl, 0, none⟩), .int .i64 g, .int .u64 l, .bool z]
def plFl (who : Int) (cl : Nat) : Fl PlT where
  T := 138
  cells := fun t nx => plCells who nx cl t.g t.l t.pulled
  fol := fun
    | .ld => .told 92
    | .lnk _ => .told 136
    | .un _ _ => .untold 165
    | .tl _ => .untold 182
    | .ct _ _ => .nil
    | _ => .nil
  ok := fun
    | .un _ l => 0 ≤ l ∧ l ≤ 18446744073709551615
    | _ => True
theorem ent_pl1 : Ent 92 := fun args w => by kernel_rfl
theorem ent_pl2 : Ent 136 := fun args w => by kernel_rfl
theorem ent_pl3 : Ent 165 := fun args w => by kernel_rfl
theorem ent_pl4 : Ent 182 := fun args w => by kernel_rfl

theorem pull_tell (w : World) (x cl : Nat) (who g l : Int) (z : Bool) (nx : Option Addr) (h : Blk w x (plCells who nx cl g l z) 138) :
    Calls Tryz.prog 182 #[.pointer (some ⟨x, 0, none⟩)] w fun e w' => (∃ v, e = .returned v) ∧ Came w w' x (plCells who nx cl g l z) 138 (axAd 8 4294967295) .nil := by
  have H := q_count w x cl _ 138 4294967295 h (by simp [plCells]) rfl
  clear h
  go_enter Tryz.func182, Tryz.ntmps182
  go_wp2_with fail
  go_at_call 196; refine H.mono ?_; rintro e w1 ⟨⟨v, rfl⟩, hC⟩
  clear H
  go_wp2_with fail
  go_end0
  exact ⟨⟨_, rfl⟩, hC⟩
theorem pull_unlink (w : World) (x cl : Nat) (who g l v : Int) (z : Bool) (nx : Option Addr) (h : Blk w x (plCells who nx cl g l z) 138) :
    Calls Tryz.prog 136 #[.pointer (some ⟨x, 0, none⟩), .int .u64 v] w fun e w' => (∃ v, e = .returned v) ∧ Came w w' x (plCells who nx cl g v z) 138 (axSt 6 v) (.untold 165) := by
  have c4 := h.cell 4 (v := .int .u64 l) rfl
  have f4 := h.fro 4
  have hlt := h.lt
  have h' : Blk _ x (plCells who nx cl g v z) 138 := h.set 4 (.int .u64 v)
  have hB : But [x] w (w.setCell ⟨x, 4, none⟩ (.int .u64 v)) := (But.refl _ w).set (g := x) (.inl (by simp)) 4 _
  have H := q_store6 _ x cl 165 _ 138 v h' (by simp [plCells]) rfl
  clear h h'
  go_enter Tryz.func136, Tryz.ntmps136
  go_wp2_with fail
  go_at_call 164; refine H.mono ?_; rintro e w1 ⟨⟨u, rfl⟩, hC⟩
  have hC2 := hC.before hB
  clear H hC hB c4 f4
  go_wp2_with fail
  go_end0
  exact ⟨⟨_, rfl⟩, hC2⟩
theorem pull_have_last (w : World) (x cl : Nat) (who g : Int) (z : Bool) (nx : Option Addr) (h : Blk w x (plCells who nx cl g 0 z) 138) :
    Calls Tryz.prog 165 #[.pointer (some ⟨x, 0, none⟩)] w fun e w' => (∃ v, e = .returned v) ∧ Came w w' x (plCells who nx cl g 0 true) 138 (axSt 7 0) (.untold 182) := by
  have c5 := h.cell 5 (v := .bool z) rfl
  have f5 := h.fro 5
  have hlt := h.lt
  have h' : Blk _ x (plCells who nx cl g 0 true) 138 := h.set 5 (.bool true)
  have hB : But [x] w (w.setCell ⟨x, 5, none⟩ (.bool true)) := (But.refl _ w).set (g := x) (.inl (by simp)) 5 _
  have H := q_store7 _ x cl 182 _ 138 0 h' (by simp [plCells]) rfl
  have k4 := h'.cell 4 (v := .int .u64 0) rfl
  clear h h'
  go_enter Tryz.func165, Tryz.ntmps165
  go_wp2_with fail
  go_at_call 164; refine H.mono ?_; rintro e w1 ⟨⟨u, rfl⟩, hC⟩
  have hC2 := hC.before hB
  clear H hC hB c5 f5 k4
  go_wp2_with fail
  refine bodyPost_ret (results_none rfl _ _ _) rfl ?_
  exact ⟨⟨_, rfl⟩, hC2⟩
theorem pull_have_more (w : World) (x cl : Nat) (who g l : Int) (z : Bool) (nx : Option Addr) (h : Blk w x (plCells who nx cl g l z) 138) (hl : l ≠ 0) :
    Calls Tryz.prog 165 #[.pointer (some ⟨x, 0, none⟩)] w fun e w' => (∃ v, e = .returned v) ∧ Came w w' x (plCells who nx cl g l true) 138 (axAd 8 4294967295) .nil := by
  have c5 := h.cell 5 (v := .bool z) rfl
  have f5 := h.fro 5
  have hlt := h.lt
  have h' : Blk _ x (plCells who nx cl g l true) 138 := h.set 5 (.bool true)
  have hB : But [x] w (w.setCell ⟨x, 5, none⟩ (.bool true)) := (But.refl _ w).set (g := x) (.inl (by simp)) 5 _
  have H := pull_tell _ x cl who g l true nx h'
  have k4 := h'.cell 4 (v := .int .u64 l) rfl
  have hd : (l == 0) = false := by simpa using hl
  clear h h'
  go_enter Tryz.func165, Tryz.ntmps165
  go_wp2_with fail
  go_at_call 182; refine H.mono ?_; rintro e w1 ⟨⟨u, rfl⟩, hC⟩
  have hC2 := hC.before hB
  clear H hC hB c5 f5 k4
  go_wp2_with fail
  go_end0
  exact ⟨⟨_, rfl⟩, hC2⟩
theorem pull_choose_none (w : World) (x : Nat) :
    Calls Tryz.prog 92 #[.pointer (some ⟨x, 0, none⟩), .int .u64 0] w fun e w' => (∃ v, e = .returned v) ∧ w = w' := by
  go_enter Tryz.func92, Tryz.ntmps92
  go_wp2_with fail
  refine bodyPost_ret (results_none rfl _ _ _) rfl ?_
  exact ⟨⟨_, rfl⟩, rfl⟩
set_option maxHeartbeats 4000000 in
theorem pull_choose (w : World) (x cl : Nat) (who g l v P T G : Int) (z : Bool) (nx : Option Addr) (h : Blk w x (plCells who nx cl g l z) 138) (hl : Lay w cl P T G) (hxc : cl ≠ x) (hp : 0 ≤ P ∧ P ≤ 64) (hT : 0 ≤ T ∧ T ≤ 65536) (hG : G ≤ 65536) (hv : v ≠ 0) :
    Calls Tryz.prog 92 #[.pointer (some ⟨x, 0, none⟩), .int .u64 v] w fun e w' => (∃ v, e = .returned v) ∧ Came w w' x (plCells who nx cl (gw v) l z) 138 (axLd (wd (20 + P * 264 + T * 3) G 2 (gw v) 1)) (.told 136) := by
  have c3 := h.cell 3 (v := .int .i64 g) rfl
  have f3 := h.fro 3
  have hlt := h.lt
  obtain ⟨zz, hz⟩ : ∃ zz, IntKind.u64.wrap (v - 1) = zz := ⟨_, rfl⟩
  obtain ⟨y, hy⟩ : ∃ y, IntKind.i64.wrap zz = y := ⟨_, rfl⟩
  have hgw : gw v = y := by unfold gw; rw [hz, hy]
  rw [hgw]
  have h' : Blk _ x (plCells who nx cl y l z) 138 := h.set 3 (.int .i64 y)
  have hB : But [x] w (w.setCell ⟨x, 3, none⟩ (.int .i64 y)) := (But.refl _ w).set (g := x) (.inl (by simp)) 3 _
  have hl' : Lay (w.setCell ⟨x, 3, none⟩ (.int .i64 y)) cl P T G := (hB.block cl hl.lt (by simpa using hxc)).trans hl
  have hd : (v == 0) = false := by simpa using hv
  generalize hV : w.setCell ⟨x, 3, none⟩ (.int .i64 y) = V at h' hB hl'
  have d3 := h'.cell 3 (v := .int .i64 y) rfl
  have hW := q_link V.drew x cl _ 138 P T G y h'.drew rfl (hl'.below ((Below.refl _ _).drew) hl'.lt) hp hT hG
  have HS : Hid (∀ w4, Below V.drew.heap.size V.drew w4 → Calls Tryz.prog 114 #[.pointer (some ⟨x, 0, none⟩), .int .i64 (wd (20 + P * 264 + T * 3) G 2 y 1), .func (.func 136) #[.pointer (some ⟨x, 0, none⟩)] #[]] w4 fun e w' => (∃ v, e = .returned v) ∧ Came w w' x (plCells who nx cl y l z) 138 (axLd (wd (20 + P * 264 + T * 3) G 2 y 1)) (.told 136)) := by
    intro w4 k
    have hB4 : But [x] w w4 := hB.trans (((But.refl [x] V).drew).trans (But.of_below k))
    have h4 : Blk w4 x (plCells who nx cl y l z) 138 := h'.drew.but (But.of_below (l := []) k) (by simp)
    refine (came_load w4 x _ 138 h4 (by simp [plCells]) _ 136).mono ?_
    rintro e w5 ⟨hv, hC⟩
    exact ⟨hv, hC.before hB4⟩
  generalize wd (20 + P * 264 + T * 3) G 2 y 1 = at' at *
  clear h h' hB hl hl' hp hT hG hxc hv hgw
  go_enter Tryz.func92, Tryz.ntmps92
  go_wp2_with fail
  try rw [hV]
  clear hV c3 f3
  go_region_with (first | (go_at_call 128; refine hW.mono ?_; rintro e w4 ⟨rfl, k⟩) | (go_at_call 114; refine (HS.out _ k).mono ?_; rintro e w5 ⟨⟨v, rfl⟩, hC⟩))
  all_goals
    clear hW k HS d3
    go_wp2_with fail
    go_end0
    exact ⟨⟨_, rfl⟩, hC⟩

theorem pl_laws (who P T G : Int) (cl : Nat) (hp : 0 ≤ P ∧ P ≤ 64) (hT : 0 ≤ T ∧ T ≤ 65536) (hG : 0 ≤ G ∧ G ≤ 65536) : (plFl who cl).Laws (plPM (fun y => wd (20 + P * 264 + T * 3) G 2 y 1)) (Rd.lay cl P T G) who where
  c0 := fun t nx => rfl
  c1 := fun t nx => rfl
  set := fun t nx nx' => rfl
  axok := fun t a hok h => by
    cases t with
    | ld => cases h; exact axLd_ok _
    | lnk y => cases h; exact axLd_ok _
    | un y l => cases h; exact axSt_ok _ _ hok
    | tl y => cases h; exact axSt_ok _ _ (by omega)
    | ct y l => cases h; exact axAd_ok _ _ (by omega)
    | none' => cases h
    | over y l => cases h
  ents := fun t a h => by
    cases t with
    | ld => exact ent_pl1
    | lnk y => exact ent_pl2
    | un y l => exact ent_pl3
    | tl y => exact ent_pl4
    | ct y l => exact trivial
    | none' => exact trivial
    | over y l => exact trivial
  ok := fun t a v hok h hv => by
    cases t with
    | ld => by_cases h0 : v = 0 <;> simp [plPM, plFl, h0]
    | lnk y => exact hv
    | un y l => by_cases h0 : l = 0 <;> simp [plPM, plFl, h0]
    | tl y => exact trivial
    | ct y l => exact trivial
    | none' => exact trivial
    | over y l => exact trivial
  fol := fun W x t a v hok h hv hB hR hxR => by
    have hcx : cl ≠ x := fun e => hxR (by rw [e]; exact List.mem_singleton.2 rfl)
    cases t with
    | ld =>
      cases h
      by_cases h0 : v = 0
      · subst h0
        refine (pull_choose_none W x).mono ?_
        rintro e w' ⟨hu, rfl⟩
        exact ⟨hu, hB, But.refl _ _⟩
      · have e : (plPM (fun y => wd (20 + P * 264 + T * 3) G 2 y 1)).nx .ld v = .lnk (gw v) := if_neg h0
        rw [e]
        exact pull_choose W x cl who 0 0 v P T G false none hB hR hcx hp hT hG.2 h0
    | lnk y => cases h; exact pull_unlink W x cl who y 0 v false none hB
    | un y l =>
      cases h
      by_cases h0 : l = 0
      · subst h0
        exact pull_have_last W x cl who y false none hB
      · have e : (plPM (fun y => wd (20 + P * 264 + T * 3) G 2 y 1)).nx (.un y l) v = .ct y l := if_neg h0
        rw [e]
        exact pull_have_more W x cl who y l false none hB h0
    | tl y => cases h; exact pull_tell W x cl who y 0 true none hB
    | ct y l => cases h; exact ⟨hB, But.refl _ _⟩
    | none' => cases h
    | over y l => cases h

theorem pl_new (w : World) (cl : Nat) (who : Int) (gl : Int → Int) :
    Calls Tryz.prog 25 #[.pointer (some ⟨cl, 0, none⟩), .int .i64 who] w fun e w' => ∃ x L, e = .returned (.pointer (some ⟨x, 0, none⟩)) ∧ (plFl who cl).I (plPM gl) w' x .ld L ∧ Below w.heap.size w w' ∧ (∀ k ∈ L, w.heap.size ≤ k) ∧ w.heap.size ≤ x := by
  have hB := Blk.new w #[.int .i64 0, .pointer none, .pointer none, .int .i64 0, .int .u64 0, .bool false] 138
  have hb : Below w.heap.size w (w.alloc (.cells #[.int .i64 0, .pointer none, .pointer none, .int .i64 0, .int .u64 0, .bool false] 138)) := (Below.refl _ _).alloc (Nat.le_refl _) _
  have hO := q_of _ w.heap.size cl who _ (plCells who none cl 0 0 false) 138 hB (by simp) rfl
  have HH : Hid (Below w.heap.size w (w.alloc (.cells #[.int .i64 0, .pointer none, .pointer none, .int .i64 0, .int .u64 0, .bool false] 138))) := hb
  have hsz := World.size_alloc w (.cells #[.int .i64 0, .pointer none, .pointer none, .int .i64 0, .int .u64 0, .bool false] 138)
  clear hB hb
  go_enter Tryz.func25, Tryz.ntmps25
  go_wp2_with fail
  go_at_call 70; refine hO.mono ?_; rintro e w1 ⟨⟨v, rfl⟩, h1, h2, h3⟩
  have hb1 : Hid (Below w.heap.size w w1) := HH.out.trans (h2.below (by simp) (by rw [hsz]; omega))
  have hL := q_load6 w1 w.heap.size cl 92 _ 138 h1 (by simp [plCells]) rfl
  have hlt := h1.lt
  clear hO h2 HH
  go_wp2_with fail
  go_at_call 91; refine hL.mono ?_; rintro e w2 ⟨⟨v2, rfl⟩, hC⟩
  obtain ⟨q, Lc, c1, c2, c3, c4⟩ := hC
  have hF : Hid ((plFl who cl).I (plPM gl) w2 w.heap.size .ld (w.heap.size :: Lc) ∧ Below w.heap.size w w2 ∧ ∀ k ∈ w.heap.size :: Lc, w.heap.size ≤ k) := by
    refine ⟨⟨trivial, q, Lc, c1, c2, fun hm => by have := c4 _ hm; omega, rfl⟩, hb1.out.trans (c3.below (by simp) hb1.out.size), fun k hk => ?_⟩
    simp at hk
    rcases hk with rfl | hk
    · exact Nat.le_refl _
    · have := c4 k hk; omega
  clear hL c1 c2 c3 c4
  go_wp2_with fail
  go_ret
  exact ⟨w.heap.size, w.heap.size :: Lc, rfl, hF.out.1, hF.out.2.1, hF.out.2.2, Nat.le_refl _⟩
theorem pull_g (w : World) (x cl : Nat) (who g l : Int) (z : Bool) (nx : Option Addr) (h : Blk w x (plCells who nx cl g l z) 138) :
    Calls Tryz.prog 28 #[.pointer (some ⟨x, 0, none⟩)] w fun e w' => e = .returned (.int .i64 (if z then g else -1)) ∧ w = w' := by
  have c3 := h.cell 3 (v := .int .i64 g) rfl
  have c5 := h.cell 5 (v := .bool z) rfl
  clear h
  cases z with
  | false =>
    go_enter Tryz.func28, Tryz.ntmps28
    go_wp2_with fail
    go_ret
    exact ⟨rfl, rfl⟩
  | true =>
    go_enter Tryz.func28, Tryz.ntmps28
    go_wp2_with fail
    go_ret
    exact ⟨rfl, rfl⟩
theorem pull_g_nil (w : World) : Calls Tryz.prog 28 #[.pointer none] w fun e w' => e = .returned (.int .i64 (-1)) ∧ w = w' := by
  go_enter Tryz.func28, Tryz.ntmps28
  go_wp2_with fail
  go_ret
  exact ⟨rfl, rfl⟩
theorem pl_g {who : Int} {cl : Nat} {gl : Int → Int} {w : World} {x : Nat} {t : PlT} {L : List Nat} (h : (plFl who cl).I (plPM gl) w x t L) :
    Calls Tryz.prog 28 #[.pointer (some ⟨x, 0, none⟩)] w fun e w' => e = .returned (.int .i64 t.obs) ∧ w = w' := by
  obtain ⟨nx, h1, -⟩ := Fl.blk h
  exact pull_g w x cl who t.g t.l t.pulled nx h1
end Go.Proofs.YthhlklfioipmgaaGreat

namespace Go.Proofs.YthhlklfioipmgaaGreat
open Go Go.RowKit
set_option linter.unusedVariables false
set_option maxRecDepth 100000
set_option linter.unusedSimpArgs false

/-- The memory's words when the first k links of a list were stored. -/
def lkF (gl : Int → Int) (l : List Int) (f : Nat → Int) : Nat → Nat → Int
  | 0 => f
  | k + 1 => upd (lkF gl l f k) (gl (l.getD k 0)).toNat (if k + 1 < l.length then qwd (l.getD (k + 1) 0) else 0)
theorem lkF_off {gl : Int → Int} {l : List Int} {f : Nat → Int} {j : Nat} : ∀ k, (∀ i, i < k → (gl (l.getD i 0)).toNat ≠ j) → lkF gl l f k j = f j
  | 0, _ => rfl
  | k + 1, h => by
    show upd _ _ _ _ = _
    rw [upd_ne (fun e => h k (by omega) e.symm)]
    exact lkF_off k (fun i hi => h i (by omega))
theorem lkF_at {gl : Int → Int} {l : List Int} {f : Nat → Int} {i : Nat} : ∀ k, i < k → (∀ j, i < j → j < k → (gl (l.getD j 0)).toNat ≠ (gl (l.getD i 0)).toNat) → lkF gl l f k (gl (l.getD i 0)).toNat = if i + 1 < l.length then qwd (l.getD (i + 1) 0) else 0
  | 0, h, _ => absurd h (by omega)
  | k + 1, h, hne => by
    show upd _ _ _ _ = _
    by_cases e : i = k
    · subst e; exact upd_at
    · rw [upd_ne (fun e2 => hne k (by omega) (by omega) e2.symm)]
      exact lkF_at k (by omega) (fun j h1 h2 => hne j h1 (by omega))
/-- A machine that has the put as a part. -/
structure QuE {σ : Type} (M : PM σ) (gl : Int → Int) (l : List Int) (emb : QpT → σ) : Prop where
  ch : ∀ k, M.ax (emb (.ch k)) = some (axSt (gl (l.getD k 0)) (if k + 1 < l.length then qwd (l.getD (k + 1) 0) else 0))
  ld : M.ax (emb .ld) = some (axLd 7)
  pt : ∀ t, M.ax (emb (.pt t)) = some (axSt (if t = 0 then 6 else gl (gw t)) (qwd (l.getD 0 0)))
  tr : M.ax (emb .tr) = some (axSt 7 (qwd (l.getD (l.length - 1) 0)))
  ct : M.ax (emb .ct) = some (axAd 8 l.length)
  n1 : ∀ k v, M.nx (emb (.ch k)) v = if k + 1 < l.length then emb (.ch (k + 1)) else emb .ld
  n2 : ∀ v, M.nx (emb .ld) v = emb (.pt v)
  n3 : ∀ t v, M.nx (emb (.pt t)) v = emb .tr
  n4 : ∀ v, M.nx (emb .tr) v = emb .ct
  n5 : ∀ v, M.nx (emb .ct) v = emb .over
theorem qu_self (gl : Int → Int) (l : List Int) : QuE (qpPM gl l) gl l (fun p => p) where
  ch := fun _ => rfl
  ld := rfl
  pt := fun _ => rfl
  tr := rfl
  ct := rfl
  n1 := fun _ _ => rfl
  n2 := fun _ => rfl
  n3 := fun _ _ => rfl
  n4 := fun _ => rfl
  n5 := fun _ => rfl
theorem qu_chain {σ : Type} {M : PM σ} {emb : QpT → σ} {gl : Int → Int} {l : List Int} (hE : QuE M gl l emb) {who : Int} {n : Nat} {s : St} (hgl : ∀ y ∈ l, 0 ≤ gl y ∧ gl y < n) : ∀ k, k < l.length → ∃ s', M.steps who n k (emb (.ch 0), s) = (emb (.ch k), s') ∧ s'.f = lkF gl l s.f k ∧ s'.bad = s.bad
  | 0, _ => ⟨s, rfl, rfl, rfl⟩
  | k + 1, h => by
    obtain ⟨s1, a1, f1, b1⟩ := qu_chain hE hgl k (by omega)
    have hm : l.getD k 0 ∈ l := by rw [List.getD_eq_getElem?_getD, List.getElem?_eq_getElem (by omega)]; exact List.getElem_mem _
    obtain ⟨s2, a2, f2, b2⟩ := steps_st (M := M) (who := who) (n := n) (k := 0) (t := emb (.ch k)) (s := s1) (i := gl (l.getD k 0)) (v := if k + 1 < l.length then qwd (l.getD (k + 1) 0) else 0) (hE.ch k) (hgl _ hm)
    have e1 : M.nx (emb (.ch k)) 0 = emb (.ch (k + 1)) := by rw [hE.n1, if_pos h]
    refine ⟨s2, ?_, by rw [f2, f1]; rfl, by rw [b2, b1]⟩
    rw [steps_add, a1, a2, e1]
    rfl
/-- A whole put, on any memory: its words behind it. -/
def quF (gl : Int → Int) (l : List Int) (f : Nat → Int) : Nat → Int :=
  let f1 := lkF gl l f l.length
  let f2 := upd f1 (if f1 7 = 0 then 6 else gl (gw (f1 7))).toNat (qwd (l.getD 0 0))
  let f3 := upd f2 7 (qwd (l.getD (l.length - 1) 0))
  upd f3 8 ((f3 8 + l.length) % 4294967296)
theorem qu_whole {σ : Type} {M : PM σ} {emb : QpT → σ} {gl : Int → Int} {l : List Int} (hE : QuE M gl l emb) {who : Int} {n : Nat} {s : St} (hn : 9 ≤ n) (h0 : 0 < l.length) (hgl : ∀ y ∈ l, 0 ≤ gl y ∧ gl y < n) (h7 : (lkF gl l s.f l.length) 7 ≠ 0 → 0 ≤ gl (gw ((lkF gl l s.f l.length) 7)) ∧ gl (gw ((lkF gl l s.f l.length) 7)) < n) (k : Nat) :
    ∃ s', M.steps who n (l.length + 4 + k) (emb (.ch 0), s) = M.steps who n k (emb .over, s') ∧ s'.f = quF gl l s.f ∧ s'.bad = s.bad := by
  obtain ⟨m, hm⟩ : ∃ m, l.length = m + 1 := ⟨l.length - 1, by omega⟩
  obtain ⟨s1, a1, f1, b1⟩ := qu_chain hE (who := who) (s := s) hgl m (by omega)
  have hmm : l.getD m 0 ∈ l := by rw [List.getD_eq_getElem?_getD, List.getElem?_eq_getElem (by omega)]; exact List.getElem_mem _
  obtain ⟨s2, a2, f2, b2⟩ := steps_st (M := M) (who := who) (n := n) (k := k + 4) (t := emb (.ch m)) (s := s1) (i := gl (l.getD m 0)) (v := if m + 1 < l.length then qwd (l.getD (m + 1) 0) else 0) (hE.ch m) (hgl _ hmm)
  have e2 : M.nx (emb (.ch m)) 0 = emb .ld := by rw [hE.n1, if_neg (by omega)]
  rw [e2] at a2
  have g2 : s2.f = lkF gl l s.f l.length := by
    have e9 : lkF gl l s.f l.length = lkF gl l s.f (m + 1) := by rw [hm]
    rw [f2, f1, e9]; rfl
  obtain ⟨s3, a3, f3, b3⟩ := steps_ld (M := M) (who := who) (n := n) (k := k + 3) (t := emb .ld) (s := s2) (i := 7) hE.ld (by omega)
  rw [show (7 : Int).toNat = 7 from rfl, g2, hE.n2] at a3
  obtain ⟨v, hv⟩ : ∃ v, lkF gl l s.f l.length 7 = v := ⟨_, rfl⟩
  rw [hv] at a3 h7
  obtain ⟨s4, a4, f4, b4⟩ := steps_st (M := M) (who := who) (n := n) (k := k + 2) (t := emb (.pt v)) (s := s3) (i := if v = 0 then 6 else gl (gw v)) (v := qwd (l.getD 0 0)) (hE.pt v) (by
    by_cases hv0 : v = 0
    · rw [if_pos hv0]; omega
    · rw [if_neg hv0]; exact h7 hv0)
  rw [hE.n3] at a4
  obtain ⟨s5, a5, f5, b5⟩ := steps_st (M := M) (who := who) (n := n) (k := k + 1) (t := emb .tr) (s := s4) (i := 7) (v := qwd (l.getD (l.length - 1) 0)) hE.tr (by omega)
  rw [hE.n4] at a5
  obtain ⟨s6, a6, f6, b6⟩ := steps_ad (M := M) (who := who) (n := n) (k := k) (t := emb .ct) (s := s5) (i := 8) (v := l.length) hE.ct (by omega)
  rw [hE.n5] at a6
  refine ⟨s6, ?_, ?_, by rw [b6, b5, b4, b3, b2, b1]⟩
  · rw [show l.length + 4 + k = m + (k + 4 + 1) by omega, steps_add, a1, a2, show k + 4 = k + 3 + 1 from rfl, a3, show k + 3 = k + 2 + 1 from rfl, a4, show k + 2 = k + 1 + 1 from rfl, a5, a6]
  · rw [f6, f5, f4, f3, g2, ← hv]
    rfl

/-- The word of a list's first one, and of its last one. -/
def hw : List Int → Int
  | [] => 0
  | y :: _ => y + 1
def lw (l : List Int) : Int := if l.length = 0 then 0 else l.getD (l.length - 1) 0 + 1
theorem lnk_idx {lk : Int → Int} : ∀ (l : List Int), (∀ i, i < l.length → lk (l.getD i 0) = if i + 1 < l.length then l.getD (i + 1) 0 + 1 else 0) → Lnk lk (hw l) l
  | [], _ => rfl
  | y :: r, h => by
    refine ⟨rfl, ?_⟩
    have h0 := h 0 (by simp)
    have e : lk y = hw r := by
      cases r with
      | nil => simpa [hw] using h0
      | cons z r => simpa [hw] using h0
    rw [e]
    refine lnk_idx r (fun i hi => ?_)
    have := h (i + 1) (by simp; omega)
    simpa using this
/-- The queue in a memory. -/
structure Qu (G : Int) (s : St) (l : List Int) : Prop where
  nd : l.Nodup
  rg : ∀ y ∈ l, 0 ≤ y ∧ y < G
  hd : s.f 6 = hw l
  tl : s.f 7 = lw l
  sz : s.f 8 = l.length
  lk : ∀ i, i < l.length → s.f (288 + 2 * (l.getD i 0).toNat) = if i + 1 < l.length then l.getD (i + 1) 0 + 1 else 0
  bad : s.bad = 0
theorem getD_in {l : List Int} {i : Nat} (h : i < l.length) : l.getD i 0 ∈ l := by
  rw [List.getD_eq_getElem?_getD, List.getElem?_eq_getElem h]; exact List.getElem_mem _
theorem getD_left {a b : List Int} {i : Nat} (h : i < a.length) : (a ++ b).getD i 0 = a.getD i 0 := by
  rw [List.getD_eq_getElem?_getD, List.getD_eq_getElem?_getD, List.getElem?_append_left h]
theorem getD_right {a b : List Int} {i : Nat} (h : a.length ≤ i) : (a ++ b).getD i 0 = b.getD (i - a.length) 0 := by
  rw [List.getD_eq_getElem?_getD, List.getD_eq_getElem?_getD, List.getElem?_append_right h]
theorem nodup_ne {l : List Int} (h : l.Nodup) {i j : Nat} (hi : i < l.length) (hj : j < l.length) (hij : i ≠ j) : l.getD i 0 ≠ l.getD j 0 := by
  rw [List.getD_eq_getElem?_getD, List.getD_eq_getElem?_getD, List.getElem?_eq_getElem hi, List.getElem?_eq_getElem hj]
  intro e
  exact hij ((List.getElem_inj h).1 (by simpa using e))
def quGl (G : Int) (y : Int) : Int := wd (20 + 1 * 264 + 1 * 3) G 2 y 1
theorem quGl_at {G y : Int} (hy : 0 ≤ y ∧ y < G) : quGl G y = 288 + 2 * y := by
  unfold quGl wd; rw [if_pos ⟨by omega, by omega, by omega, by omega⟩]; omega
theorem Qu.list {G : Int} {n : Nat} {s : St} {l : List Int} (h : Qu G s l) (hn : (n : Int) = 287 + 2 * G) (hG : 1 ≤ G) : lsOf (fun g => peekT n s (quGl G g)) G (peekT n s 6) = (l, true) ∧ peekT n s 8 = l.length := by
  have e : ∀ i : Int, 0 ≤ i ∧ i < n → peekT n s i = s.f i.toNat := fun i hi => if_pos hi
  rw [e 6 (by omega), e 8 (by omega)]
  refine ⟨?_, h.sz⟩
  rw [show (6 : Int).toNat = 6 from rfl, h.hd]
  refine lnk_of _ _ _ _ (lnk_idx l (fun i hi => ?_)) h.nd h.rg
  have hr := h.rg _ (getD_in hi)
  show peekT n s (quGl G (l.getD i 0)) = _
  rw [quGl_at hr, e _ (by omega), show (288 + 2 * l.getD i 0).toNat = 288 + 2 * (l.getD i 0).toNat by omega]
  exact h.lk i hi
theorem lw_app {a b : List Int} (h : 0 < b.length) : lw (a ++ b) = b.getD (b.length - 1) 0 + 1 := by
  unfold lw
  rw [if_neg (by rw [List.length_append]; omega), getD_right (by rw [List.length_append]; omega), List.length_append, show a.length + b.length - 1 - a.length = b.length - 1 by omega]
theorem qu_put {G : Int} {n : Nat} {s : St} {l b : List Int} (h : Qu G s l) (hn : (n : Int) = 287 + 2 * G) (hG : 1 ≤ G ∧ G ≤ 60) (hb : 0 < b.length) (hnd : (l ++ b).Nodup) (hr : ∀ y ∈ b, 0 ≤ y ∧ y < G) (k : Nat) :
    Qu G ((qpPM (quGl G) b).steps 0 n (b.length + 4 + k) (.ch 0, s)).2 (l ++ b) := by
  have hndl := (List.nodup_append.1 hnd).1
  have hndb := (List.nodup_append.1 hnd).2.1
  have hdis : ∀ y ∈ l, ∀ z ∈ b, y ≠ z := (List.nodup_append.1 hnd).2.2
  have hlen := nodup_room G.toNat (l ++ b) hnd (fun x hx => by
    rcases List.mem_append.1 hx with hx | hx
    · have := h.rg x hx; omega
    · have := hr x hx; omega)
  rw [List.length_append] at hlen
  have hat : ∀ i, i < b.length → (quGl G (b.getD i 0)).toNat = 288 + 2 * (b.getD i 0).toNat ∧ 0 ≤ b.getD i 0 ∧ b.getD i 0 < G := fun i hi => by
    have := hr _ (getD_in hi)
    rw [quGl_at this]; omega
  have hlow : ∀ j : Nat, j < 288 → lkF (quGl G) b s.f b.length j = s.f j := fun j hj => lkF_off _ (fun i hi => by have := hat i hi; omega)
  have h7 : lkF (quGl G) b s.f b.length 7 = lw l := by rw [hlow 7 (by omega), h.tl]
  have hlast : lw l ≠ 0 → 0 < l.length ∧ gw (lw l) = l.getD (l.length - 1) 0 ∧ 0 ≤ gw (lw l) ∧ gw (lw l) < G := fun hne => by
    have h0 : l.length ≠ 0 := fun e => hne (by unfold lw; rw [if_pos e])
    have hm := h.rg _ (getD_in (l := l) (i := l.length - 1) (by omega))
    have e1 : gw (lw l) = l.getD (l.length - 1) 0 := by
      unfold lw; rw [if_neg h0]; exact gw_one _ (by omega)
    exact ⟨by omega, e1, by omega, by omega⟩
  obtain ⟨s', a, f, bd⟩ := qu_whole (qu_self (quGl G) b) (gl := quGl G) (l := b) (who := 0) (n := n) (s := s) (by omega) hb (fun y hy => by have := hr y hy; rw [quGl_at this]; omega) (by
    rw [h7]; intro hne
    have := hlast hne
    rw [quGl_at this.2.2]; omega) k
  rw [steps_no (M := qpPM (quGl G) b) (t := .over) rfl k] at a
  rw [a]
  show Qu G s' (l ++ b)
  have hq0 : qwd (b.getD 0 0) = b.getD 0 0 + 1 := qwd_small _ (by have := hat 0 hb; omega)
  have hql : qwd (b.getD (b.length - 1) 0) = b.getD (b.length - 1) 0 + 1 := qwd_small _ (by have := hat (b.length - 1) (by omega); omega)
  obtain ⟨at', hat'⟩ : ∃ a : Nat, (if lw l = 0 then 6 else quGl G (gw (lw l))).toNat = a := ⟨_, rfl⟩
  have hats : (lw l = 0 ∧ l.length = 0 ∧ at' = 6) ∨ (0 < l.length ∧ at' = 288 + 2 * (l.getD (l.length - 1) 0).toNat) := by
    by_cases hne : lw l = 0
    · left
      rw [if_pos hne] at hat'
      refine ⟨hne, ?_, hat'.symm⟩
      by_cases h0 : l.length = 0
      · exact h0
      · unfold lw at hne
        rw [if_neg h0] at hne
        have := h.rg _ (getD_in (l := l) (i := l.length - 1) (by omega))
        omega
    · right
      obtain ⟨q1, q2, q3⟩ := hlast hne
      rw [if_neg hne, quGl_at q3, q2] at hat'
      exact ⟨q1, by rw [q2] at q3; omega⟩
  have ha78 : at' ≠ 7 ∧ at' ≠ 8 := by rcases hats with ⟨_, _, e⟩ | ⟨_, e⟩ <;> omega
  have hf : ∀ j : Nat, s'.f j = if j = 8 then (s.f 8 + b.length) % 4294967296 else if j = 7 then b.getD (b.length - 1) 0 + 1 else if j = at' then b.getD 0 0 + 1 else lkF (quGl G) b s.f b.length j := fun j => by
    rw [f]
    show upd (upd (upd (lkF (quGl G) b s.f b.length) (if lkF (quGl G) b s.f b.length 7 = 0 then (6 : Int) else quGl G (gw (lkF (quGl G) b s.f b.length 7))).toNat (qwd (b.getD 0 0))) 7 (qwd (b.getD (b.length - 1) 0))) 8 ((upd (upd (lkF (quGl G) b s.f b.length) (if lkF (quGl G) b s.f b.length 7 = 0 then (6 : Int) else quGl G (gw (lkF (quGl G) b s.f b.length 7))).toNat (qwd (b.getD 0 0))) 7 (qwd (b.getD (b.length - 1) 0)) 8 + (b.length : Int)) % 4294967296) j = _
    rw [h7, hat', hq0, hql, upd_ne (i := 7) (j := 8) (by omega), upd_ne (i := at') (j := 8) (fun e => ha78.2 e.symm), hlow 8 (by omega)]
    rfl
  refine ⟨hnd, fun y hy => ?_, ?_, ?_, ?_, fun i hi => ?_, by rw [bd]; exact h.bad⟩
  · rcases List.mem_append.1 hy with hy | hy
    · exact h.rg y hy
    · exact hr y hy
  · rw [hf, if_neg (by omega), if_neg (by omega)]
    rcases hats with ⟨_, e0, e⟩ | ⟨e0, e⟩
    · rw [if_pos e.symm]
      obtain rfl : l = [] := List.eq_nil_of_length_eq_zero e0
      cases b with
      | nil => simp at hb
      | cons z r => rfl
    · rw [if_neg (by omega), hlow 6 (by omega), h.hd]
      cases l with
      | nil => simp at e0
      | cons z r => rfl
  · rw [hf, if_neg (by omega), if_pos rfl, lw_app hb]
  · rw [hf, if_pos rfl, h.sz, List.length_append]; omega
  · rw [List.length_append] at hi ⊢
    by_cases hil : i < l.length
    · have hri := h.rg _ (getD_in hil)
      rw [getD_left hil, hf, if_neg (by omega), if_neg (by omega)]
      by_cases hlst : i + 1 = l.length
      · rw [if_pos (by rcases hats with ⟨_, e0, _⟩ | ⟨_, e⟩ <;> first | omega | (rw [e, show l.length - 1 = i by omega])), if_pos (by omega), getD_right (by omega), show i + 1 - l.length = 0 by omega]
      · have hlt : i + 1 < l.length := by omega
        have hn1 := nodup_ne hndl (i := i) (j := l.length - 1) hil (by omega) (by omega)
        have hrl := h.rg _ (getD_in (l := l) (i := l.length - 1) (by omega))
        rw [if_neg (by rcases hats with ⟨_, e0, _⟩ | ⟨_, e⟩ <;> omega), lkF_off _ (fun j hj => by
          have h1 := hat j hj
          have h2 := hdis _ (getD_in hil) _ (getD_in hj)
          omega), h.lk i hil, if_pos hlt, if_pos (by omega), getD_left hlt]
    · obtain ⟨j, rfl⟩ : ∃ j, i = l.length + j := ⟨i - l.length, by omega⟩
      have hj : j < b.length := by omega
      have h1 := hat j hj
      rw [getD_right (by omega), show l.length + j - l.length = j by omega, hf, if_neg (by omega), if_neg (by omega), if_neg (by
        rcases hats with ⟨_, _, e⟩ | ⟨e0, e⟩
        · omega
        · have h2 := hdis _ (getD_in (l := l) (i := l.length - 1) (by omega)) _ (getD_in hj)
          have h3 := h.rg _ (getD_in (l := l) (i := l.length - 1) (by omega))
          omega), ← h1.1, lkF_at _ hj (fun q h2 h3 => by
          have h4 := hat q h3
          have h5 := nodup_ne hndb h3 hj (by omega)
          omega)]
      by_cases hj1 : j + 1 < b.length
      · rw [if_pos hj1, if_pos (by omega), getD_right (by omega), show l.length + j + 1 - l.length = j + 1 by omega]
        exact qwd_small _ (by have := hat (j + 1) hj1; omega)
      · rw [if_neg hj1, if_neg (by omega)]
theorem qu_none {G : Int} {n : Nat} {s : St} (h : Qu G s []) (hn : 9 ≤ n) (k : Nat) :
    ((plPM (quGl G)).steps 0 n (k + 1) (.ld, s)).1 = .none' ∧ Qu G ((plPM (quGl G)).steps 0 n (k + 1) (.ld, s)).2 [] := by
  obtain ⟨s1, a1, f1, b1⟩ := steps_ld (M := plPM (quGl G)) (who := 0) (n := n) (k := k) (t := .ld) (s := s) (i := 6) rfl (by omega)
  have h0 : s.f 6 = 0 := h.hd
  have e : (plPM (quGl G)).steps 0 n (k + 1) (.ld, s) = (.none', s1) := by
    rw [a1, show (6 : Int).toNat = 6 from rfl, h0]
    exact steps_no (M := plPM (quGl G)) (t := .none') rfl k
  rw [e]
  exact ⟨rfl, h.nd, h.rg, by show s1.f 6 = _; rw [f1]; exact h.hd, by show s1.f 7 = _; rw [f1]; exact h.tl, by show s1.f 8 = _; rw [f1]; exact h.sz, fun i hi => absurd hi (by simp), by show s1.bad = 0; rw [b1]; exact h.bad⟩
theorem qu_pull {G : Int} {n : Nat} {s : St} {y : Int} {r : List Int} (h : Qu G s (y :: r)) (hn : (n : Int) = 287 + 2 * G) (hG : 1 ≤ G ∧ G ≤ 60) (k : Nat) :
    (∃ z, ((plPM (quGl G)).steps 0 n (k + 6) (.ld, s)).1 = .over y z) ∧ Qu G ((plPM (quGl G)).steps 0 n (k + 6) (.ld, s)).2 r := by
  have hy := h.rg y (by simp)
  have hlen := nodup_room G.toNat (y :: r) h.nd (fun x hx => by have := h.rg x hx; omega)
  rw [List.length_cons] at hlen
  have h6 : s.f 6 = y + 1 := h.hd
  have hl0 : s.f (288 + 2 * y.toNat) = hw r := by
    have := h.lk 0 (by simp)
    cases r with
    | nil => simpa [hw] using this
    | cons z r => simpa [hw] using this
  obtain ⟨s1, a1, f1, b1⟩ := steps_ld (M := plPM (quGl G)) (who := 0) (n := n) (k := k + 5) (t := .ld) (s := s) (i := 6) rfl (by omega)
  obtain ⟨s2, a2, f2, b2⟩ := steps_ld (M := plPM (quGl G)) (who := 0) (n := n) (k := k + 4) (t := .lnk y) (s := s1) (i := quGl G y) rfl (by rw [quGl_at hy]; omega)
  rw [quGl_at hy, f1, show (288 + 2 * y).toNat = 288 + 2 * y.toNat by omega, hl0] at a2
  obtain ⟨s3, a3, f3, b3⟩ := steps_st (M := plPM (quGl G)) (who := 0) (n := n) (k := k + 3) (t := .un y (hw r)) (s := s2) (i := 6) (v := hw r) rfl (by omega)
  have e1 : (plPM (quGl G)).nx .ld (s.f (6 : Int).toNat) = .lnk y := by
    show (if s.f 6 = 0 then PlT.none' else .lnk (gw (s.f 6))) = _
    rw [h6, if_neg (by omega), gw_one y (by omega)]
  have hr0 : ∀ i, i < r.length → r.getD i 0 ≠ y := fun i hi e => (List.nodup_cons.1 h.nd).1 (e ▸ getD_in hi)
  have hlk : ∀ i, i < r.length → s.f (288 + 2 * (r.getD i 0).toNat) = if i + 1 < r.length then r.getD (i + 1) 0 + 1 else 0 := fun i hi => by
    have := h.lk (i + 1) (by simp; omega)
    simpa using this
  cases r with
  | nil =>
    obtain ⟨s4, a4, f4, b4⟩ := steps_st (M := plPM (quGl G)) (who := 0) (n := n) (k := k + 2) (t := .tl y) (s := s3) (i := 7) (v := 0) rfl (by omega)
    obtain ⟨s5, a5, f5, b5⟩ := steps_ad (M := plPM (quGl G)) (who := 0) (n := n) (k := k + 1) (t := .ct y 0) (s := s4) (i := 8) (v := 4294967295) rfl (by omega)
    have e : (plPM (quGl G)).steps 0 n (k + 6) (.ld, s) = (.over y 0, s5) := by
      rw [show k + 6 = k + 5 + 1 from rfl, a1, e1]
      show (plPM (quGl G)).steps 0 n (k + 4 + 1) (.lnk y, s1) = _
      rw [a2]
      show (plPM (quGl G)).steps 0 n (k + 3 + 1) (.un y (hw []), s2) = _
      rw [a3]
      show (plPM (quGl G)).steps 0 n (k + 2 + 1) (.tl y, s3) = _
      rw [a4]
      show (plPM (quGl G)).steps 0 n (k + 1 + 1) (.ct y 0, s4) = _
      rw [a5]
      exact steps_no (M := plPM (quGl G)) (t := .over y 0) rfl (k + 1)
    rw [e]
    refine ⟨⟨0, rfl⟩, ?_⟩
    show Qu G s5 []
    have hf : ∀ j : Nat, s5.f j = if j = 8 then (s.f 8 + 4294967295) % 4294967296 else if j = 7 then 0 else if j = 6 then 0 else s.f j := fun j => by
      have h8 : s4.f 8 = s.f 8 := by rw [f4, upd_ne (by decide), f3, upd_ne (by decide), f2, f1]
      rw [f5, show (8 : Int).toNat = 8 from rfl, h8, f4, f3, f2, f1]; rfl
    refine ⟨List.nodup_nil, fun y hy => (by cases hy), ?_, ?_, ?_, fun i hi => absurd hi (by simp), by rw [b5, b4, b3, b2, b1]; exact h.bad⟩
    · rw [hf]; rfl
    · rw [hf]; rfl
    · rw [hf, if_pos rfl, h.sz]; simp
  | cons z r =>
    have hz := h.rg z (by simp)
    have hnz : hw (z :: r) ≠ 0 := by show z + 1 ≠ 0; omega
    have e3 : (plPM (quGl G)).nx (.un y (hw (z :: r))) 0 = .ct y (hw (z :: r)) := if_neg hnz
    rw [e3] at a3
    obtain ⟨s5, a5, f5, b5⟩ := steps_ad (M := plPM (quGl G)) (who := 0) (n := n) (k := k + 2) (t := .ct y (hw (z :: r))) (s := s3) (i := 8) (v := 4294967295) rfl (by omega)
    have e : (plPM (quGl G)).steps 0 n (k + 6) (.ld, s) = (.over y (hw (z :: r)), s5) := by
      rw [show k + 6 = k + 5 + 1 from rfl, a1, e1]
      show (plPM (quGl G)).steps 0 n (k + 4 + 1) (.lnk y, s1) = _
      rw [a2]
      show (plPM (quGl G)).steps 0 n (k + 3 + 1) (.un y (hw (z :: r)), s2) = _
      rw [a3]
      show (plPM (quGl G)).steps 0 n (k + 2 + 1) (.ct y (hw (z :: r)), s3) = _
      rw [a5]
      exact steps_no (M := plPM (quGl G)) (t := .over y (hw (z :: r))) rfl (k + 2)
    rw [e]
    refine ⟨⟨_, rfl⟩, ?_⟩
    show Qu G s5 (z :: r)
    have hf : ∀ j : Nat, s5.f j = if j = 8 then (s.f 8 + 4294967295) % 4294967296 else if j = 6 then z + 1 else s.f j := fun j => by
      have h8 : s3.f 8 = s.f 8 := by rw [f3, upd_ne (by decide), f2, f1]
      rw [f5, show (8 : Int).toNat = 8 from rfl, h8, f3, f2, f1]; rfl
    refine ⟨(List.nodup_cons.1 h.nd).2, fun x hx => h.rg x (by simp [hx]), ?_, ?_, ?_, fun i hi => ?_, by rw [b5, b3, b2, b1]; exact h.bad⟩
    · rw [hf]; rfl
    · rw [hf, if_neg (by omega), if_neg (by omega), h.tl]
      unfold lw
      simp
    · rw [hf, if_pos rfl, h.sz]; simp; simp at hlen; omega
    · rw [hf, if_neg (by omega), if_neg (by omega)]
      exact hlk i hi
theorem qu_start {G : Int} {f : Nat → Int} (h : ∀ i, f i = 0) : Qu G (fresh f) [] := ⟨List.nodup_nil, fun y hy => (by cases hy), h 6, h 7, h 8, fun i hi => absurd hi (by simp), rfl⟩
/-- Goroutines one behind the other, round and round. -/
def win (G : Int) (a k : Nat) : List Int := (List.range k).map fun i => (((a + i) % G.toNat : Nat) : Int)
theorem win_len (G : Int) (a k : Nat) : (win G a k).length = k := by unfold win; simp
theorem win_succ (G : Int) (a k : Nat) : win G a (k + 1) = win G a k ++ [(((a + k) % G.toNat : Nat) : Int)] := by unfold win; rw [List.range_succ, List.map_append]; rfl
theorem win_app (G : Int) (a k : Nat) : ∀ m, win G a k ++ win G (a + k) m = win G a (k + m)
  | 0 => by simp [win]
  | m + 1 => by rw [win_succ, ← List.append_assoc, win_app G a k m, show k + (m + 1) = k + m + 1 by omega, win_succ, show a + k + m = a + (k + m) by omega]
theorem win_cons (G : Int) (a k : Nat) : win G a (k + 1) = ((a % G.toNat : Nat) : Int) :: win G (a + 1) k := by
  have := win_app G a 1 k
  rw [show k + 1 = 1 + k by omega, ← this]
  unfold win; simp
theorem win_rg {G : Int} (hG : 1 ≤ G) {a k : Nat} : ∀ y ∈ win G a k, 0 ≤ y ∧ y < G := fun y hy => by
  unfold win at hy
  obtain ⟨i, _, rfl⟩ := List.mem_map.1 hy
  have := Nat.mod_lt (a + i) (y := G.toNat) (by omega)
  omega
theorem mod_inj {g a i j : Nat} (h : (a + i) % g = (a + j) % g) (hi : i < g) (hj : j < g) : i = j := by
  have h1 := Nat.div_add_mod (a + i) g
  have h2 := Nat.div_add_mod (a + j) g
  rw [h] at h1
  rcases Nat.lt_trichotomy ((a + i) / g) ((a + j) / g) with h3 | h3 | h3
  · have := Nat.mul_le_mul_left g (show (a + i) / g + 1 ≤ (a + j) / g from h3)
    rw [Nat.mul_add, Nat.mul_one] at this
    omega
  · rw [h3] at h1; omega
  · have := Nat.mul_le_mul_left g (show (a + j) / g + 1 ≤ (a + i) / g from h3)
    rw [Nat.mul_add, Nat.mul_one] at this
    omega
theorem win_nd {G : Int} {a k : Nat} (hk : (k : Int) ≤ G) : (win G a k).Nodup := by
  unfold win
  refine List.pairwise_map.2 (List.Pairwise.imp_of_mem (fun {i j} hi hj hne h => ?_) List.nodup_range)
  have hi := List.mem_range.1 hi
  have hj := List.mem_range.1 hj
  exact hne (mod_inj (Int.ofNat.inj h) (by omega) (by omega))
end Go.Proofs.YthhlklfioipmgaaGreat

namespace Go.Proofs.YthhlklfioipmgaaGreat
open Go Go.RowKit Go.Maps
set_option linter.unusedVariables false
set_option maxRecDepth 100000
set_option linter.unusedSimpArgs false

namespace RI
/-- A list of ints that the call made. -/
structure IntsOn (w : World) (base : Nat) (v : Value) (l : List Int) : Prop where
  own : w.ownsRow base 3 1 v l.length (l.map (Value.int .i64))
theorem lists_info3 : (Tryz.prog.info? 3).map (fun i => (i.zero, i.size, i.bytes)) = some (some (.int .i64 0), 1, 8) := by kernel_rfl
theorem row_but {w w' : World} {base : Nat} {e : TypeId} {size : Nat} {v : Value} {n : Nat} {xs : List Value} {l : List Nat} (h : w.ownsRow base e size v n xs) (hB : But l w w') (hl : ∀ b ∈ l, b < base) : w'.ownsRow base e size v n xs := by
  refine ⟨h.1, ?_⟩
  rcases h.2 with h0 | ⟨gb, cp, cur, e0, hb, hh, rest⟩
  · exact .inl h0
  · exact .inr ⟨gb, cp, cur, e0, hb, (hB.block gb (block_lt hh) (fun hm => absurd (hl gb hm) (by omega))).trans hh, rest⟩
theorem row_below {w w' : World} {base : Nat} {e : TypeId} {size : Nat} {v : Value} {n : Nat} {xs : List Value} (h : w.ownsRow base e size v n xs) (hB : Below w.heap.size w w') : w'.ownsRow base e size v n xs := row_but h (But.of_below (l := []) hB) (fun b hb => by cases hb)
theorem lists_slice {w : World} {base : Nat} {e : TypeId} {size : Nat} {v : Value} {n : Nat} {xs : List Value} (h : w.ownsRow base e size v n xs) : ∃ A cap, v = .slice A n cap := by
  rcases h.2 with ⟨e0, h0⟩ | ⟨gb, cp, cur, e0, hb, hh, rest⟩
  · subst h0; exact ⟨none, 0, e0⟩
  · exact ⟨_, _, e0⟩
theorem IntsOn.cell {w : World} {base : Nat} {v : Value} {l : List Int} (h : IntsOn w base v l) {j : Nat} (hj : j < l.length) : ∃ gb cap, v = .slice (some ⟨gb, 0, none⟩) l.length cap ∧ w.cell? ⟨gb, j, none⟩ = some (.int .i64 (l.getD j 0)) := by
  rcases h.own.2 with ⟨e, h0⟩ | ⟨gb, cp, cur, e, hb, hh, hnc, hcm, hcs, htk⟩
  · omega
  · subst e
    refine ⟨gb, cp, rfl, ?_⟩
    have hc := h.own.cellAt j (by omega)
    rw [List.getElem?_map, List.getElem?_eq_getElem hj] at hc
    rw [List.getD_eq_getElem?_getD, List.getElem?_eq_getElem hj]
    exact hc
/-- A slice of ints, seen in memory. -/
def SeesL (w : World) (v : Value) (l : List Int) : Prop := ∃ A cap, v = .slice A l.length cap ∧ (A = none → l.length = 0 ∧ cap = 0) ∧ (0 < l.length → ∃ b off : Nat, A = some ⟨b, off, none⟩ ∧ b < w.heap.size ∧ ∀ j, j < l.length → w.cell? ⟨b, off + j, none⟩ = some (.int .i64 (l.getD j 0)))
theorem SeesL.below {w w' : World} {v : Value} {l : List Int} (h : SeesL w v l) (hb : Below w.heap.size w w') : SeesL w' v l := by
  obtain ⟨A, cap, e, h1, h2⟩ := h
  refine ⟨A, cap, e, h1, fun hn => ?_⟩
  obtain ⟨b, off, e1, h3, h4⟩ := h2 hn
  exact ⟨b, off, e1, Nat.lt_of_lt_of_le h3 hb.size, fun j hj => (hb.cell (p := ⟨b, off + j, none⟩) h3).trans (h4 j hj)⟩
theorem IntsOn.sees {w : World} {base : Nat} {v : Value} {l : List Int} (h : IntsOn w base v l) : SeesL w v l := by
  by_cases h0 : 0 < l.length
  · obtain ⟨gb, cap, e, -⟩ := h.cell h0
    refine ⟨_, cap, e, (fun h => by cases h), fun hn => ⟨gb, 0, rfl, ?_, fun j hj => ?_⟩⟩
    · obtain ⟨gb', cap', e', hc⟩ := h.cell hn
      rw [e] at e'; cases e'
      exact cell_lt hc
    · obtain ⟨gb', cap', e', hc⟩ := h.cell hj
      rw [e] at e'; cases e'
      rw [Nat.zero_add]; exact hc
  · rcases h.own.2 with ⟨e, h1⟩ | ⟨gb, cp, cur, e, -⟩
    · exact ⟨none, 0, by rw [e, h1], fun _ => ⟨h1, rfl⟩, fun h => absurd h h0⟩
    · exact ⟨_, cp, e, (fun h => by cases h), fun h => absurd h h0⟩

theorem lsame_any (w : World) (v v' : Value) (l : List Int) (hn : l.length ≤ 1000000) (h : SeesL w v l) (h' : SeesL w v' l) :
    Calls Tryz.prog 16 #[v, v'] w fun e w' => e = .returned (.bool true) ∧ Below w.heap.size w w' := by
  obtain ⟨A, cap, rfl, -, h2⟩ := h
  obtain ⟨A', cap', rfl, -, h2'⟩ := h'
  have H : Hid (0 < l.length → ∃ b off : Nat, A = some ⟨b, off, none⟩ ∧ b < w.heap.size ∧ ∀ j, j < l.length → w.cell? ⟨b, off + j, none⟩ = some (.int .i64 (l.getD j 0))) := h2
  have H' : Hid (0 < l.length → ∃ b off : Nat, A' = some ⟨b, off, none⟩ ∧ b < w.heap.size ∧ ∀ j, j < l.length → w.cell? ⟨b, off + j, none⟩ = some (.int .i64 (l.getD j 0))) := h2'
  clear h2 h2'
  have HF : Hid (∃ (f : Nat → Int) (n : Nat), (fun j => l.getD j 0) = f ∧ l.length = n) := ⟨_, _, rfl, rfl⟩
  obtain ⟨f, n, hf, hl⟩ := HF.out
  have hfe : ∀ j, l.getD j 0 = f j := fun j => congrFun hf j
  simp only [hfe] at H H'
  rw [hl] at H H' hn ⊢
  clear HF hf hl hfe
  go_enter Tryz.func16, Tryz.ntmps16
  go_wp2_with fail
  go_loopw [5] (fun i wr => ∃ k m : Nat, k ≤ n ∧ i = .int .i64 k ∧ wr = w.drewN m) (fun i _ => n - (intOf i).toNat)
  case atStart => exact ⟨0, 0, Nat.zero_le _, rfl, rfl⟩
  case round =>
    obtain ⟨k, m, hk, rfl, rfl⟩ := hrel
    by_cases hlt : k < n
    · obtain ⟨b, off, rfl, hbB, hcell⟩ := H.out (by omega)
      obtain ⟨b', off', rfl, hbB', hcell'⟩ := H'.out (by omega)
      have e0 : w.cell? ⟨b, off + k, none⟩ = some (.int .i64 (f k)) := hcell k hlt
      have e1 : w.cell? ⟨b', off' + k, none⟩ = some (.int .i64 (f k)) := hcell' k hlt
      clear hcell hcell'
      generalize f k = x at e0 e1
      go_wp2_with fail
      go_quiet (fail)
      go_wp2_with fail
      go_roundw
      case rel => exact ⟨k + 1, _, by omega, by go_num, rfl⟩
      case measure => simp [intOf]; omega
    · obtain rfl : k = n := by omega
      go_wp2_with fail
      go_ret
      exact ⟨rfl, Below.drewN' (Below.refl _ _) m⟩
end RI
theorem But.grown {l : List Nat} {a w w' : World} {r : Option Nat} (h : But l a w) (hg : w.grownBy w' r) (hr : ∀ k, r = some k → k ∈ l ∨ a.heap.size ≤ k) : But l a w' :=
  ⟨hg.os.trans h.os, hg.tape.trans h.tape, hg.output.trans h.output, Nat.le_trans h.size hg.size, fun k hk hc => (hg.block k (Nat.lt_of_lt_of_le hk h.size) (fun e => by rcases hr k e.symm with h1 | h1; exact hc h1; omega)).trans (h.block k hk hc)⟩
def rowB (v : Value) : List Nat := match v.ownBlock with
  | some k => [k]
  | none => []
theorem rowB_mem {v : Value} {k : Nat} (h : v.ownBlock = some k) : k ∈ rowB v := by unfold rowB; rw [h]; simp
theorem mem_rowB {v : Value} {k : Nat} (h : k ∈ rowB v) : v.ownBlock = some k := by
  unfold rowB at h
  split at h
  · rename_i h'; simp at h; rw [h', h]
  · cases h
theorem RI.IntsOn.keep {w w' : World} {base : Nat} {v : Value} {l : List Int} {ll : List Nat} (h : RI.IntsOn w base v l) (hB : But ll w w') (hk : ∀ k ∈ rowB v, k ∉ ll) : RI.IntsOn w' base v l := by
  refine ⟨h.own.1, ?_⟩
  rcases h.own.2 with h0 | ⟨gb, cp, cur, e0, hb, hh, rest⟩
  · exact .inl h0
  · exact .inr ⟨gb, cp, cur, e0, hb, (hB.block gb (block_lt hh) (hk gb (rowB_mem (by rw [e0]; rfl)))).trans hh, rest⟩
theorem RI.IntsOn.up {w : World} {base : Nat} {v : Value} {l : List Int} (h : RI.IntsOn w base v l) : ∀ k ∈ rowB v, base ≤ k ∧ k < w.heap.size := fun k hk => h.own.lt k (mem_rowB hk)
/-- A list of ints that is only read. -/
def Rd.ints (base : Nat) (v : Value) (l : List Int) : Rd := ⟨rowB v, fun w => RI.IntsOn w base v l, fun w w' ll h hb hk => h.keep hb hk⟩
end Go.Proofs.YthhlklfioipmgaaGreat

namespace Go.Proofs.YthhlklfioipmgaaGreat
open Go Go.RowKit
set_option linter.unusedVariables false
set_option maxRecDepth 100000
set_option linter.unusedSimpArgs false

/-- What a ground is made of that has them. -/
def rfA (h : Int) (i : Nat) : Int := if i = 0 then 21 else if i = 1 then 22 else 28 + (h + (i - 2 : Nat)) % 256
def rfV (h : Int) (m : Nat) (i : Nat) : Int := if i = 0 then h else if i = 1 then (h + m) % 4294967296 else (((i - 2) % 60 : Nat) : Int) + 1
def rfC (h : Int) (m k : Nat) : List Value := (List.range k).flatMap fun i => [.int .i64 (rfA h i), .int .u64 (rfV h m i)]
theorem rfC_succ (h : Int) (m k : Nat) : rfC h m (k + 1) = rfC h m k ++ [.int .i64 (rfA h k), .int .u64 (rfV h m k)] := by
  unfold rfC; rw [List.range_succ, List.flatMap_append]; simp
theorem rfC_len (h : Int) (m : Nat) : ∀ k, (rfC h m k).length = k * 2
  | 0 => rfl
  | k + 1 => by rw [rfC_succ, List.length_append, rfC_len h m k]; simp; omega
theorem rfC_at (h : Int) (m : Nat) : ∀ k i, i < k → (rfC h m k)[i * 2]? = some (.int .i64 (rfA h i)) ∧ (rfC h m k)[i * 2 + 1]? = some (.int .u64 (rfV h m i))
  | 0, i, hi => absurd hi (by omega)
  | k + 1, i, hi => by
    have hl := rfC_len h m k
    rw [rfC_succ]
    by_cases e : i = k
    · subst e
      rw [List.getElem?_append_right (by omega), List.getElem?_append_right (by omega), hl, show i * 2 - i * 2 = 0 by omega, show i * 2 + 1 - i * 2 = 1 by omega]
      exact ⟨rfl, rfl⟩
    · rw [List.getElem?_append_left (by omega), List.getElem?_append_left (by omega)]
      exact rfC_at h m k i (by omega)
/-- A row of words that are laid, as it grows. -/
structure FuG (w W : World) (h : Int) (m k g bc : Nat) (v : Value) : Prop where
  blk : Blk W g #[.int .i64 1, .int .i64 1, .int .i64 60, v] 26
  box : Blk W bc #[.int .i64 1, .int .i64 1, .int .i64 60] 23
  res : Blk W (bc + 1) #[.int .i64 0, .int .i64 0, .int .i64 0, .slice none 0 0] 26
  own : W.ownsRow w.heap.size 82 2 v (k + 2) (rfC h m (k + 2))
  far : v.ownBlock ≠ some g ∧ v.ownBlock ≠ some bc ∧ v.ownBlock ≠ some (bc + 1)
  below : Below w.heap.size w W
  lo : w.heap.size ≤ bc ∧ bc + 1 < g
theorem FuG.drew {w W : World} {h : Int} {m k g bc : Nat} {v : Value} (H : FuG w W h m k g bc v) : FuG w W.drew h m k g bc v := ⟨H.blk.drew, H.box.drew, H.res.drew, H.own.drew, H.far, H.below.drew, H.lo⟩
theorem FuG.al {w W : World} {h : Int} {m k g bc : Nat} {v : Value} (H : FuG w W h m k g bc v) (o : Obj) : FuG w (W.alloc o) h m k g bc v := ⟨H.blk.al o, H.box.al o, H.res.al o, H.own.alloc o, H.far, H.below.alloc H.below.size o, H.lo⟩
theorem FuG.next {w W W' : World} {h : Int} {m k g bc g' cap : Nat} {v : Value} (H : FuG w W h m k g bc v) (ho : W'.ownsRow w.heap.size 82 2 (.slice (some ⟨g', 0, none⟩) (k + 2 + 1) cap) (k + 2 + 1) (rfC h m (k + 2) ++ [.int .i64 (rfA h (k + 2)), .int .u64 (rfV h m (k + 2))])) (hg : W.grownBy W' v.ownBlock) (hat : v.ownBlock = some g' ∨ g' = W.heap.size) (hlt : g' < W'.heap.size) :
    FuG w (W'.setCell ⟨g, 3, none⟩ (.slice (some ⟨g', 0, none⟩) (k + 2 + 1) cap)) h m (k + 1) g bc (.slice (some ⟨g', 0, none⟩) (k + 1 + 2) cap) := by
  have kg : ∀ c, c < W.heap.size → v.ownBlock ≠ some c → W'.heap[c]? = W.heap[c]? := fun c hc hne => hg.block c hc (Ne.symm hne)
  have b1 := H.blk.keep (kg g H.blk.lt H.far.1)
  have b2 := H.box.keep (kg bc H.box.lt H.far.2.1)
  have b3 := H.res.keep (kg (bc + 1) H.res.lt H.far.2.2)
  have hfar : ∀ c, c < W.heap.size → v.ownBlock ≠ some c → g' ≠ c := fun c hc hne e => by
    rcases hat with h1 | h1
    · exact hne (by rw [h1, e])
    · omega
  have f1 := hfar g H.blk.lt H.far.1
  have f2 := hfar bc H.box.lt H.far.2.1
  have f3 := hfar (bc + 1) H.res.lt H.far.2.2
  have hlo := H.lo
  have hB : But [g] W' (W'.setCell ⟨g, 3, none⟩ (.slice (some ⟨g', 0, none⟩) (k + 2 + 1) cap)) := (But.refl _ _).set (g := g) (.inl (by simp)) 3 _
  refine ⟨b1.set 3 _, b2.but hB (by simp; omega), b3.but hB (by simp; omega), ?_, ⟨?_, ?_, ?_⟩, ?_, hlo⟩
  · have hr : rfC h m (k + 1 + 2) = rfC h m (k + 2) ++ [.int .i64 (rfA h (k + 2)), .int .u64 (rfV h m (k + 2))] := rfC_succ h m (k + 2)
    rw [hr]
    refine ⟨ho.1, ?_⟩
    rcases ho.2 with ⟨e0, -⟩ | ⟨gb, cp, cur, e0, hb, hh, rest⟩
    · cases e0
    · injection e0 with e1 e2 e3
      injection e1 with e1
      injection e1 with e1
      refine .inr ⟨gb, cp, cur, by rw [e1, e3], hb, (hB.block gb (block_lt hh) (by simp; omega)).trans hh, rest⟩
  · show (some g' : Option Nat) ≠ some g
    simpa using f1
  · show (some g' : Option Nat) ≠ some bc
    simpa using f2
  · show (some g' : Option Nat) ≠ some (bc + 1)
    simpa using f3
  · have hx : But (rowB v) W W' := (But.refl _ _).grown hg (fun q hq => .inl (rowB_mem hq))
    have hrow : ∀ q ∈ rowB v, w.heap.size ≤ q := fun q hq => by
      have hq := mem_rowB hq
      rcases H.own.2 with ⟨e0, -⟩ | ⟨gb, cp, cur, e0, hb, -⟩
      · rw [e0] at hq; cases hq
      · rw [e0] at hq; injection hq with hq; rw [← hq]; exact hb
    have h1 := H.below.trans (hx.below hrow H.below.size)
    exact h1.trans (hB.below (by simp; omega) h1.size)
theorem info82 : (Tryz.prog.info? 82).map (fun i => (i.zero, i.size, i.bytes)) = some (some (.agg #[.int .i64 0, .int .u64 0]), 2, 16) := by kernel_rfl
set_option maxHeartbeats 8000000 in
theorem full_any (w : World) (h : Int) (m : Nat) (hm : m ≤ 256) (hh : 0 ≤ h ∧ h < 4294967296) :
    Calls Tryz.prog 34 #[.agg #[.int .i64 1, .int .i64 1, .int .i64 60], .int .u32 h, .int .i64 m] w fun e w' => ∃ E cap, e = .returned (.agg #[.int .i64 1, .int .i64 1, .int .i64 60, .slice E (m + 2) cap]) ∧ SeesP w' w'.heap.size E (m + 2) (rfA h) (rfV h m) ∧ Below w.heap.size w w' := by
  obtain ⟨i0, hi, hz0, hz1, hz2⟩ := info_parts info82
  have e64 : IntKind.u64.wrap h = h := wrap_u64 (by omega)
  have m64 : IntKind.u64.wrap (m : Int) = (m : Int) := wrap_u64 (by omega)
  have hm64 : IntKind.u64.wrap (h + (m : Int)) = h + (m : Int) := wrap_u64 (by omega)
  obtain ⟨tl, htl⟩ : ∃ tl, (h + (m : Int)) % 4294967296 = tl := ⟨_, rfl⟩
  have hmd : Int.tmod (h + (m : Int)) 4294967296 = tl := by rw [Int.tmod_eq_emod_of_nonneg (by omega)]; exact htl
  have htl64 : IntKind.u64.wrap tl = tl := wrap_u64 (by omega)
  have HX : Hid (0 ≤ h ∧ h < 4294967296 ∧ m ≤ 256 ∧ rfC h m 2 = [.int .i64 21, .int .u64 h, .int .i64 22, .int .u64 tl]) := ⟨hh.1, hh.2, hm, by rw [← htl]; rfl⟩
  clear htl
  go_enter Tryz.func34, Tryz.ntmps34
  go_wp2_with fail
  have HG0 : Hid (FuG w ((((w.alloc (.cells #[.int .i64 1, .int .i64 1, .int .i64 60] 23)).alloc (.cells #[.int .i64 0, .int .i64 0, .int .i64 0, .slice none 0 0] 26)).alloc (.cells #[.int .i64 21, .int .u64 h, .int .i64 22, .int .u64 tl] 82)).alloc (.cells #[.int .i64 1, .int .i64 1, .int .i64 60, .slice (some ⟨w.heap.size + 1 + 1, 0, none⟩) 2 2] 26)) h m 0 (w.heap.size + 1 + 1 + 1) w.heap.size (.slice (some ⟨w.heap.size + 1 + 1, 0, none⟩) 2 2)) := by
    have h0 := Blk.new w #[.int .i64 1, .int .i64 1, .int .i64 60] 23
    have h1 := Blk.new (w.alloc (.cells #[.int .i64 1, .int .i64 1, .int .i64 60] 23)) #[.int .i64 0, .int .i64 0, .int .i64 0, .slice none 0 0] 26
    have h2 := Blk.new ((w.alloc (.cells #[.int .i64 1, .int .i64 1, .int .i64 60] 23)).alloc (.cells #[.int .i64 0, .int .i64 0, .int .i64 0, .slice none 0 0] 26)) #[.int .i64 21, .int .u64 h, .int .i64 22, .int .u64 tl] 82
    have h3 := Blk.new (((w.alloc (.cells #[.int .i64 1, .int .i64 1, .int .i64 60] 23)).alloc (.cells #[.int .i64 0, .int .i64 0, .int .i64 0, .slice none 0 0] 26)).alloc (.cells #[.int .i64 21, .int .u64 h, .int .i64 22, .int .u64 tl] 82)) #[.int .i64 1, .int .i64 1, .int .i64 60, .slice (some ⟨w.heap.size + 1 + 1, 0, none⟩) 2 2] 26
    have e := HX.out.2.2.2
    simp only [World.size_alloc] at h1 h2 h3
    refine ⟨h3, ((h0.al _).al _).al _, (h1.al _).al _, ⟨by rw [e]; rfl, .inr ⟨w.heap.size + 1 + 1, 2, _, rfl, by omega, (h2.al _).heap, by omega, by unfold maxLen; omega, by simp, by rw [e]; rfl⟩⟩, ⟨by simp [Value.ownBlock], by simp [Value.ownBlock]; omega, by simp [Value.ownBlock]⟩, ((((Below.refl _ _).alloc (Nat.le_refl _) _).alloc (by simp) _).alloc (by simp; omega) _).alloc (by simp; omega) _, by omega⟩
  generalize ((((w.alloc (.cells #[.int .i64 1, .int .i64 1, .int .i64 60] 23)).alloc (.cells #[.int .i64 0, .int .i64 0, .int .i64 0, .slice none 0 0] 26)).alloc (.cells #[.int .i64 21, .int .u64 h, .int .i64 22, .int .u64 tl] 82)).alloc (.cells #[.int .i64 1, .int .i64 1, .int .i64 60, .slice (some ⟨w.heap.size + 1 + 1, 0, none⟩) 2 2] 26)) = W0 at *
  generalize (Value.slice (some ⟨w.heap.size + 1 + 1, 0, none⟩) 2 2) = v0 at *
  generalize w.heap.size + 1 + 1 + 1 = g at *
  clear hmd htl64 hm64
  go_loopw [8] (fun i wr => ∃ (k : Nat) (v : Value), k ≤ m ∧ i = .int .i64 k ∧ Hid (FuG w wr h m k g w.heap.size v)) (fun i _ => m - (intOf i).toNat)
  case atStart => exact ⟨0, v0, Nat.zero_le _, rfl, HG0⟩
  case round =>
    obtain ⟨k, v, hk, rfl, HG⟩ := hrel
    clear HG0
    by_cases hlt : k < m
    · have hX := HX.out
      obtain ⟨z, hz⟩ : ∃ z, (h + (k : Int)) % 256 = z := ⟨_, rfl⟩
      obtain ⟨y, hy⟩ : ∃ y : Nat, k % 60 = y := ⟨_, rfl⟩
      have hb := HG.out.blk
      have hx := HG.out.box
      obtain ⟨E, cp, rfl⟩ : ∃ E cp, v = .slice E (k + 2) cp := by
        rcases HG.out.own.2 with ⟨e0, h0⟩ | ⟨gb, cp, cur, e0, -⟩
        · omega
        · exact ⟨_, _, e0⟩
      have hA : (wr.alloc (.cells #[.int .i64 (28 + z), .int .u64 ((y : Int) + 1)] 82)).drew.cell? ⟨g, 3, none⟩ = some (.slice E (k + 2) cp) ∧ (wr.alloc (.cells #[.int .i64 (28 + z), .int .u64 ((y : Int) + 1)] 82)).drew.frozen? ⟨g, 3, none⟩ = false ∧ (wr.alloc (.cells #[.int .i64 (28 + z), .int .u64 ((y : Int) + 1)] 82)).drew.cell? ⟨w.heap.size, 2, none⟩ = some (.int .i64 60) := ⟨((hb.al _).drew).cell 3 rfl, ((hb.al _).drew).fro 3, ((hx.al _).drew).cell 2 rfl⟩
      have g3 := hb.cell 3 (v := .slice E (k + 2) cp) rfl
      have g4 := hx.cell 2 (v := .int .i64 60) rfl
      have HA : Hid _ := hA
      obtain ⟨hA1, hA2, hA3⟩ := hA
      have HFR : Hid ((Value.slice E (k + 2) cp).ownBlock ≠ some g ∧ g < wr.heap.size ∧ w.heap.size ≤ wr.heap.size ∧ k + 2 ≤ 1000) := ⟨HG.out.far.1, hb.lt, HG.out.below.size, by omega⟩
      have a1 : IntKind.u64.wrap (k : Int) = (k : Int) := wrap_u64 (by omega)
      have a2 : IntKind.u64.wrap (h + (k : Int)) = h + (k : Int) := wrap_u64 (by omega)
      have a3 : Int.tmod (h + (k : Int)) 256 = z := by rw [Int.tmod_eq_emod_of_nonneg (by omega)]; exact hz
      have a4 : IntKind.i64.wrap z = z := by simp [IntKind.wrap, IntKind.bits, IntKind.signed]; omega
      have a5 : IntKind.i64.wrap (28 + z) = 28 + z := by simp [IntKind.wrap, IntKind.bits, IntKind.signed]; omega
      have a6 : Int.tmod (k : Int) 60 = (y : Int) := by rw [← hy, Int.tmod_eq_emod_of_nonneg (by omega)]; rfl
      have a9 : IntKind.i64.wrap (y : Int) = (y : Int) := by simp [IntKind.wrap, IntKind.bits, IntKind.signed]; omega
      have a7 : IntKind.u64.wrap (y : Int) = (y : Int) := wrap_u64 (by omega)
      have a8 : IntKind.u64.wrap ((y : Int) + 1) = (y : Int) + 1 := wrap_u64 (by omega)
      have HE : Hid (rfA h (k + 2) = 28 + z ∧ rfV h m (k + 2) = (y : Int) + 1) := by
        refine ⟨?_, ?_⟩
        · unfold rfA; rw [if_neg (by omega), if_neg (by omega), ← hz]; rfl
        · unfold rfV; rw [if_neg (by omega), if_neg (by omega), ← hy]; rfl
      have hk0 : (0 : Int) ≤ (k : Int) := Int.natCast_nonneg _
      have hk1 : (k : Int) < (m : Int) := by omega
      have HKM : Hid (k < m) := hlt
      clear hX hb hx hz hy hh hm m64
      go_wp2_with fail
      go_region_law ((refine step_append_lies _ (by rfl) _ _ _ (by rfl) w.heap.size 82 i0 _ 2 16 Tryz.underlying24 hi hz0 hz1 hz2 rfl (by omega) (.slice E (k + 2) cp) (k + 2) (rfC h m (k + 2)) (by rfl) ((HG.out.own.alloc _).drew) ⟨wr.heap.size, 0, none⟩ 1 1 [.int .i64 (28 + z), .int .u64 ((y : Int) + 1)] (by rfl) (by rfl) (World.news_of_block (cs := #[.int .i64 (28 + z), .int .u64 ((y : Int) + 1)]) (t := 82) (fr := (0, 0)) (heap_alloc_new wr _)) (by simp [Value.oneCell']) (by omega) (by have := HFR.out.2.2.2; unfold maxLen; omega) (by have := HFR.out.2.2.2; omega) (by have := HFR.out.2.2.1; simp; omega) (wr.heap.size + 1) (by simp) ?_; intro gg cap1 w1 hown1 hgrow hat hlt1; have q0 : w1.cell? ⟨g, 3, none⟩ = some (.slice E (k + 2) cp) := (hgrow.cell_far ⟨g, 3, none⟩ (by have := HFR.out.2.1; simp; omega) (Ne.symm HFR.out.1)).trans HA.out.1; have q1 : w1.frozen? ⟨g, 3, none⟩ = false := (hgrow.frozen_far ⟨g, 3, none⟩ (by have := HFR.out.2.1; simp; omega) (Ne.symm HFR.out.1)).trans HA.out.2.1))
      all_goals
        have hN : Hid _ := FuG.next ((HG.out.al (.cells #[.int .i64 (28 + z), .int .u64 ((y : Int) + 1)] 82)).drew) (by rw [HE.out.1, HE.out.2]; exact hown1) hgrow (by rcases hat with h9 | h9; exact .inl h9; exact .inr (by simpa using h9)) hlt1
        clear q0 q1 hown1 hgrow hat hlt1 hA1 hA2 hA3 HA g3 g4 HG HE a1 a2 a3 a4 a5 a6 a7 a8 a9
        have hk9 := HFR.out.2.2.2
        go_wp2_with fail
        go_roundw
        case rel => exact ⟨k + 1, _, HKM.out, by go_num, hN⟩
        case measure => have := HKM.out; simp [intOf]; omega
    · obtain rfl : k = m := by omega
      obtain ⟨E, cp, rfl⟩ : ∃ E cp, v = .slice E (k + 2) cp := by
        rcases HG.out.own.2 with ⟨e0, h0⟩ | ⟨gb, cp, cur, e0, -⟩
        · omega
        · exact ⟨_, _, e0⟩
      have hb := HG.out.blk
      have hr := HG.out.res
      have g0 := hb.cell 0 (v := .int .i64 1) rfl
      have g1 := hb.cell 1 (v := .int .i64 1) rfl
      have g2 := hb.cell 2 (v := .int .i64 60) rfl
      have g3 := hb.cell 3 (v := .slice E (k + 2) cp) rfl
      have r0 := hr.cell 0 (v := .int .i64 0) rfl
      have r1 := hr.cell 1 (v := .int .i64 0) rfl
      have r2 := hr.cell 2 (v := .int .i64 0) rfl
      have r3 := hr.cell 3 (v := .slice none 0 0) rfl
      have f0 := hr.fro 0
      have f1 := hr.fro 1
      have f2 := hr.fro 2
      have f3 := hr.fro 3
      have HR : Hid _ := hr
      have HBL : Hid _ := HG.out
      clear hb hr HG HX hm m64 hlt hk hi hz0 hz1 hz2 e64
      go_wp2_with fail
      have hZ := (((HR.out.set 0 (.int .i64 1)).set 1 (.int .i64 1)).set 2 (.int .i64 60)).set 3 (.slice E (k + 2) cp)
      have hU : But [w.heap.size + 1] wr ((((wr.setCell ⟨w.heap.size + 1, 0, none⟩ (.int .i64 1)).setCell ⟨w.heap.size + 1, 1, none⟩ (.int .i64 1)).setCell ⟨w.heap.size + 1, 2, none⟩ (.int .i64 60)).setCell ⟨w.heap.size + 1, 3, none⟩ (.slice E (k + 2) cp)) := ((((But.refl _ wr).set (g := w.heap.size + 1) (.inl (by simp)) 0 _).set (g := w.heap.size + 1) (.inl (by simp)) 1 _).set (g := w.heap.size + 1) (.inl (by simp)) 2 _).set (g := w.heap.size + 1) (.inl (by simp)) 3 _
      generalize (((wr.setCell ⟨w.heap.size + 1, 0, none⟩ (.int .i64 1)).setCell ⟨w.heap.size + 1, 1, none⟩ (.int .i64 1)).setCell ⟨w.heap.size + 1, 2, none⟩ (.int .i64 60)).setCell ⟨w.heap.size + 1, 3, none⟩ (.slice E (k + 2) cp) = z at *
      have hfr : z.heap[w.heap.size + 1]? = some (.cells #[.int .i64 1, .int .i64 1, .int .i64 60, .slice E (k + 2) cp] 26 (0, 0)) := hZ.heap
      refine bodyPost_ret (v := .agg #[.int .i64 1, .int .i64 1, .int .i64 60, .slice E (k + 2) cp]) (results_cell_row rfl _ _ (w.heap.size + 1) 26 #[.int .i64 1, .int .i64 1, .int .i64 60, .slice E (k + 2) cp] _ _ rfl hfr Tryz.underlying26 rfl (by kernel_rfl)) rfl ?_
      have hF := HBL.out
      rcases hF.own.2 with ⟨e0, h0⟩ | ⟨gb, cp', cur, e0, q1, q2, q3, q4, q5, q6⟩
      · omega
      · injection e0 with e1 e2 e3
        have hgb : gb ≠ w.heap.size + 1 := fun e => hF.far.2.2 (by rw [e1, e]; rfl)
        have hh2 : z.heap[gb]? = some (.cells cur 82 (0, 0)) := (hU.block gb (block_lt q2) (by simpa using hgb)).trans q2
        refine ⟨E, cp, rfl, fun _ => ⟨gb, 0, e1, block_lt hh2, fun j hj => ?_⟩, hF.below.trans (hU.below (by simp) hF.below.size)⟩
        have hat := rfC_at h k (k + 2) j hj
        rw [← q6, List.getElem?_take, List.getElem?_take, if_pos (by omega), if_pos (by omega)] at hat
        simp only [World.cell?, hh2]
        refine ⟨?_, ?_⟩
        · rw [Nat.zero_add]; simpa using hat.1
        · rw [Nat.zero_add]; simpa using hat.2
end Go.Proofs.YthhlklfioipmgaaGreat

namespace Go.Proofs.YthhlklfioipmgaaGreat
open Go Go.RowKit
set_option linter.unusedVariables false
set_option maxRecDepth 100000
set_option linter.unusedSimpArgs false

/-- The cells behind Tail: what is given, how many are loaded, what puts them. -/
def rpRest (gv : List Int) (ld : Int) (qu : Option Addr) : List Value := gv.map (Value.int .i64) ++ [.int .i64 ld, .pointer qu]
section
variable {who : Int} {nx : Option Addr} {cl : Nat} {p g : Int} {has : Bool} {nt hd tl : Int} {gv : List Int} {ld : Int} {qu : Option Addr} (h : gv.length = 128)
include h
theorem rp_c137 : (rpCells who nx cl p g has nt hd tl (rpRest gv ld qu))[137]? = some (.int .i64 ld) := by
  unfold rpCells
  rw [List.getElem?_toArray]
  show (rpRest gv ld qu)[128]? = _
  unfold rpRest
  rw [List.getElem?_append_right (by simp [h])]
  simp [h]
theorem rp_c138 : (rpCells who nx cl p g has nt hd tl (rpRest gv ld qu))[138]? = some (.pointer qu) := by
  unfold rpCells
  rw [List.getElem?_toArray]
  show (rpRest gv ld qu)[129]? = _
  unfold rpRest
  rw [List.getElem?_append_right (by simp [h])]
  simp [h]
theorem rp_given (k : Nat) (hk : k < 128) : (rpCells who nx cl p g has nt hd tl (rpRest gv ld qu))[9 + k]? = some (.int .i64 (gv.getD k 0)) := by
  unfold rpCells
  rw [List.getElem?_toArray, Nat.add_comm]
  show (rpRest gv ld qu)[k]? = _
  unfold rpRest
  rw [List.getElem?_append_left (by simp [h]; omega), List.getElem?_map, List.getElem?_eq_getElem (by omega), List.getD_eq_getElem?_getD, List.getElem?_eq_getElem (by omega)]
  rfl
theorem rp_s137 (l' : Int) : (rpCells who nx cl p g has nt hd tl (rpRest gv ld qu)).setIfInBounds 137 (.int .i64 l') = (rpCells who nx cl p g has nt hd tl (rpRest gv l' qu)) := by
  unfold rpCells
  rw [List.setIfInBounds_toArray]
  congr 1
  show _ :: _ :: _ :: _ :: _ :: _ :: _ :: _ :: _ :: (rpRest gv ld qu).set 128 _ = _
  unfold rpRest
  rw [List.set_append_right _ _ (by simp [h])]
  simp [h]
theorem rp_s138 (q' : Option Addr) : (rpCells who nx cl p g has nt hd tl (rpRest gv ld qu)).setIfInBounds 138 (.pointer q') = (rpCells who nx cl p g has nt hd tl (rpRest gv ld q')) := by
  unfold rpCells
  rw [List.setIfInBounds_toArray]
  congr 1
  show _ :: _ :: _ :: _ :: _ :: _ :: _ :: _ :: _ :: (rpRest gv ld qu).set 129 _ = _
  unfold rpRest
  rw [List.set_append_right _ _ (by simp [h])]
  simp [h]
theorem rp_sgiven (k : Nat) (hk : k < 128) (v : Int) : (rpCells who nx cl p g has nt hd tl (rpRest gv ld qu)).setIfInBounds (9 + k) (.int .i64 v) = (rpCells who nx cl p g has nt hd tl (rpRest (gv.set k v) ld qu)) := by
  unfold rpCells
  rw [List.setIfInBounds_toArray, Nat.add_comm 9 k]
  congr 1
  show _ :: _ :: _ :: _ :: _ :: _ :: _ :: _ :: _ :: (rpRest gv ld qu).set k _ = _
  unfold rpRest
  rw [List.set_append_left _ _ (by simp [h]; omega), List.map_set]
end
section
variable (w : World) (x cl : Nat) (who p g P T G nt hd tl : Int) (has : Bool) (gv : List Int) (ld : Int) (qu nx : Option Addr) (hB : Blk w x (rpCells who nx cl p g has nt hd tl (rpRest gv ld qu)) 149) (hl : Lay w cl P T G) (hp : 0 ≤ P ∧ P ≤ 64)
include hB hl hp
set_option maxHeartbeats 2000000 in
theorem rp_lengthen (htb : 0 ≤ tl ∧ tl ≤ 18446744073709551615) : Calls Tryz.prog 183 #[.pointer (some ⟨x, 0, none⟩)] w fun e w' => (∃ v, e = .returned v) ∧ Came w w' x (rpCells who nx cl p g has nt hd tl (rpRest gv ld qu)) 149 (axSt (wd 20 P 264 p 2) ((tl + 1) % 4294967296)) (.untold 199) := by
  have c8 := hB.cell 8 rp_c8
  obtain ⟨a, ha⟩ : ∃ a, IntKind.u64.wrap (tl + 1) = a := ⟨_, rfl⟩
  have ha0 : 0 ≤ a ∧ a ≤ 18446744073709551615 := by rw [← ha]; simp [IntKind.wrap, IntKind.bits, IntKind.signed] <;> omega
  have e1 : a.tmod 4294967296 = (tl + 1) % 4294967296 := by
    rw [Int.tmod_eq_emod_of_nonneg ha0.1, ← ha]; simp [IntKind.wrap, IntKind.bits, IntKind.signed] <;> omega
  have e2 : IntKind.u64.wrap ((tl + 1) % 4294967296) = (tl + 1) % 4294967296 := wrap_u64 (by omega)
  have hPr := rp_proc w.drew x cl who p g P T G nt hd tl has (rpRest gv ld qu) nx hB.drew (hl.below ((Below.refl _ _).drew) hl.lt) hp 2 (by omega)
  generalize hh1 : (tl + 1) % 4294967296 = h1 at *
  have HS : Hid (∀ w4, Below w.drew.heap.size w.drew w4 → Calls Tryz.prog 127 #[.pointer (some ⟨x, 0, none⟩), .int .i64 (wd 20 P 264 p 2), .int .u64 h1, .func (.func 199) #[.pointer (some ⟨x, 0, none⟩)] #[]] w4 fun e w' => (∃ v, e = .returned v) ∧ Came w w' x (rpCells who nx cl p g has nt hd tl (rpRest gv ld qu)) 149 (axSt (wd 20 P 264 p 2) h1) (.untold 199)) := by
    intro w4 k
    have h4 : Blk w4 x (rpCells who nx cl p g has nt hd tl (rpRest gv ld qu)) 149 := hB.drew.but (But.of_below (l := []) k) (by simp)
    refine (came_store w4 x _ 149 h4 rp_size _ _ _).mono ?_
    rintro e w5 ⟨hv, hC⟩
    exact ⟨hv, hC.before ((But.refl [x] w).drew.trans (But.of_below k))⟩
  have hH : Hid (w.drew.cell? ⟨x, 8, none⟩ = some (.int .u64 tl)) := c8
  have KB : Hid (∀ w4, Below w.drew.heap.size w.drew w4 → w4.cell? ⟨x, 8, none⟩ = some (.int .u64 tl)) := fun w4 k => (hB.drew.but (But.of_below (l := []) k) (by simp)).cell 8 rp_c8
  generalize wd 20 P 264 p 2 = at' at *
  have KC : Hid (∀ w5, Came w w5 x (rpCells who nx cl p g has nt hd tl (rpRest gv ld qu)) 149 (axSt at' h1) (.untold 199) → w5.cell? ⟨x, 8, none⟩ = some (.int .u64 tl)) := fun w5 hC => by
    obtain ⟨q, Lc, g1, -⟩ := hC
    rw [rp_s1] at g1
    exact g1.cell 8 rp_c8
  clear hB hl hp hh1 ha0 htb
  go_enter Tryz.func183, Tryz.ntmps183
  go_wp2_with fail
  go_region_held3 (fun w' => w'.cell? ⟨x, 8, none⟩ = some (.int .u64 tl)) (first | exact hH.out | exact KB.out _ ‹_› | exact KC.out _ ‹_›) (first | (go_at_call 140; refine hPr.mono ?_; rintro e w4 ⟨rfl, k⟩) | (go_at_call 127; refine (HS.out _ ‹_›).mono ?_; rintro e w5 ⟨⟨v, rfl⟩, hC⟩))
  all_goals
    clear hPr k HS hH KB KC c8
    go_wp2_with fail
    go_end0
    exact ⟨⟨_, rfl⟩, hC⟩
set_option maxHeartbeats 4000000 in
theorem rp_choose_room (t : Int) (hxc : cl ≠ x) (ht : 0 ≤ t ∧ t ≤ 18446744073709551615) (hh : 0 ≤ hd ∧ hd ≤ 18446744073709551615) (hm : (t - hd) % 4294967296 < 256) : Calls Tryz.prog 168 #[.pointer (some ⟨x, 0, none⟩), .int .u64 t] w fun e w' => (∃ v, e = .returned v) ∧ Came w w' x (rpCells who nx cl p g has nt hd t (rpRest gv ld qu)) 149 (axSt (wd 20 P 264 p (8 + t % 256)) (rpw g)) (.untold 183) := by
  have c8 := hB.cell 8 rp_c8
  have hlt := hB.lt
  have f8 := hB.fro 8
  have hB' : Blk (w.setCell ⟨x, 8, none⟩ (.int .u64 t)) x (rpCells who nx cl p g has nt hd t (rpRest gv ld qu)) 149 := by
    have := hB.set 8 (.int .u64 t)
    rw [rp_s8] at this
    exact this
  have hU : But [x] w (w.setCell ⟨x, 8, none⟩ (.int .u64 t)) := (But.refl _ w).set (g := x) (.inl (by simp)) 8 _
  have hl' : Lay (w.setCell ⟨x, 8, none⟩ (.int .u64 t)) cl P T G := (hU.block cl hl.lt (by simpa using hxc)).trans hl
  generalize hV : w.setCell ⟨x, 8, none⟩ (.int .u64 t) = V at hB' hU hl'
  have c2 := hB'.cell 2 rp_c2
  have c3 := hB'.cell 3 rp_c3
  have c7 := hB'.cell 7 rp_c7
  have hM := fun w => mny_any hd t w hh ht
  have hd1 : decide ((t - hd) % 4294967296 < 256) = true := decide_eq_true hm
  have HRG : Hid (∀ Y, Below V.drew.heap.size V.drew Y → Calls Tryz.prog 95 #[.pointer (some ⟨cl, 0, none⟩), .int .i64 p, .int .u64 t] Y fun e w' => e = .returned (.int .i64 (wd 20 P 264 p (8 + t % 256))) ∧ Below V.drew.heap.size V.drew w') := fun Y k => (lrng_any (some ⟨cl, 0, none⟩) P T G p t Y (.some cl (Lay.below (w := V.drew) hl' k hl'.lt)) hp ht).mono fun e w' hh => ⟨hh.1, k.trans (hh.2.mono k.size)⟩
  have HW : Hid (∀ Y, Below V.drew.heap.size V.drew Y → Calls Tryz.prog 166 #[.pointer (some ⟨x, 0, none⟩)] Y fun e w' => e = .returned (.int .u64 (rpw g)) ∧ Y = w') := fun Y k => rp_word Y x cl who p g nt hd t has (rpRest gv ld qu) nx (hB'.drew.but (But.of_below (l := []) k) (by simp))
  have HS : Hid (∀ w4, Below V.drew.heap.size V.drew w4 → Calls Tryz.prog 127 #[.pointer (some ⟨x, 0, none⟩), .int .i64 (wd 20 P 264 p (8 + t % 256)), .int .u64 (rpw g), .func (.func 183) #[.pointer (some ⟨x, 0, none⟩)] #[]] w4 fun e w' => (∃ v, e = .returned v) ∧ Came w w' x (rpCells who nx cl p g has nt hd t (rpRest gv ld qu)) 149 (axSt (wd 20 P 264 p (8 + t % 256)) (rpw g)) (.untold 183)) := by
    intro w4 k
    have h4 : Blk w4 x (rpCells who nx cl p g has nt hd t (rpRest gv ld qu)) 149 := hB'.drew.but (But.of_below (l := []) k) (by simp)
    refine (came_store w4 x _ 149 h4 rp_size _ _ _).mono ?_
    rintro e w5 ⟨hv, hC⟩
    exact ⟨hv, hC.before (hU.drew.trans (But.of_below k))⟩
  generalize wd 20 P 264 p (8 + t % 256) = at' at *
  generalize (t - hd) % 4294967296 = mm at *
  generalize rpw g = gw' at *
  have hD : Hid (Below V.drew.heap.size V.drew V.drew) := Below.refl _ _
  have hH : Hid (V.drew.cell? ⟨x, 2, none⟩ = some (.pointer (some ⟨cl, 0, none⟩)) ∧ V.drew.cell? ⟨x, 3, none⟩ = some (.int .i64 p)) := ⟨c2, c3⟩
  have KB : Hid (∀ w4, Below V.drew.heap.size V.drew w4 → w4.cell? ⟨x, 2, none⟩ = some (.pointer (some ⟨cl, 0, none⟩)) ∧ w4.cell? ⟨x, 3, none⟩ = some (.int .i64 p)) := fun w4 k => by
    have h4 : Blk w4 x (rpCells who nx cl p g has nt hd t (rpRest gv ld qu)) 149 := hB'.drew.but (But.of_below (l := []) k) (by simp)
    exact ⟨h4.cell 2 rp_c2, h4.cell 3 rp_c3⟩
  have KC : Hid (∀ w5, Came w w5 x (rpCells who nx cl p g has nt hd t (rpRest gv ld qu)) 149 (axSt at' gw') (.untold 183) → w5.cell? ⟨x, 2, none⟩ = some (.pointer (some ⟨cl, 0, none⟩)) ∧ w5.cell? ⟨x, 3, none⟩ = some (.int .i64 p)) := fun w5 hC => by
    obtain ⟨q, Lc, h1, -⟩ := hC
    rw [rp_s1] at h1
    exact ⟨h1.cell 2 rp_c2, h1.cell 3 rp_c3⟩
  clear hB hB' hU hl' hl hp hxc ht hh hm
  go_enter Tryz.func168, Tryz.ntmps168
  go_wp2_with fail
  try rw [hV]
  clear hV c8 f8
  go_at_call 138; refine (hM _).mono ?_; rintro e w1 ⟨rfl, rfl⟩
  clear hM c7
  go_wp2_with fail
  go_region_held3 (fun w' => w'.cell? ⟨x, 2, none⟩ = some (.pointer (some ⟨cl, 0, none⟩)) ∧ w'.cell? ⟨x, 3, none⟩ = some (.int .i64 p)) (first | exact hH.out | exact KB.out _ ‹_› | exact KC.out _ ‹_›) (first | (go_at_call 95; refine (HRG.out _ hD.out).mono ?_; rintro e w4 ⟨rfl, k⟩) | (go_at_call 166; refine (HW.out _ ‹_›).mono ?_; rintro e w6 ⟨rfl, rfl⟩) | (go_at_call 127; refine (HS.out _ ‹_›).mono ?_; rintro e w7 ⟨⟨v, rfl⟩, hC⟩))
  all_goals
    clear HRG HW HS c2 c3 hH KB KC hD
    go_wp2_with fail
    refine bodyPost_ret (results_none rfl _ _ _) rfl ?_
    exact ⟨⟨_, rfl⟩, hC⟩
set_option maxHeartbeats 4000000 in
theorem rp_gather_swap (h128 : ld = 128) (hg : gv.length = 128) (hh : 0 ≤ hd ∧ hd ≤ 18446744073709551615) : Calls Tryz.prog 184 #[.pointer (some ⟨x, 0, none⟩)] w fun e w' => (∃ v, e = .returned v) ∧ Came w w' x (rpCells who nx cl p g has nt hd tl (rpRest gv ld qu)) 149 (axSw (wd 20 P 264 p 1) hd ((hd + 128) % 4294967296)) (.swap 200) := by
  have c137 := hB.cell 137 (rp_c137 hg)
  rw [h128] at c137
  have c7 := hB.cell 7 rp_c7
  obtain ⟨a, ha⟩ : ∃ a, IntKind.u64.wrap (hd + 128) = a := ⟨_, rfl⟩
  have ha0 : 0 ≤ a ∧ a ≤ 18446744073709551615 := by rw [← ha]; simp [IntKind.wrap, IntKind.bits, IntKind.signed] <;> omega
  have e1 : a.tmod 4294967296 = (hd + 128) % 4294967296 := by
    rw [Int.tmod_eq_emod_of_nonneg ha0.1, ← ha]; simp [IntKind.wrap, IntKind.bits, IntKind.signed] <;> omega
  have e2 : IntKind.u64.wrap ((hd + 128) % 4294967296) = (hd + 128) % 4294967296 := wrap_u64 (by omega)
  have hPr := rp_proc w.drew x cl who p g P T G nt hd tl has (rpRest gv ld qu) nx hB.drew (hl.below ((Below.refl _ _).drew) hl.lt) hp 1 (by omega)
  generalize hh1 : (hd + 128) % 4294967296 = h1 at *
  have HS : Hid (∀ w4, Below w.drew.heap.size w.drew w4 → Calls Tryz.prog 150 #[.pointer (some ⟨x, 0, none⟩), .int .i64 (wd 20 P 264 p 1), .int .u64 hd, .int .u64 h1, .func (.func 200) #[.pointer (some ⟨x, 0, none⟩)] #[]] w4 fun e w' => (∃ v, e = .returned v) ∧ Came w w' x (rpCells who nx cl p g has nt hd tl (rpRest gv ld qu)) 149 (axSw (wd 20 P 264 p 1) hd h1) (.swap 200)) := by
    intro w4 k
    have h4 : Blk w4 x (rpCells who nx cl p g has nt hd tl (rpRest gv ld qu)) 149 := hB.drew.but (But.of_below (l := []) k) (by simp)
    refine (came_swap w4 x _ 149 h4 rp_size _ _ _ _).mono ?_
    rintro e w5 ⟨hv, hC⟩
    exact ⟨hv, hC.before ((But.refl [x] w).drew.trans (But.of_below k))⟩
  have hH : Hid (w.drew.cell? ⟨x, 7, none⟩ = some (.int .u64 hd)) := c7
  have KB : Hid (∀ w4, Below w.drew.heap.size w.drew w4 → w4.cell? ⟨x, 7, none⟩ = some (.int .u64 hd)) := fun w4 k => (hB.drew.but (But.of_below (l := []) k) (by simp)).cell 7 rp_c7
  generalize wd 20 P 264 p 1 = at' at *
  have KC : Hid (∀ w5, Came w w5 x (rpCells who nx cl p g has nt hd tl (rpRest gv ld qu)) 149 (axSw at' hd h1) (.swap 200) → w5.cell? ⟨x, 7, none⟩ = some (.int .u64 hd)) := fun w5 hC => by
    obtain ⟨q, Lc, g1, -⟩ := hC
    rw [rp_s1] at g1
    exact g1.cell 7 rp_c7
  clear hB hl hp hh1 ha0 hh h128 hg
  go_enter Tryz.func184, Tryz.ntmps184
  go_wp2_with fail
  go_region_held3 (fun w' => w'.cell? ⟨x, 7, none⟩ = some (.int .u64 hd)) (first | exact hH.out | exact KB.out _ ‹_› | exact KC.out _ ‹_›) (first | (go_at_call 140; refine hPr.mono ?_; rintro e w4 ⟨rfl, k⟩) | (go_at_call 150; refine (HS.out _ ‹_›).mono ?_; rintro e w5 ⟨⟨v, rfl⟩, hC⟩))
  all_goals
    clear hPr k HS hH KB KC c7 c137
    go_wp2_with fail
    refine bodyPost_ret (results_none rfl _ _ _) rfl ?_
    exact ⟨⟨_, rfl⟩, hC⟩
set_option maxHeartbeats 4000000 in
theorem rp_gather_load (k : Nat) (hk : k < 128) (hld : ld = k) (hg : gv.length = 128) : Calls Tryz.prog 184 #[.pointer (some ⟨x, 0, none⟩)] w fun e w' => (∃ v, e = .returned v) ∧ Came w w' x (rpCells who nx cl p g has nt hd tl (rpRest gv ld qu)) 149 (axLd (wd 20 P 264 p (8 + IntKind.u64.wrap (hd + k) % 256))) (.told 201) := by
  have c137 := hB.cell 137 (rp_c137 hg)
  subst hld
  have c2 := hB.cell 2 rp_c2
  have c3 := hB.cell 3 rp_c3
  have c7 := hB.cell 7 rp_c7
  obtain ⟨z, hz⟩ : ∃ z, IntKind.u64.wrap (hd + k) = z := ⟨_, rfl⟩
  have hzb : 0 ≤ z ∧ z ≤ 18446744073709551615 := by rw [← hz]; generalize hd + (k : Int) = y; simp [IntKind.wrap, IntKind.bits, IntKind.signed]; omega
  rw [hz]
  have e0 : IntKind.u64.wrap (k : Int) = (k : Int) := wrap_u64 (by omega)
  have hk1 : decide ((k : Int) = 128) = false := decide_eq_false (by omega)
  have hk2 : ((k : Int) == 128) = false := by rw [beq_eq_false_iff_ne]; omega
  have hPr := lrng_any (some ⟨cl, 0, none⟩) P T G p z w.drew (.some cl (hl.below ((Below.refl _ _).drew) hl.lt)) hp hzb
  have HS : Hid (∀ w4, Below w.drew.heap.size w.drew w4 → Calls Tryz.prog 114 #[.pointer (some ⟨x, 0, none⟩), .int .i64 (wd 20 P 264 p (8 + z % 256)), .func (.func 201) #[.pointer (some ⟨x, 0, none⟩)] #[]] w4 fun e w' => (∃ v, e = .returned v) ∧ Came w w' x (rpCells who nx cl p g has nt hd tl (rpRest gv k qu)) 149 (axLd (wd 20 P 264 p (8 + z % 256))) (.told 201)) := by
    intro w4 k
    have h4 := hB.drew.but (But.of_below (l := []) k) (by simp)
    refine (came_load w4 x _ 149 h4 rp_size _ _).mono ?_
    rintro e w5 ⟨hv, hC⟩
    exact ⟨hv, hC.before ((But.refl [x] w).drew.trans (But.of_below k))⟩
  generalize wd 20 P 264 p (8 + z % 256) = at' at *
  have hH : Hid (w.drew.cell? ⟨x, 2, none⟩ = some (.pointer (some ⟨cl, 0, none⟩)) ∧ w.drew.cell? ⟨x, 3, none⟩ = some (.int .i64 p) ∧ w.drew.cell? ⟨x, 7, none⟩ = some (.int .u64 hd) ∧ w.drew.cell? ⟨x, 137, none⟩ = some (.int .i64 k)) := ⟨c2, c3, c7, c137⟩
  have KB : Hid (∀ w4, Below w.drew.heap.size w.drew w4 → (w4.cell? ⟨x, 2, none⟩ = some (.pointer (some ⟨cl, 0, none⟩)) ∧ w4.cell? ⟨x, 3, none⟩ = some (.int .i64 p) ∧ w4.cell? ⟨x, 7, none⟩ = some (.int .u64 hd) ∧ w4.cell? ⟨x, 137, none⟩ = some (.int .i64 k))) := fun w4 k4 => by
    have h4 := hB.drew.but (But.of_below (l := []) k4) (by simp)
    exact ⟨h4.cell 2 rp_c2, h4.cell 3 rp_c3, h4.cell 7 rp_c7, h4.cell 137 (rp_c137 hg)⟩
  have KC : Hid (∀ w5, Came w w5 x (rpCells who nx cl p g has nt hd tl (rpRest gv k qu)) 149 (axLd at') (.told 201) → (w5.cell? ⟨x, 2, none⟩ = some (.pointer (some ⟨cl, 0, none⟩)) ∧ w5.cell? ⟨x, 3, none⟩ = some (.int .i64 p) ∧ w5.cell? ⟨x, 7, none⟩ = some (.int .u64 hd) ∧ w5.cell? ⟨x, 137, none⟩ = some (.int .i64 k))) := fun w5 hC => by
    obtain ⟨q, Lc, h1, -⟩ := hC
    rw [rp_s1] at h1
    exact ⟨h1.cell 2 rp_c2, h1.cell 3 rp_c3, h1.cell 7 rp_c7, h1.cell 137 (rp_c137 hg)⟩
  clear hB hl hp hg hzb
  go_enter Tryz.func184, Tryz.ntmps184
  go_wp2_with fail
  go_region_held3 (fun w' => w'.cell? ⟨x, 2, none⟩ = some (.pointer (some ⟨cl, 0, none⟩)) ∧ w'.cell? ⟨x, 3, none⟩ = some (.int .i64 p) ∧ w'.cell? ⟨x, 7, none⟩ = some (.int .u64 hd) ∧ w'.cell? ⟨x, 137, none⟩ = some (.int .i64 k)) (first | exact hH.out | exact KB.out _ ‹_› | exact KC.out _ ‹_›) (first | (go_at_call 95; refine hPr.mono ?_; rintro e w4 ⟨rfl, k4⟩) | (go_at_call 114; refine (HS.out _ ‹_›).mono ?_; rintro e w5 ⟨⟨v, rfl⟩, hC⟩))
  all_goals
    clear hPr k4 HS hH KB KC c2 c3 c7 c137
    go_wp2_with fail
    go_end0
    exact ⟨⟨_, rfl⟩, hC⟩
end
end Go.Proofs.YthhlklfioipmgaaGreat

namespace Go.Proofs.YthhlklfioipmgaaGreat
open Go Go.RowKit
set_option linter.unusedVariables false
set_option maxRecDepth 100000
set_option linter.unusedSimpArgs false

section
variable (w : World) (x cl : Nat) (who p g P T G nt hd tl : Int) (has : Bool) (gv : List Int) (ld : Int) (qu nx : Option Addr) (hB : Blk w x (rpCells who nx cl p g has nt hd tl (rpRest gv ld qu)) 149) (hl : Lay w cl P T G) (hp : 0 ≤ P ∧ P ≤ 64)
include hB hl hp
set_option maxHeartbeats 4000000 in
theorem rp_choose_full (t : Int) (hxc : cl ≠ x) (hg : gv.length = 128) (ht : 0 ≤ t ∧ t ≤ 18446744073709551615) (hh : 0 ≤ hd ∧ hd ≤ 18446744073709551615) (hm : ¬ (t - hd) % 4294967296 < 256) : Calls Tryz.prog 168 #[.pointer (some ⟨x, 0, none⟩), .int .u64 t] w fun e w' => (∃ v, e = .returned v) ∧ Came w w' x (rpCells who nx cl p g has nt hd t (rpRest gv 0 qu)) 149 (axLd (wd 20 P 264 p (8 + IntKind.u64.wrap (hd + 0) % 256))) (.told 201) := by
  have c8 := hB.cell 8 rp_c8
  have f8 := hB.fro 8
  have hlt := hB.lt
  have hB1 : Blk (w.setCell ⟨x, 8, none⟩ (.int .u64 t)) x (rpCells who nx cl p g has nt hd t (rpRest gv ld qu)) 149 := by
    have := hB.set 8 (.int .u64 t)
    rw [rp_s8] at this
    exact this
  have c7 := hB1.cell 7 rp_c7
  have c137 := hB1.cell 137 (rp_c137 hg)
  have f137 := hB1.fro 137
  have hB2 : Blk ((w.setCell ⟨x, 8, none⟩ (.int .u64 t)).setCell ⟨x, 137, none⟩ (.int .i64 0)) x (rpCells who nx cl p g has nt hd t (rpRest gv 0 qu)) 149 := by
    have := hB1.set 137 (.int .i64 0)
    rw [rp_s137 hg] at this
    exact this
  have hU : But [x] w ((w.setCell ⟨x, 8, none⟩ (.int .u64 t)).setCell ⟨x, 137, none⟩ (.int .i64 0)) := ((But.refl _ w).set (g := x) (.inl (by simp)) 8 _).set (g := x) (.inl (by simp)) 137 _
  have hl2 := (hU.block cl hl.lt (by simpa using hxc)).trans hl
  have H := rp_gather_load _ x cl who p g P T G nt hd t has gv 0 qu nx hB2 hl2 hp 0 (by omega) rfl hg
  have HU : Hid (But [x] w ((w.setCell ⟨x, 8, none⟩ (.int .u64 t)).setCell ⟨x, 137, none⟩ (.int .i64 0))) := hU
  have hM := fun w => mny_any hd t w hh ht
  have hd1 : decide ((t - hd) % 4294967296 < 256) = false := decide_eq_false hm
  generalize (t - hd) % 4294967296 = mm at *
  generalize hV : w.setCell ⟨x, 8, none⟩ (.int .u64 t) = V at *
  generalize hV2 : V.setCell ⟨x, 137, none⟩ (.int .i64 0) = V2 at *
  have hltV : x < V.heap.size := hB1.lt
  clear hB hB1 hB2 hU hl hl2 hp hxc ht hh hm
  go_enter Tryz.func168, Tryz.ntmps168
  go_wp2_with fail
  try rw [hV]
  go_at_call 138; refine (hM _).mono ?_; rintro e w1 ⟨rfl, rfl⟩
  clear hM
  go_wp2_with fail
  try rw [hV2]
  go_at_call 184; refine H.mono ?_; rintro e w1 ⟨⟨v, rfl⟩, hC⟩
  have hCb := hC.before HU.out
  clear H hC hV hV2 c7 c8 f8 c137 f137
  go_wp2_with fail
  go_end0
  exact ⟨⟨_, rfl⟩, hCb⟩
end
section
variable (w : World) (x cl : Nat) (who p g P T G nt hd tl : Int) (has : Bool) (gv : List Int) (k : Nat) (qu nx : Option Addr) (hB : Blk w x (rpCells who nx cl p g has nt hd tl (rpRest gv k qu)) 149) (hl : Lay w cl P T G) (hp : 0 ≤ P ∧ P ≤ 64) (hk : k < 128) (hg : gv.length = 128) (hxc : cl ≠ x)
include hB hl hp hk hg hxc
omit hp in
/-- The world in which one more is kept. -/
theorem rp_kept (v : Int) : Blk (((w.setCell ⟨x, 9 + k, none⟩ (.int .i64 (gw v))).drew).setCell ⟨x, 137, none⟩ (.int .i64 ((k + 1 : Nat) : Int))) x (rpCells who nx cl p g has nt hd tl (rpRest (gv.set k (gw v)) ((k + 1 : Nat) : Int) qu)) 149 ∧ But [x] w (((w.setCell ⟨x, 9 + k, none⟩ (.int .i64 (gw v))).drew).setCell ⟨x, 137, none⟩ (.int .i64 ((k + 1 : Nat) : Int))) ∧ Lay (((w.setCell ⟨x, 9 + k, none⟩ (.int .i64 (gw v))).drew).setCell ⟨x, 137, none⟩ (.int .i64 ((k + 1 : Nat) : Int))) cl P T G := by
  have hU : But [x] w (((w.setCell ⟨x, 9 + k, none⟩ (.int .i64 (gw v))).drew).setCell ⟨x, 137, none⟩ (.int .i64 ((k + 1 : Nat) : Int))) := ((But.refl _ w).set (g := x) (.inl (by simp)) (9 + k) _).drew.set (g := x) (.inl (by simp)) 137 _
  refine ⟨?_, hU, (hU.block cl hl.lt (by simpa using hxc)).trans hl⟩
  have h1 := hB.set (9 + k) (.int .i64 (gw v))
  rw [rp_sgiven hg k hk] at h1
  have h2 := h1.drew.set 137 (.int .i64 ((k + 1 : Nat) : Int))
  rw [rp_s137 (by rw [List.length_set]; exact hg)] at h2
  exact h2
set_option maxHeartbeats 4000000 in
theorem rp_keep_on (v : Int) (hk2 : k + 1 < 128) : Calls Tryz.prog 201 #[.pointer (some ⟨x, 0, none⟩), .int .u64 v] w fun e w' => (∃ v, e = .returned v) ∧ Came w w' x (rpCells who nx cl p g has nt hd tl (rpRest (gv.set k (gw v)) ((k + 1 : Nat) : Int) qu)) 149 (axLd (wd 20 P 264 p (8 + IntKind.u64.wrap (hd + ((k + 1 : Nat) : Int)) % 256))) (.told 201) := by
  obtain ⟨h1, h2, h3⟩ := rp_kept w x cl who p g P T G nt hd tl has gv k qu nx hB hl hk hg hxc v
  have H := rp_gather_load _ x cl who p g P T G nt hd tl has (gv.set k (gw v)) _ qu nx h1 h3 hp (k + 1) hk2 rfl (by rw [List.length_set]; exact hg)
  have HU : Hid (But [x] w (((w.setCell ⟨x, 9 + k, none⟩ (.int .i64 (gw v))).drew).setCell ⟨x, 137, none⟩ (.int .i64 ((k + 1 : Nat) : Int)))) := h2
  have c137 := hB.cell 137 (rp_c137 hg)
  have ck := hB.cell (9 + k) (rp_given hg k hk)
  have fk := hB.fro (9 + k)
  have hlt := hB.lt
  obtain ⟨y, hy⟩ : ∃ y, IntKind.u64.wrap (v - 1) = y := ⟨_, rfl⟩
  obtain ⟨gx, hgx⟩ : ∃ gx, IntKind.i64.wrap y = gx := ⟨_, rfl⟩
  have hgw : gw v = gx := by unfold gw; rw [hy, hgx]
  rw [hgw] at h1 h2 h3 H HU ⊢
  have hk0 : (0 : Int) ≤ (k : Int) := by omega
  have hk1 : (k : Int) < 128 := by omega
  have e5 : wrap64 ((k : Int) + 1) = (k : Int) + 1 := by unfold wrap64; omega
  have HB1 : Hid (Blk ((w.setCell ⟨x, 9 + k, none⟩ (.int .i64 gx)).drew) x (rpCells who nx cl p g has nt hd tl (rpRest (gv.set k gx) k qu)) 149) := by
    have h4 := hB.set (9 + k) (.int .i64 gx)
    rw [rp_sgiven hg k hk] at h4
    exact h4.drew
  have hg2 : Hid ((gv.set k gx).length = 128) := (by rw [List.length_set]; exact hg : (gv.set k gx).length = 128)
  have hcast : ((k + 1 : Nat) : Int) = (k : Int) + 1 := by omega
  rw [hcast] at H HU ⊢
  clear hB hl hp hg h1 h2 h3 hgw hxc
  go_enter Tryz.func201, Tryz.ntmps201
  go_wp2_with fail
  go_region
  generalize (w.setCell ⟨x, 9 + k, none⟩ (.int .i64 gx)).drew = V at *
  have d137 := HB1.out.cell 137 (rp_c137 hg2.out)
  have f137 := HB1.out.fro 137
  have hltV := HB1.out.lt
  clear c137 ck fk HB1 hlt
  go_wp2_with fail
  generalize V.setCell ⟨x, 137, none⟩ (.int .i64 ((k : Int) + 1)) = V2 at *
  go_at_call 184; refine H.mono ?_; rintro e w1 ⟨⟨v, rfl⟩, hC⟩
  have hCb := hC.before HU.out
  clear H hC d137 f137
  go_wp2_with fail
  go_end0
  exact ⟨⟨_, rfl⟩, hCb⟩
set_option maxHeartbeats 4000000 in
theorem rp_keep_all (v : Int) (hh : 0 ≤ hd ∧ hd ≤ 18446744073709551615) (hk2 : k + 1 = 128) : Calls Tryz.prog 201 #[.pointer (some ⟨x, 0, none⟩), .int .u64 v] w fun e w' => (∃ v, e = .returned v) ∧ Came w w' x (rpCells who nx cl p g has nt hd tl (rpRest (gv.set k (gw v)) ((k + 1 : Nat) : Int) qu)) 149 (axSw (wd 20 P 264 p 1) hd ((hd + 128) % 4294967296)) (.swap 200) := by
  obtain ⟨h1, h2, h3⟩ := rp_kept w x cl who p g P T G nt hd tl has gv k qu nx hB hl hk hg hxc v
  have H := rp_gather_swap _ x cl who p g P T G nt hd tl has (gv.set k (gw v)) _ qu nx h1 h3 hp (by omega) (by rw [List.length_set]; exact hg) hh
  have HU : Hid (But [x] w (((w.setCell ⟨x, 9 + k, none⟩ (.int .i64 (gw v))).drew).setCell ⟨x, 137, none⟩ (.int .i64 ((k + 1 : Nat) : Int)))) := h2
  have c137 := hB.cell 137 (rp_c137 hg)
  have ck := hB.cell (9 + k) (rp_given hg k hk)
  have fk := hB.fro (9 + k)
  have hlt := hB.lt
  obtain ⟨y, hy⟩ : ∃ y, IntKind.u64.wrap (v - 1) = y := ⟨_, rfl⟩
  obtain ⟨gx, hgx⟩ : ∃ gx, IntKind.i64.wrap y = gx := ⟨_, rfl⟩
  have hgw : gw v = gx := by unfold gw; rw [hy, hgx]
  rw [hgw] at h1 h2 h3 H HU ⊢
  have hk0 : (0 : Int) ≤ (k : Int) := by omega
  have hk1 : (k : Int) < 128 := by omega
  have e5 : wrap64 ((k : Int) + 1) = (k : Int) + 1 := by unfold wrap64; omega
  have HB1 : Hid (Blk ((w.setCell ⟨x, 9 + k, none⟩ (.int .i64 gx)).drew) x (rpCells who nx cl p g has nt hd tl (rpRest (gv.set k gx) k qu)) 149) := by
    have h4 := hB.set (9 + k) (.int .i64 gx)
    rw [rp_sgiven hg k hk] at h4
    exact h4.drew
  have hg2 : Hid ((gv.set k gx).length = 128) := (by rw [List.length_set]; exact hg : (gv.set k gx).length = 128)
  have hcast : ((k + 1 : Nat) : Int) = (k : Int) + 1 := by omega
  rw [hcast] at H HU ⊢
  clear hB hl hp hg h1 h2 h3 hgw hxc
  go_enter Tryz.func201, Tryz.ntmps201
  go_wp2_with fail
  go_region
  generalize (w.setCell ⟨x, 9 + k, none⟩ (.int .i64 gx)).drew = V at *
  have d137 := HB1.out.cell 137 (rp_c137 hg2.out)
  have f137 := HB1.out.fro 137
  have hltV := HB1.out.lt
  clear c137 ck fk HB1 hlt
  go_wp2_with fail
  generalize V.setCell ⟨x, 137, none⟩ (.int .i64 ((k : Int) + 1)) = V2 at *
  go_at_call 184; refine H.mono ?_; rintro e w1 ⟨⟨v, rfl⟩, hC⟩
  have hCb := hC.before HU.out
  clear H hC d137 f137
  go_wp2_with fail
  go_end0
  exact ⟨⟨_, rfl⟩, hCb⟩
end
end Go.Proofs.YthhlklfioipmgaaGreat

namespace Go.Proofs.YthhlklfioipmgaaGreat
open Go Go.RowKit
set_option linter.unusedVariables false
set_option maxRecDepth 100000
set_option linter.unusedSimpArgs false

/-- The cells of a machine that begins. -/
def rpZ (nx : Option Addr) (who p g : Int) (cl : Nat) : Array Value := rpCells who nx cl p g true 0 0 0 (rpRest (List.replicate 128 0) 0 none)
def RpNew (w : World) (cl : Nat) (who p g P : Int) (nxt : Bool) (e : Ending) (w' : World) : Prop := ∃ (x q : Nat) (Lc : List Nat), e = .returned (.pointer (some ⟨x, 0, none⟩)) ∧ Blk w' x (rpZ (some ⟨q, 0, none⟩) who p g cl) 149 ∧ Com w' x q (axLd (wd 20 P 264 p (if nxt = true then 3 else 1))) (if nxt = true then .told 141 else .told 142) Lc ∧ x ∉ Lc ∧ Below w.heap.size w w' ∧ (∀ k ∈ Lc, w.heap.size ≤ k) ∧ w.heap.size ≤ x
theorem rp_zero (who p g : Int) (cl : Nat) : (((Tryz.zeroCells149.setIfInBounds 2 (.pointer (some ⟨cl, 0, none⟩))).setIfInBounds 3 (.int .i64 p)).setIfInBounds 4 (.int .i64 g)).setIfInBounds 5 (.bool true) = rpZ none 0 p g cl := by kernel_rfl
theorem rp_zset (who p g : Int) (cl : Nat) (nx : Option Addr) (v : Value) : (rpZ nx 0 p g cl).setIfInBounds 0 (.int .i64 who) = rpZ nx who p g cl := by simp [rpZ, rpCells]
theorem rp_new_step (w : World) (cl : Nat) (who p g P T G : Int) (nxt : Bool) (hl : Lay w cl P T G) (hP : 0 ≤ P ∧ P ≤ 64) :
    Calls Tryz.prog 36 #[.pointer (some ⟨cl, 0, none⟩), .int .i64 who, .int .i64 p, .int .i64 g, .bool nxt] w fun e w' => RpNew w cl who p g P nxt e w' := by
  have hB : Blk (w.alloc (.cells (rpZ none 0 p g cl) 149)) w.heap.size (rpZ none 0 p g cl) 149 := Blk.new _ _ _
  have hb : Below w.heap.size w (w.alloc (.cells (rpZ none 0 p g cl) 149)) := (Below.refl _ _).alloc (Nat.le_refl _) _
  have hF := fof_any _ w.heap.size _ 149 who hB (by simp [rpZ, rpCells])
  have HH : Hid (Blk _ w.heap.size _ 149 ∧ Below w.heap.size w _) := ⟨hB, hb⟩
  have hsz := World.size_alloc w (.cells (rpZ none 0 p g cl) 149)
  have HLY : Hid (Lay w cl P T G) := hl
  clear hB hb hl
  go_enter Tryz.func36, Tryz.ntmps36
  go_wp2_with fail
  rw [rp_zero who p g cl]
  generalize w.alloc (.cells (rpZ none 0 p g cl) 149) = W at *
  go_at_call 96; refine hF.mono ?_; rintro e w3 ⟨⟨v, rfl⟩, hw3⟩
  have h3 : Blk w3 w.heap.size (rpZ none who p g cl) 149 := by
    rw [hw3]
    have := HH.out.1.set 0 (.int .i64 who)
    rw [rp_zset who p g cl none (.int .i64 0)] at this
    exact this
  have hb3 : Hid (Below w.heap.size w w3) := by rw [hw3]; exact HH.out.2.trans (((But.refl [w.heap.size] W).set (g := w.heap.size) (.inl (by simp)) 0 _).below (by simp) (by rw [hsz]; omega))
  have hlt := h3.lt
  cases nxt with
  | true =>
    have hL := rp_lookNext w3 w.heap.size cl who p g P T G 0 0 0 true (rpRest (List.replicate 128 0) 0 none) none h3 (HLY.out.below hb3.out HLY.out.lt) hP
    clear hF hw3 HH h3 HLY
    go_wp2_with fail
    go_at_call 97; refine hL.mono ?_; rintro e w2 ⟨⟨v2, rfl⟩, hC⟩
    obtain ⟨q, Lc, c1, c2, c3, c4⟩ := hC
    rw [rp_s1] at c1
    have hF : Hid (Below w.heap.size w w2 ∧ (∀ k ∈ Lc, w.heap.size ≤ k) ∧ w.heap.size ∉ Lc) := ⟨hb3.out.trans (c3.below (by simp) hb3.out.size), fun k hk => by have := c4 k hk; omega, fun hm => by have := c4 _ hm; omega⟩
    have HC : Hid (Blk w2 w.heap.size (rpZ (some ⟨q, 0, none⟩) who p g cl) 149 ∧ Com w2 w.heap.size q (axLd (wd 20 P 264 p 3)) (.told 141) Lc) := ⟨c1, c2⟩
    clear hL c1 c2 c3 c4
    go_wp2_with fail
    go_ret
    exact ⟨w.heap.size, q, Lc, rfl, HC.out.1, HC.out.2, hF.out.2.2, hF.out.1, hF.out.2.1, Nat.le_refl _⟩
  | false =>
    have hL := rp_lookHead w3 w.heap.size cl who p g P T G 0 0 0 true (rpRest (List.replicate 128 0) 0 none) none h3 (HLY.out.below hb3.out HLY.out.lt) hP
    clear hF hw3 HH h3 HLY
    go_wp2_with fail
    go_at_call 98; refine hL.mono ?_; rintro e w2 ⟨⟨v2, rfl⟩, hC⟩
    obtain ⟨q, Lc, c1, c2, c3, c4⟩ := hC
    rw [rp_s1] at c1
    have hF : Hid (Below w.heap.size w w2 ∧ (∀ k ∈ Lc, w.heap.size ≤ k) ∧ w.heap.size ∉ Lc) := ⟨hb3.out.trans (c3.below (by simp) hb3.out.size), fun k hk => by have := c4 k hk; omega, fun hm => by have := c4 _ hm; omega⟩
    have HC : Hid (Blk w2 w.heap.size (rpZ (some ⟨q, 0, none⟩) who p g cl) 149 ∧ Com w2 w.heap.size q (axLd (wd 20 P 264 p 1)) (.told 142) Lc) := ⟨c1, c2⟩
    clear hL c1 c2 c3 c4
    go_wp2_with fail
    go_ret
    exact ⟨w.heap.size, q, Lc, rfl, HC.out.1, HC.out.2, hF.out.2.2, hF.out.1, hF.out.2.1, Nat.le_refl _⟩
theorem rp_take_no (w : World) (x cl : Nat) (who p g P T G nt hd tl : Int) (has : Bool) (rest : List Value) (nx : Option Addr) (hB : Blk w x (rpCells who nx cl p g has nt hd tl rest) 149) (hl : Lay w cl P T G) (hp : 0 ≤ P ∧ P ≤ 64) :
    Calls Tryz.prog 200 #[.pointer (some ⟨x, 0, none⟩), .bool false] w fun e w' => (∃ v, e = .returned v) ∧ Came w w' x (rpCells who nx cl p g has nt hd tl rest) 149 (axLd (wd 20 P 264 p 1)) (.told 142) := by
  have H := rp_lookHead w x cl who p g P T G nt hd tl has rest nx hB hl hp
  clear hB hl hp
  go_enter Tryz.func200, Tryz.ntmps200
  go_wp2_with fail
  go_at_call 98; refine H.mono ?_; rintro e w1 ⟨⟨v, rfl⟩, hC⟩
  clear H
  go_wp2_with fail
  refine bodyPost_ret (results_none rfl _ _ _) rfl ?_
  exact ⟨⟨_, rfl⟩, hC⟩
theorem rp_moved (w : World) (x cl : Nat) (who p g nt hd tl : Int) (has : Bool) (gv : List Int) (ld : Int) (qu nx : Option Addr) (hB : Blk w x (rpCells who nx cl p g has nt hd tl (rpRest gv ld qu)) 149) (hg : gv.length = 128) :
    Calls Tryz.prog 40 #[.pointer (some ⟨x, 0, none⟩)] w fun e w' => e = .returned (.int .i64 (if qu.isNone = true then 0 else 129)) ∧ w = w' := by
  have c138 := hB.cell 138 (rp_c138 hg)
  clear hB
  cases qu with
  | none =>
    go_enter Tryz.func40, Tryz.ntmps40
    go_wp2_with fail
    go_ret
    exact ⟨rfl, rfl⟩
  | some a =>
    go_enter Tryz.func40, Tryz.ntmps40
    go_wp2_with fail
    go_ret
    exact ⟨rfl, rfl⟩
theorem rp_moved_nil (w : World) : Calls Tryz.prog 40 #[.pointer none] w fun e w' => e = .returned (.int .i64 0) ∧ w = w' := by
  go_enter Tryz.func40, Tryz.ntmps40
  go_wp2_with fail
  go_ret
  exact ⟨rfl, rfl⟩
theorem rp_holds_nil (w : World) : Calls Tryz.prog 100 #[.pointer none] w fun e w' => e = .returned (.slice none 0 0) ∧ w = w' := by
  go_enter Tryz.func100, Tryz.ntmps100
  go_wp2_with fail
  go_ret
  exact ⟨rfl, rfl⟩
end Go.Proofs.YthhlklfioipmgaaGreat

namespace Go.Proofs.YthhlklfioipmgaaGreat
open Go Go.RowKit
set_option linter.unusedVariables false
set_option maxRecDepth 100000
set_option linter.unusedSimpArgs false


/-- A release that is to be run. -/
structure RelM (w : World) (x q g : Nat) (who sv ow : Int) : Prop where
  m : Blk w x (relCells who (some ⟨q, 0, none⟩) sv) 236
  com : Blk w q (comCells 2 0 ow 0 0 false .nilIface (.func (.func 180) #[] #[.pointer (some ⟨g, 0, none⟩)]) false false) 183
  box : Blk w g #[.func (.func 248) #[.pointer (some ⟨x, 0, none⟩)] #[]] 1
  o1 : x < q
  o2 : x < g
  ne : g ≠ q
/-- An acquire that is to be run. -/
structure AcqM (w : World) (x q : Nat) (who tk sv ow : Int) : Prop where
  m : Blk w x (acqCells who (some ⟨q, 0, none⟩) sv ow 0 false) 211
  com : Blk w q (comCells 4 0 tk 0 1 false .nilIface (.func (.func 192) #[.pointer (some ⟨x, 0, none⟩)] #[]) false false) 183
  o1 : x < q
theorem RelM.but {w w' : World} {x q g c : Nat} {who sv ow : Int} (h : RelM w x q g who sv ow) (hb : But [c] w w') (h1 : c < x) : RelM w' x q g who sv ow :=
  ⟨h.m.but hb (by simp; omega), h.com.but hb (by have := h.o1; simp; omega), h.box.but hb (by have := h.o2; simp; omega), h.o1, h.o2, h.ne⟩
theorem AcqM.but {w w' : World} {x q c : Nat} {who tk sv ow : Int} (h : AcqM w x q who tk sv ow) (hb : But [c] w w') (h1 : c < x) : AcqM w' x q who tk sv ow :=
  ⟨h.m.but hb (by simp; omega), h.com.but hb (by have := h.o1; simp; omega), h.o1⟩
theorem CameBox.before {a w w' : World} {c q g : Nat} {cs : Array Value} {com : Value → Array Value} {fv : Value} {T : TypeId} (h : CameBox w w' c cs T com fv q g) (hb : But [c] a w) : CameBox a w' c cs T com fv q g :=
  ⟨⟨Nat.le_trans hb.size h.at'.fresh, h.at'.own, h.at'.com, hb.trans h.at'.but⟩, Nat.le_trans hb.size h.fresh, h.box, h.ne⟩

end Go.Proofs.YthhlklfioipmgaaGreat

namespace Go.Proofs.YthhlklfioipmgaaGreat
open Go Go.RowKit
set_option linter.unusedVariables false
set_option maxRecDepth 100000
set_option linter.unusedSimpArgs false

section
variable (w : World) (x cl : Nat) (who p g nt hd tl : Int) (has : Bool) (gv : List Int) (ld : Int)
set_option maxHeartbeats 2000000 in
theorem rp_move (y : Nat) (nx : Option Addr) (a : Addr) (hB : Blk w x (rpCells who nx cl p g has nt hd tl (rpRest gv ld (some ⟨y, 0, none⟩))) 149) (hg : gv.length = 128) (hyx : y ≠ x) (hny : w.cell? ⟨y, 1, none⟩ = some (.pointer (some a))) :
    Calls Tryz.prog 213 #[.pointer (some ⟨x, 0, none⟩)] w fun e w' => (∃ v, e = .returned v) ∧ ∃ q b, CameBox w w' x (rpCells who nx cl p g has nt hd tl (rpRest gv ld (some ⟨y, 0, none⟩))) 149 (fun v => comCells 0 0 0 0 0 false (.iface 36 (.pointer (some ⟨y, 0, none⟩))) v false false) (.func (.func 224) #[.pointer (some ⟨x, 0, none⟩)] #[]) q b := by
  have c138 := hB.cell 138 (rp_c138 hg)
  have hf := frun_qput w.drew x y _ 149 (.func (.func 224) #[.pointer (some ⟨x, 0, none⟩)] #[]) a hB.drew rp_size (.some _ _ _) hyx hny
  have HU : Hid (But [x] w w.drew) := (But.refl [x] w).drew
  clear hB hny
  go_enter Tryz.func213, Tryz.ntmps213
  go_wp2_with fail
  go_region_with (first | (go_at_call 157; refine hf.mono ?_; rintro e w6 ⟨⟨v, rfl⟩, q, b, hC⟩))
  all_goals
    have HZ : Hid (CameBox w w6 x _ 149 _ _ q b) := hC.before HU.out
    clear hf hC c138 HU
    go_wp2_with fail
    go_end0
    exact ⟨⟨_, rfl⟩, q, b, HZ.out⟩
set_option maxHeartbeats 2000000 in
theorem rp_release (nx qu : Option Addr) (hB : Blk w x (rpCells who nx cl p g has nt hd tl (rpRest gv ld qu)) 149) (hg : gv.length = 128) :
    Calls Tryz.prog 224 #[.pointer (some ⟨x, 0, none⟩)] w fun e w' => (∃ v, e = .returned v) ∧ ∃ x2 q2 g2 q b, CameBox w w' x (rpCells who nx cl p g has nt hd tl (rpRest gv ld qu)) 149 (fun v => comCells 0 0 0 0 0 false (.iface 232 (.pointer (some ⟨x2, 0, none⟩))) v false false) .nilFunc q b ∧ RelM w' x2 q2 g2 who (wd 0 2 3 0 1) (wd 0 2 3 0 2) ∧ w.heap.size ≤ x2 ∧ q2 < q ∧ q2 < b ∧ g2 < q ∧ g2 < b := by
  have hlt := hB.lt
  have c2 := hB.cell 2 rp_c2
  have hO := who_any w.drew x who (hB.drew.cell 0 rp_c0)
  have hR := rel_new w.drew cl 0 who
  generalize wd 0 2 3 0 1 = sv at *
  generalize wd 0 2 3 0 2 = ow at *
  have HH : Hid (Blk w x (rpCells who nx cl p g has nt hd tl (rpRest gv ld qu)) 149) := hB
  clear hB hg
  go_enter Tryz.func224, Tryz.ntmps224
  go_wp2_with fail
  go_region_with (first | (go_at_call 156; refine hO.mono ?_; rintro e w3 ⟨rfl, rfl⟩) | (go_at_call 236; refine hR.mono ?_; rintro e w4 ⟨x2, q2, g2, rfl, k1, k2, k3, k4, k5, k6, k7, k8, k9⟩; have hB4 : But [x] w w4 := ((But.refl [x] w).drew).trans (But.of_below k4); have hf := frun_rel w4 x x2 _ 149 .nilFunc ⟨q2, 0, none⟩ (HH.out.but (But.of_below (l := []) (show Below w.heap.size w w4 from (Below.refl _ _).drew.trans k4)) (by simp)) rp_size .none (by have : w.heap.size ≤ x2 := k5; omega) (k1.cell 1 rfl)) | (go_at_call 157; refine hf.mono ?_; rintro e w5 ⟨⟨v, rfl⟩, q, b, hC⟩))
  all_goals
    have k5' : w.heap.size ≤ x2 := k5
    have hM : RelM w4 x2 q2 g2 who sv ow := ⟨k1, k2, k3, k7, k8, k9⟩
    have hM5 := hM.but hC.at'.but (by omega)
    have hq2 := hM.com.lt
    have hg2 := hM.box.lt
    have hC5 := hC.before hB4
    have f1 := hC.at'.fresh
    have f2 := hC.fresh
    clear hO hR c2 hf k1 k2 k3 k4 k5 k6 k7 k8 k9 hC hB4 hM HH
    go_wp2_with fail
    go_end0
    exact ⟨⟨_, rfl⟩, x2, q2, g2, q, b, hC5, hM5, k5', by omega, by omega, by omega, by omega⟩
end
end Go.Proofs.YthhlklfioipmgaaGreat

namespace Go.Proofs.YthhlklfioipmgaaGreat
open Go Go.RowKit Go.Maps
set_option linter.unusedVariables false
set_option maxRecDepth 100000
set_option linter.unusedSimpArgs false

/-- What take leaves: the queue's machine, and the lock's, which is run. -/
def RpTook (w : World) (x cl : Nat) (who p g nt hd tl : Int) (has : Bool) (gv : List Int) (ld : Int) (nx : Option Addr) (QP : World → Nat → List Nat → Prop) (e : Ending) (w' : World) : Prop := (∃ v, e = .returned v) ∧ ∃ (y : Nat) (L : List Nat) (x2 q2 q b : Nat), CameBox w w' x (rpCells who nx cl p g has nt hd tl (rpRest gv ld (some ⟨y, 0, none⟩))) 149 (fun v => comCells 0 0 0 0 0 false (.iface 200 (.pointer (some ⟨x2, 0, none⟩))) v false false) (.func (.func 213) #[.pointer (some ⟨x, 0, none⟩)] #[]) q b ∧ QP w' y L ∧ AcqM w' x2 q2 who (wd 0 2 3 0 0) (wd 0 2 3 0 1) (wd 0 2 3 0 2) ∧ (∀ k ∈ L, w.heap.size ≤ k ∧ k < x2) ∧ w.heap.size ≤ x2 ∧ q2 < q ∧ q2 < b ∧ w.heap.size ≤ y
set_option maxHeartbeats 4000000 in
theorem rp_take_yes (w : World) (x cl : Nat) (who p g P T G nt hd tl : Int) (has : Bool) (gv : List Int) (ld : Int) (qu nx : Option Addr) (QP : World → Nat → List Nat → Prop)
    (hB : Blk w x (rpCells who nx cl p g has nt hd tl (rpRest gv ld qu)) 149) (hg : gv.length = 128) (hl : Lay w cl P T G) (hxc : cl ≠ x)
    (hK : ∀ (a b : World) (y : Nat) (L : List Nat), QP a y L → But [x] a b → x ∉ L → QP b y L)
    (hN : ∀ (Y : World) (v : Value), Lay Y cl P T G → SeesL Y v (gv ++ [g]) → Calls Tryz.prog 12 #[.pointer (some ⟨cl, 0, none⟩), .int .i64 who, v] Y fun e w' => ∃ y L, e = .returned (.pointer (some ⟨y, 0, none⟩)) ∧ QP w' y L ∧ Below Y.heap.size Y w' ∧ (∀ k ∈ L, Y.heap.size ≤ k) ∧ (∀ k ∈ L, k < w'.heap.size) ∧ Y.heap.size ≤ y) :
    Calls Tryz.prog 200 #[.pointer (some ⟨x, 0, none⟩), .bool true] w fun e w' => RpTook w x cl who p g nt hd tl has gv ld nx QP e w' := by
  obtain ⟨i3, hi3, hz03, hz13, hz23⟩ := info_parts lists_info3
  have hlt := hB.lt
  have hO := who_any w x who (hB.cell 0 rp_c0)
  have c2 := hB.cell 2 rp_c2
  have c4 := hB.cell 4 rp_c4
  have HGV : Hid (∀ X, Blk X x (rpCells who nx cl p g has nt hd tl (rpRest gv ld qu)) 149 → ∀ j u, (gv.map (Value.int .i64))[j]? = some u → X.cell? ((⟨x, 9, none⟩ : Addr).add j) = some u) := fun X hX j u hu => by
    rw [List.getElem?_map] at hu
    by_cases hj : j < 128
    · rw [List.getElem?_eq_getElem (by omega)] at hu
      have h1 := hX.cell (9 + j) (rp_given hg j hj)
      rw [List.getD_eq_getElem?_getD, List.getElem?_eq_getElem (by omega)] at h1
      simp at hu
      rw [← hu]
      by_cases h0 : j = 0
      · subst h0; simpa [Addr.add] using h1
      · simpa [Addr.add, h0] using h1
    · rw [List.getElem?_eq_none (by omega)] at hu
      cases hu
  have HH : Hid (Blk w.drew x (rpCells who nx cl p g has nt hd tl (rpRest gv ld qu)) 149 ∧ Lay w.drew cl P T G) := ⟨hB.drew, hl.below ((Below.refl _ _).drew) hl.lt⟩
  have hA : Hid (Blk (w.drew.alloc (.cells #[.int .i64 g] 3)) x (rpCells who nx cl p g has nt hd tl (rpRest gv ld qu)) 149) := HH.out.1.al _
  clear hB hl
  go_enter Tryz.func200, Tryz.ntmps200
  go_wp2_with fail
  go_at_call 156; refine hO.mono ?_; rintro e w3 ⟨rfl, rfl⟩
  clear hO
  go_wp2_with fail
  have hH : Hid (w.drew.cell? ⟨x, 2, none⟩ = some (.pointer (some ⟨cl, 0, none⟩)) ∧ w.drew.cell? ⟨x, 4, none⟩ = some (.int .i64 g)) := ⟨HH.out.1.cell 2 rp_c2, HH.out.1.cell 4 rp_c4⟩
  have hHA : Hid ((w.drew.alloc (.cells #[.int .i64 g] 3)).cell? ⟨x, 2, none⟩ = some (.pointer (some ⟨cl, 0, none⟩)) ∧ (w.drew.alloc (.cells #[.int .i64 g] 3)).cell? ⟨x, 4, none⟩ = some (.int .i64 g)) := ⟨hA.out.cell 2 rp_c2, hA.out.cell 4 rp_c4⟩
  have HL1 : Hid (Lay (w.drew.alloc (.cells #[.int .i64 g] 3)) cl P T G) := HH.out.2.below ((Below.refl _ _).alloc (Nat.le_refl _) _) HH.out.2.lt
  have HNN : Hid (∀ (Y : World) (v : Value), Lay Y cl P T G → SeesL Y v (gv ++ [g]) → Calls Tryz.prog 12 #[.pointer (some ⟨cl, 0, none⟩), .int .i64 who, v] Y fun e w' => ∃ y L, e = .returned (.pointer (some ⟨y, 0, none⟩)) ∧ QP w' y L ∧ Below Y.heap.size Y w' ∧ (∀ k ∈ L, Y.heap.size ≤ k) ∧ (∀ k ∈ L, k < w'.heap.size) ∧ Y.heap.size ≤ y) := hN
  have HSN : Hid (∀ X : World, Blk X x (rpCells who nx cl p g has nt hd tl (rpRest gv ld qu)) 149 → X.cell? ⟨x, 2, none⟩ = some (.pointer (some ⟨cl, 0, none⟩)) ∧ X.cell? ⟨x, 4, none⟩ = some (.int .i64 g)) := fun X h => ⟨h.cell 2 rp_c2, h.cell 4 rp_c4⟩
  have HST : Hid (∀ (X : World) (u : Value), Blk X x (rpCells who nx cl p g has nt hd tl (rpRest gv ld qu)) 149 → (X.setCell ⟨x, 138, none⟩ u).cell? ⟨x, 2, none⟩ = some (.pointer (some ⟨cl, 0, none⟩)) ∧ (X.setCell ⟨x, 138, none⟩ u).cell? ⟨x, 4, none⟩ = some (.int .i64 g)) := fun X u h => by
    have h2 := h.set 138 u
    refine ⟨h2.cell 2 ?_, h2.cell 4 ?_⟩
    · rw [Array.getElem?_setIfInBounds_ne (by decide)]; exact rp_c2
    · rw [Array.getElem?_setIfInBounds_ne (by decide)]; exact rp_c4
  have HGR : Hid (∀ (w1 : World) (v' : Value), w1.ownsRow (w.drew.alloc (.cells #[.int .i64 g] 3)).heap.size 3 1 v' 129 (gv.map (Value.int .i64) ++ [.int .i64 g]) → (w.drew.alloc (.cells #[.int .i64 g] 3)).grownBy w1 none → Blk w1 x (rpCells who nx cl p g has nt hd tl (rpRest gv ld qu)) 149 ∧ Lay w1 cl P T G ∧ SeesL w1 v' (gv ++ [g]) ∧ But [x] w w1) := fun w1 v' hown hgrow => by
    have hb1 : Below (w.drew.alloc (.cells #[.int .i64 g] 3)).heap.size (w.drew.alloc (.cells #[.int .i64 g] 3)) w1 := (Below.refl _ _).grown hgrow (Nat.le_refl _) (fun k h => by cases h)
    refine ⟨hA.out.but (But.of_below (l := []) hb1) (by simp), HL1.out.below hb1 HL1.out.lt, IntsOn.sees (base := (w.drew.alloc (.cells #[.int .i64 g] 3)).heap.size) ⟨by rw [List.map_append, List.length_append, hg]; exact hown⟩, ((But.refl [x] w).drew.alloc _).trans (But.of_below hb1)⟩
  clear c2 c4 hN
  go_region_held_law (fun X => X.cell? ⟨x, 2, none⟩ = some (.pointer (some ⟨cl, 0, none⟩)) ∧ X.cell? ⟨x, 4, none⟩ = some (.int .i64 g)) (first | exact hH.out | exact hHA.out | exact HST.out _ _ ‹_› | assumption) (first | (refine step_append_grows rfl (.tmp 22) (.tmp 27) 27 rfl 3 i3 (.int .i64 0) 1 8 Tryz.underlying27 hi3 hz03 hz13 hz23 rfl (by decide) (some ⟨x, 9, none⟩) 128 128 (gv.map (Value.int .i64)) (by rfl) (fun h => by cases h) (by simp [hg]) (fun b e => by cases e; exact HGV.out _ hA.out) ⟨w.drew.heap.size, 0, none⟩ 1 1 [.int .i64 g] (by rfl) (by rfl) (cell_one_new _ _ _) (ints_oneCell .i64 [g]) (by omega) (by unfold maxLen; omega) (by omega) ?_; intro v' w1 hown hgrow; obtain ⟨hb1, hl1, hs1, hu1⟩ := HGR.out w1 v' hown hgrow; have q1 := HSN.out w1 hb1) | (go_at_call 12; refine (HNN.out _ _ hl1 hs1).mono ?_; rintro e w2 ⟨y, L, rfl, y1, y2, y3, y4, y5⟩; have hb2 := hb1.but (But.of_below (l := []) y2) (by simp); have q2 := HSN.out w2 hb2; have s138 := hb2.cell 138 (rp_c138 hg); have t138 := hb2.fro 138; have u138 := hb2.lt))
  all_goals
    have h5 : Blk (w2.setCell ⟨x, 138, none⟩ (.pointer (some ⟨y, 0, none⟩))) x (rpCells who nx cl p g has nt hd tl (rpRest gv ld (some ⟨y, 0, none⟩))) 149 := by
      have h4 := hb2.set 138 (.pointer (some ⟨y, 0, none⟩))
      rw [rp_s138 hg] at h4
      exact h4
    have hs1w : w.heap.size ≤ w1.heap.size := hu1.size
    have hxL : x ∉ L := fun hm => absurd (y3 x hm) (by omega)
    have hq5 : QP (w2.setCell ⟨x, 138, none⟩ (.pointer (some ⟨y, 0, none⟩))) y L := hK _ _ _ _ y1 ((But.refl [x] w2).set (g := x) (.inl (by simp)) 138 _) hxL
    have hB5 : But [x] w (w2.setCell ⟨x, 138, none⟩ (.pointer (some ⟨y, 0, none⟩))) := (hu1.trans (But.of_below y2)).set (g := x) (.inl (by simp)) 138 _
    have hL5 : Hid ((∀ k ∈ L, w.heap.size ≤ k ∧ k < (w2.setCell ⟨x, 138, none⟩ (.pointer (some ⟨y, 0, none⟩))).heap.size) ∧ w.heap.size ≤ y ∧ x ∉ L) := ⟨fun k hk => ⟨Nat.le_trans hs1w (y3 k hk), by rw [size_set]; exact y4 k hk⟩, Nat.le_trans hs1w y5, hxL⟩
    generalize w2.setCell ⟨x, 138, none⟩ (.pointer (some ⟨y, 0, none⟩)) = V at *
    have H5 : Hid (Blk V x (rpCells who nx cl p g has nt hd tl (rpRest gv ld (some ⟨y, 0, none⟩))) 149 ∧ QP V y L ∧ But [x] w V) := ⟨h5, hq5, hB5⟩
    have c2 := h5.cell 2 rp_c2
    have hszV := hB5.size
    clear h5 hq5 hB5 q1 q2 s138 t138 u138 hb1 hl1 hs1 hb2 y1 y2 y3 y4 y5 hown hgrow HGR HST HSN HNN HL1 hHA hH hA HH HGV hu1 hxL hs1w
    have hR := fun w => lock_new w cl 0 who
    have hR := hR V.drew
    go_wp2_with fail
    go_region_with (first | (go_at_call 174; refine hR.mono ?_; rintro e w4 ⟨x2, q2, rfl, k1, k2, k4, k5, k6, k7⟩; have hB4 : But [x] w w4 := H5.out.2.2.trans (((But.refl [x] V).drew).trans (But.of_below k4)); have hf := frun_acq w4 x x2 _ 149 (.func (.func 213) #[.pointer (some ⟨x, 0, none⟩)] #[]) ⟨q2, 0, none⟩ (H5.out.1.but (But.of_below (l := []) (show Below V.heap.size V w4 from (Below.refl _ _).drew.trans k4)) (by simp)) rp_size (.some _ _ _) (by have : V.heap.size ≤ x2 := k5; omega) (k1.cell 1 rfl)) | (go_at_call 157; refine hf.mono ?_; rintro e w5 ⟨⟨v, rfl⟩, q, b, hC⟩))
    all_goals
      have k5' : V.heap.size ≤ x2 := k5
      have hM : AcqM w4 x2 q2 who (wd 0 2 3 0 0) (wd 0 2 3 0 1) (wd 0 2 3 0 2) := ⟨k1, k2, k7⟩
      have hM5 := hM.but hC.at'.but (by omega)
      have hq2 := hM.com.lt
      have hC5 := hC.before hB4
      have f1 := hC.at'.fresh
      have f2 := hC.fresh
      have hq9 : QP w5 y L := hK _ _ _ _ H5.out.2.1 ((But.of_below (show Below V.heap.size V w4 from (Below.refl _ _).drew.trans k4)).trans hC.at'.but) hL5.out.2.2
      have HZ : Hid (RpTook w x cl who p g nt hd tl has gv ld nx QP (.returned v) w5) := ⟨⟨_, rfl⟩, y, L, x2, q2, q, b, hC5, hq9, hM5, fun k hk => ⟨(hL5.out.1 k hk).1, Nat.lt_of_lt_of_le (hL5.out.1 k hk).2 k5'⟩, Nat.le_trans hszV k5', by omega, by omega, hL5.out.2.1⟩
      clear hR hf k1 k2 k4 k5 k6 k7 hC hB4 hM H5 hq9 hC5 hM5 c2
      go_wp2_with fail
      go_end0
      exact ⟨⟨_, rfl⟩, HZ.out.2⟩
end Go.Proofs.YthhlklfioipmgaaGreat

namespace Go.Proofs.YthhlklfioipmgaaGreat
open Go Go.RowKit
set_option linter.unusedVariables false
set_option maxRecDepth 100000
set_option linter.unusedSimpArgs false


def putCells (who : Int) (nx : Option Addr) (c : Nat) (g : Int) : Array Value := #[.int .i64 who, .pointer nx, .pointer (some ⟨c, 0, none⟩), .int .i64 g]

end Go.Proofs.YthhlklfioipmgaaGreat

namespace Go.Proofs.YthhlklfioipmgaaGreat
open Go Go.RowKit
set_option linter.unusedVariables false
set_option maxRecDepth 100000
set_option linter.unusedSimpArgs false


def getCells (who : Int) (nx : Option Addr) (c : Nat) (g : Int) (got : Bool) : Array Value := #[.int .i64 who, .pointer nx, .pointer (some ⟨c, 0, none⟩), .int .i64 g, .bool got]

theorem glob_word17 (w : World) (c : Nat) : Calls Tryz.prog 86 #[.pointer (some ⟨c, 0, none⟩), .int .i64 17] w fun e w' => e = .returned (.int .i64 17) ∧ w = w' := by
  go_enter Tryz.func86, Tryz.ntmps86
  go_wp2_with fail
  go_ret
  exact ⟨rfl, rfl⟩

end Go.Proofs.YthhlklfioipmgaaGreat

namespace Go.Proofs.YthhlklfioipmgaaGreat
open Go Go.RowKit
set_option linter.unusedVariables false
set_option maxRecDepth 100000
set_option linter.unusedSimpArgs false


end Go.Proofs.YthhlklfioipmgaaGreat

namespace Go.Proofs.YthhlklfioipmgaaGreat
open Go Go.RowKit
set_option linter.unusedVariables false
set_option maxRecDepth 100000
set_option linter.unusedSimpArgs false


end Go.Proofs.YthhlklfioipmgaaGreat

namespace Go.Proofs.YthhlklfioipmgaaGreat
open Go Go.RowKit
set_option linter.unusedVariables false
set_option maxRecDepth 100000
set_option linter.unusedSimpArgs false


end Go.Proofs.YthhlklfioipmgaaGreat

namespace Go.Proofs.YthhlklfioipmgaaGreat
open Go Go.RowKit
set_option linter.unusedVariables false
set_option maxRecDepth 100000
set_option linter.unusedSimpArgs false

def acqSub (tk sv ow who : Int) : Sub := ⟨AcqT, acqPM tk sv ow who, (acqFl who sv ow).I (acqPM tk sv ow who), Rd.nil, 200, 288⟩
def relSub (sv ow who : Int) : Sub := ⟨RelT, relPM sv ow, (relFl who sv).I (relPM sv ow), Rd.nil, 232, 294⟩
theorem acqSub_ok (tk sv ow who : Int) (hw : 0 ≤ who ∧ who ≤ 1000000) (R : Rd) : Steps (acqPM tk sv ow who) ((acqFl who sv ow).I (acqPM tk sv ow who)) Rd.nil 288 who ∧ MI.Good ((acqFl who sv ow).I (acqPM tk sv ow who)) (acqPM tk sv ow who) ∧ ActRun 200 288 ∧ (∀ w, R.P w → Rd.nil.P w) ∧ (∀ k ∈ Rd.nil.B, k ∈ R.B) :=
  ⟨Fl.steps (acq_laws _ _ _ who hw) stepby_acq, Fl.good (acq_laws _ _ _ who hw), act_acq, fun _ _ => trivial, fun k hk => by cases hk⟩
theorem relSub_ok (sv ow who : Int) (R : Rd) : Steps (relPM sv ow) ((relFl who sv).I (relPM sv ow)) Rd.nil 294 who ∧ MI.Good ((relFl who sv).I (relPM sv ow)) (relPM sv ow) ∧ ActRun 232 294 ∧ (∀ w, R.P w → Rd.nil.P w) ∧ (∀ k ∈ Rd.nil.B, k ∈ R.B) :=
  ⟨Fl.steps (rel_laws _ _ who) stepby_rel, Fl.good (rel_laws _ _ who), act_rel, fun _ _ => trivial, fun k hk => by cases hk⟩
theorem acqSub_at {w : World} {y q : Nat} {tk sv ow who : Int} (h : AcqM w y q who tk sv ow) : ((acqFl who sv ow).I (acqPM tk sv ow who)) w y AcqT.fresh [y, q] :=
  ⟨trivial, q, [q], h.m, .told _ h.com, by have := h.o1; simp; omega, rfl⟩
theorem relSub_at {w : World} {y q g : Nat} {sv ow who : Int} (h : RelM w y q g who sv ow) : ((relFl who sv).I (relPM sv ow)) w y RelT.fresh [y, q, g] :=
  ⟨trivial, q, [q, g], h.m, .box _ g (fun _ h => by cases h) h.com h.box h.ne, by have := h.o1; have := h.o2; simp; omega, rfl⟩

/-- Getting a lock, and what is so behind it. -/
def AcqT.goes {σ : Type} (f : AcqT → σ) (e : σ) : AcqT → σ
  | .over _ => e
  | p => f p

/-- The machine that gives a goroutine back; gl is the place of its GLink. -/
inductive GpT where
  | acq (p : AcqT)
  | ld
  | ln (f : Int)
  | st
  | rel (p : RelT)
def gpPM (who g gl : Int) : PM GpT where
  ax := fun
    | .acq p => (acqPM 3 4 5 who).ax p
    | .ld => some (axLd 16)
    | .ln f => some (axSt gl f)
    | .st => some (axSt 16 (g + 1))
    | .rel p => (relPM 4 5).ax p
  nx := fun
    | .acq p, v => ((acqPM 3 4 5 who).nx p v).goes .acq .ld
    | .ld, v => .ln v
    | .ln _, _ => .st
    | .st, _ => .rel .fresh
    | .rel p, v => .rel ((relPM 4 5).nx p v)
def AcqT.Live : AcqT → Prop
  | .over _ => False
  | _ => True
theorem acq_nx_live {who v : Int} (p : AcqT) (h : ((acqPM 3 4 5 who).ax ((acqPM 3 4 5 who).nx p v)).isSome = true) : ((acqPM 3 4 5 who).nx p v).Live := by
  cases hp : (acqPM 3 4 5 who).nx p v with
  | over t => rw [hp] at h; cases h
  | fresh => trivial
  | wait t => trivial
  | has t => trivial
theorem acq_then_live {σ : Type} {f : AcqT → σ} {e : σ} : ∀ (p : AcqT), p.Live → p.goes f e = f p
  | .fresh, _ => rfl
  | .wait _, _ => rfl
  | .has _, _ => rfl
theorem acq_then_over {σ : Type} {f : AcqT → σ} {e : σ} {who : Int} : ∀ (p : AcqT), (acqPM 3 4 5 who).ax p = none → p.goes f e = e
  | .fresh, h => by cases h
  | .wait _, h => by cases h
  | .has _, h => by cases h
  | .over _, _ => rfl
theorem acq_live_some {who : Int} : ∀ (p : AcqT), p.Live → ((acqPM 3 4 5 who).ax p).isSome = true
  | .fresh, _ => rfl
  | .wait _, _ => rfl
  | .has _, _ => rfl
end Go.Proofs.YthhlklfioipmgaaGreat

namespace Go.Proofs.YthhlklfioipmgaaGreat
open Go Go.RowKit
set_option linter.unusedVariables false
set_option maxRecDepth 100000
set_option linter.unusedSimpArgs false

/-- What it has: the goroutine, whether it is in the hand, the words that were loaded, what is given, how many were loaded. -/
structure RpD where
  g : Int
  has : Bool
  nt : Int
  hd : Int
  tl : Int
  gv : List Int
  ld : Int
inductive RpT where
  | nx (d : RpD)
  | sn (d : RpD)
  | hd (d : RpD)
  | tl (d : RpD)
  | st (d : RpD)
  | ln (d : RpD)
  | gl (d : RpD) (k : Nat)
  | sh (d : RpD)
  | acq (d : RpD) (p : AcqT)
  | que (d : RpD) (q : QpT)
  | rel (d : RpD) (q : QpT) (p : RelT)
  | over (d : RpD)
def RpD.all (d : RpD) : List Int := d.gv ++ [d.g]
def RpD.take1 (d : RpD) (k : Nat) (v : Int) : RpD := { d with gv := d.gv.set k (gw v), ld := ((k + 1 : Nat) : Int) }
def rpPM (who P p : Int) (gl : Int → Int) : PM RpT where
  ax := fun
    | .nx _ => some (axLd (wd 20 P 264 p 3))
    | .sn d => some (axSw (wd 20 P 264 p 3) d.nt (rpw d.g))
    | .hd _ => some (axLd (wd 20 P 264 p 1))
    | .tl _ => some (axLd (wd 20 P 264 p 2))
    | .st d => some (axSt (wd 20 P 264 p (8 + d.tl % 256)) (rpw d.g))
    | .ln d => some (axSt (wd 20 P 264 p 2) ((d.tl + 1) % 4294967296))
    | .gl d k => some (axLd (wd 20 P 264 p (8 + IntKind.u64.wrap (d.hd + k) % 256)))
    | .sh d => some (axSw (wd 20 P 264 p 1) d.hd ((d.hd + 128) % 4294967296))
    | .acq _ q => (acqPM (wd 0 2 3 0 0) (wd 0 2 3 0 1) (wd 0 2 3 0 2) who).ax q
    | .que d q => (qpPM gl d.all).ax q
    | .rel _ _ q => (relPM (wd 0 2 3 0 1) (wd 0 2 3 0 2)).ax q
    | .over _ => none
  nx := fun
    | .nx d, v => .sn { d with nt := v }
    | .sn d, v => if v = 0 then .nx d else if d.nt = 0 then .over { d with has := false } else .hd { d with g := gw d.nt }
    | .hd d, v => .tl { d with hd := v }
    | .tl d, v => if (v - d.hd) % 4294967296 < 256 then .st { d with tl := v } else .gl { d with tl := v, ld := 0 } 0
    | .st d, _ => .ln d
    | .ln d, _ => .over { d with has := false }
    | .gl d k, v => if k + 1 < 128 then .gl (d.take1 k v) (k + 1) else .sh (d.take1 k v)
    | .sh d, v => if v = 0 then .hd d else .acq d .fresh
    | .acq d q, v => ((acqPM (wd 0 2 3 0 0) (wd 0 2 3 0 1) (wd 0 2 3 0 2) who).nx q v).goes (.acq d) (.que d (.ch 0))
    | .que d q, v => if ((qpPM gl d.all).ax ((qpPM gl d.all).nx q v)).isSome = true then .que d ((qpPM gl d.all).nx q v) else .rel d ((qpPM gl d.all).nx q v) .fresh
    | .rel d q r, v => .rel d q ((relPM (wd 0 2 3 0 1) (wd 0 2 3 0 2)).nx r v)
    | t, _ => t
def RpT.d : RpT → RpD
  | .nx d => d
  | .sn d => d
  | .hd d => d
  | .tl d => d
  | .st d => d
  | .ln d => d
  | .gl d _ => d
  | .sh d => d
  | .acq d _ => d
  | .que d _ => d
  | .rel d _ _ => d
  | .over d => d
def RpT.full : RpT → Bool
  | .acq _ _ => true
  | .que _ _ => true
  | .rel _ _ _ => true
  | _ => false
/-- What is in its hand. -/
def RpT.holds : RpT → List Int
  | .acq d _ => if d.has then d.all else []
  | .que d q => if d.has then (if q.lies then [] else d.all) else []
  | .rel d q _ => if d.has then (if q.lies then [] else d.all) else []
  | t => if t.d.has then [t.d.g] else []
def rpAt (who p : Int) (cl : Nat) (t : RpT) (es : List Nat) (nx : Option Addr) : Array Value := rpCells who nx cl p t.d.g t.d.has t.d.nt t.d.hd t.d.tl (rpRest t.d.gv t.d.ld (if t.full = true then some ⟨es.getD 0 0, 0, none⟩ else none))
def rU64 (v : Int) : Prop := 0 ≤ v ∧ v ≤ 18446744073709551615
structure RpD.Ok (d : RpD) : Prop where
  len : d.gv.length = 128
  nt : rU64 d.nt
  hd : rU64 d.hd
  tl : rU64 d.tl
def qpSub (who : Int) (gl : Int → Int) (cl : Nat) (P T G : Int) (l : List Int) : Sub := ⟨QpT, qpPM gl l, qpI who cl gl l, Rd.lay cl P T G, 36, 19⟩
def rpExt (who : Int) (gl : Int → Int) (cl : Nat) (t : RpT) (es : List Nat) (w : World) (Le : List Nat) : Prop := match t with
  | .acq d _ => d.gv.length = 128 ∧ qpI who cl gl d.all w (es.getD 0 0) (.ch 0) Le
  | .rel d q _ => d.gv.length = 128 ∧ qpI who cl gl d.all w (es.getD 0 0) q Le
  | _ => Le = []
def rpCp (who : Int) (gl : Int → Int) (P T G p : Int) (cl : Nat) : Cp RpT where
  T := 149
  cells := rpAt who p cl
  kind := fun
    | .nx _ => .acc (axLd (wd 20 P 264 p 3)) (.told 141)
    | .sn d => .acc (axSw (wd 20 P 264 p 3) d.nt (rpw d.g)) (.swap 167)
    | .hd _ => .acc (axLd (wd 20 P 264 p 1)) (.told 142)
    | .tl _ => .acc (axLd (wd 20 P 264 p 2)) (.told 168)
    | .st d => .acc (axSt (wd 20 P 264 p (8 + d.tl % 256)) (rpw d.g)) (.untold 183)
    | .ln d => .acc (axSt (wd 20 P 264 p 2) ((d.tl + 1) % 4294967296)) (.untold 199)
    | .gl d k => .acc (axLd (wd 20 P 264 p (8 + IntKind.u64.wrap (d.hd + k) % 256))) (.told 201)
    | .sh d => .acc (axSw (wd 20 P 264 p 1) d.hd ((d.hd + 128) % 4294967296)) (.swap 200)
    | .acq _ q => .run (acqSub (wd 0 2 3 0 0) (wd 0 2 3 0 1) (wd 0 2 3 0 2) who) q (.fn 213)
    | .que d q => .run (qpSub who gl cl P T G d.all) q (.fn 224)
    | .rel _ _ .over => .over
    | .rel _ _ q => .run (relSub (wd 0 2 3 0 1) (wd 0 2 3 0 2) who) q .nil
    | .over _ => .over
  ok := fun
    | .gl d k => d.Ok ∧ k < 128 ∧ d.ld = k
    | .sh d => d.Ok ∧ d.ld = 128
    | .acq d q => d.Ok ∧ q.Live
    | .que d q => d.Ok ∧ ((qpPM gl d.all).ax q).isSome = true
    | t => t.d.Ok
  ext := rpExt who gl cl
  tie := fun t es y => match t with
    | .que _ _ => es.getD 0 0 = y
    | _ => True
theorem ent_rp1 : Ent 141 := fun args w => by kernel_rfl
theorem ent_rp2 : Ent 167 := fun args w => by kernel_rfl
theorem ent_rp3 : Ent 142 := fun args w => by kernel_rfl
theorem ent_rp4 : Ent 168 := fun args w => by kernel_rfl
theorem ent_rp5 : Ent 183 := fun args w => by kernel_rfl
theorem ent_rp6 : Ent 199 := fun args w => by kernel_rfl
theorem ent_rp7 : Ent 201 := fun args w => by kernel_rfl
theorem ent_rp8 : Ent 200 := fun args w => by kernel_rfl
theorem ent_rp9 : Ent 213 := fun args w => by kernel_rfl
theorem ent_rp10 : Ent 224 := fun args w => by kernel_rfl
theorem rpw_bd (g : Int) : 0 ≤ rpw g ∧ rpw g ≤ 18446744073709551615 := by
  unfold rpw
  generalize IntKind.u64.wrap g + 1 = z
  simp [IntKind.wrap, IntKind.bits, IntKind.signed]
  omega
theorem rp_acq_live {tk sv ow who v : Int} (p : AcqT) (h : ((acqPM tk sv ow who).ax ((acqPM tk sv ow who).nx p v)).isSome = true) : ((acqPM tk sv ow who).nx p v).Live := by
  cases hp : (acqPM tk sv ow who).nx p v with
  | over t => rw [hp] at h; cases h
  | fresh => trivial
  | wait t => trivial
  | has t => trivial
theorem rp_acq_goes {σ : Type} {f : AcqT → σ} {e : σ} : ∀ (p : AcqT), p.Live → p.goes f e = f p
  | .fresh, _ => rfl
  | .wait _, _ => rfl
  | .has _, _ => rfl
theorem rp_acq_over {σ : Type} {f : AcqT → σ} {e : σ} {tk sv ow who : Int} : ∀ (p : AcqT), (acqPM tk sv ow who).ax p = none → p.goes f e = e
  | .fresh, h => by cases h
  | .wait _, h => by cases h
  | .has _, h => by cases h
  | .over _, _ => rfl
theorem rp_acq_some {tk sv ow who : Int} : ∀ (p : AcqT), p.Live → ((acqPM tk sv ow who).ax p).isSome = true
  | .fresh, _ => rfl
  | .wait _, _ => rfl
  | .has _, _ => rfl

section
variable {who P T G p : Int} {gl : Int → Int} {cl : Nat} {W w' : World} {x : Nat} {t : RpT} {a : Ax} {f : Fol} {es Le Le' : List Nat}
theorem rp_land_acc (h : Came W w' x (rpAt who p cl t es none) 149 a f) (hok : (rpCp who gl P T G p cl).ok t) (hk : (rpCp who gl P T G p cl).kind t = .acc a f) (hx : x < W.heap.size) (he : rpExt who gl cl t es w' Le') (hxe : x ∉ Le') (hle : ∀ k ∈ Le', k ∈ Le ∧ k < W.heap.size) : (rpCp who gl P T G p cl).Land W w' x t Le := by
  obtain ⟨q, Lc, c1, c2, c3, c4⟩ := h
  refine ⟨c3, x :: (Lc ++ Le'), ⟨hok, es, Le', he, hxe, ?_⟩, fun k hm => by simp at hm; rcases hm with rfl | hm | hm; exact .inl rfl; exact .inr (.inr (c4 k hm)); exact .inr (.inl (hle k hm).1)⟩
  rw [hk]
  refine ⟨q, Lc, ?_, c2, fun hm => absurd (c4 x hm) (by omega), (fun k hm h => by have := c4 k hm; have := (hle k h).2; omega), rfl⟩
  have e : (rpAt who p cl t es none).setIfInBounds 1 (.pointer (some ⟨q, 0, none⟩)) = rpAt who p cl t es (some ⟨q, 0, none⟩) := rp_s1 _
  rw [e] at c1
  exact c1
theorem rp_land_over (h : Blk w' x (rpAt who p cl t es none) 149) (hb : But [x] W w') (hok : (rpCp who gl P T G p cl).ok t) (hk : (rpCp who gl P T G p cl).kind t = .over) (he : rpExt who gl cl t es w' Le') (hxe : x ∉ Le') (hle : ∀ k ∈ Le', k ∈ Le) : (rpCp who gl P T G p cl).Land W w' x t Le := by
  refine ⟨hb, x :: Le', ⟨hok, es, Le', he, hxe, ?_⟩, fun k hm => by simp at hm; rcases hm with rfl | hm; exact .inl rfl; exact .inr (.inl (hle k hm))⟩
  rw [hk]
  exact ⟨h, rfl⟩
theorem rp_land_run {S : Sub} {y q b : Nat} {L : List Nat} {af : After} {pt : S.τ} (hC : CameBox W w' x (rpAt who p cl t es none) 149 (fun v => comCells 0 0 0 0 0 false (.iface S.D (.pointer (some ⟨y, 0, none⟩))) v false false) (af.fol.box x) q b) (hM : S.I w' y pt L) (hxL : x ∉ L) (hL : ∀ k ∈ L, k ∈ Le ∨ W.heap.size ≤ k) (hq : q ∉ L) (hg : b ∉ L) (hok : (rpCp who gl P T G p cl).ok t) (hk : (rpCp who gl P T G p cl).kind t = .run S pt af) (htie : (rpCp who gl P T G p cl).tie t es y) (hx : x < W.heap.size) (he : rpExt who gl cl t es w' Le') (hxe : x ∉ Le') (hd : ∀ k ∈ L, k ∉ Le') (hqe : q ∉ Le' ∧ b ∉ Le') (hle : ∀ k ∈ Le', k ∈ Le ∨ W.heap.size ≤ k) : (rpCp who gl P T G p cl).Land W w' x t Le := by
  refine ⟨hC.at'.but, ?_⟩
  have hfq := hC.at'.fresh
  have hfb := hC.fresh
  refine ⟨x :: q :: b :: (L ++ Le'), ⟨hok, es, Le', he, hxe, ?_⟩, fun k hm => ?_⟩
  · rw [hk]
    refine ⟨q, y, b, L, RunAt.of hC (fun nx => rp_s1 _), hM, htie, ?_, hq, hg, fun k hm => ?_, rfl⟩
    · simp only [List.mem_cons, not_or]
      exact ⟨by omega, by omega, hxL⟩
    · simp only [List.mem_cons] at hm
      rcases hm with rfl | rfl | hm
      · exact hqe.1
      · exact hqe.2
      · exact hd k hm
  · simp only [List.mem_cons, List.mem_append] at hm
    rcases hm with rfl | rfl | rfl | hm | hm
    · exact .inl rfl
    · exact .inr (.inr hfq)
    · exact .inr (.inr hfb)
    · rcases hL k hm with h | h
      · exact .inr (.inl h)
      · exact .inr (.inr h)
    · rcases hle k hm with h | h
      · exact .inr (.inl h)
      · exact .inr (.inr h)
end
end Go.Proofs.YthhlklfioipmgaaGreat

namespace Go.Proofs.YthhlklfioipmgaaGreat
open Go Go.RowKit
set_option linter.unusedVariables false
set_option maxRecDepth 100000
set_option linter.unusedSimpArgs false

/-- A config as a value, and in a box of its own. -/
def cfgV (P T G : Int) : Value := .agg #[.int .i64 P, .int .i64 T, .int .i64 G]
def cfgA (P T G : Int) : Array Value := #[.int .i64 P, .int .i64 T, .int .i64 G]
theorem refg_any (P T G g f : Int) (w : World) (hp : 0 ≤ P ∧ P ≤ 64) (hT : 0 ≤ T ∧ T ≤ 65536) (hg : 0 ≤ g ∧ g ≤ 65536) (hf : 0 ≤ f ∧ f < 2) : Calls Tryz.prog 133 #[.agg #[.int .i64 P, .int .i64 T, .int .i64 G], .int .i64 g, .int .i64 f] w fun e w' => e = .returned (.int .i64 (20 + 264 * P + 3 * T + 2 * g + f)) ∧ Below w.heap.size w w' := by
  have hb : Below w.heap.size w (w.alloc (.cells #[.int .i64 P, .int .i64 T, .int .i64 G] 23)) := (Below.refl _ _).alloc (Nat.le_refl _) _
  go_enter Tryz.func133, Tryz.ntmps133
  go_wp2_with fail
  go_ret
  exact ⟨ret_int (by first | rfl | omega | (unfold wrap64; omega)), hb⟩
theorem refgAt_any (P T G g f : Int) (w : World) (hp : 0 ≤ P ∧ P ≤ 64) (hT : 0 ≤ T ∧ T ≤ 65536) (hG : G ≤ 65536) (hf : 0 ≤ f ∧ f < 2) :
    Calls Tryz.prog 77 #[.agg #[.int .i64 P, .int .i64 T, .int .i64 G], .int .i64 g, .int .i64 f] w fun e w' => e = .returned (.int .i64 (wd (20 + P * 264 + T * 3) G 2 g f)) ∧ Below w.heap.size w w' := by
  have hb : Below w.heap.size w (w.alloc (.cells #[.int .i64 P, .int .i64 T, .int .i64 G] 23)) := (Below.refl _ _).alloc (Nat.le_refl _) _
  by_cases hg : 0 ≤ g ∧ g < G
  · have e : 20 + 264 * P + 3 * T + 2 * g + f = wd (20 + P * 264 + T * 3) G 2 g f := by unfold wd; rw [if_pos ⟨hg.1, hg.2, by omega, by omega⟩]; omega
    have hT := refg_any P T G g f (w.alloc (.cells #[.int .i64 P, .int .i64 T, .int .i64 G] 23)) hp hT (by omega) hf
    rw [e] at hT
    generalize wd (20 + P * 264 + T * 3) G 2 g f = nt at *
    clear e
    have hX : Hid (Blk (w.alloc (.cells #[.int .i64 P, .int .i64 T, .int .i64 G] 23)) w.heap.size #[.int .i64 P, .int .i64 T, .int .i64 G] 23) := Blk.new _ _ _
    have HB : Hid (Below w.heap.size w (w.alloc (.cells #[.int .i64 P, .int .i64 T, .int .i64 G] 23))) := hb
    have hsz := World.size_alloc w (.cells #[.int .i64 P, .int .i64 T, .int .i64 G] 23)
    have d1 : decide (g < 0) = false := decide_eq_false (by omega)
    have d2 : decide (G ≤ g) = false := decide_eq_false (by omega)
    clear hb
    go_enter Tryz.func77, Tryz.ntmps77
    go_wp2_with fail
    go_at_call 133; refine hT.mono ?_; rintro e w1 ⟨rfl, h1⟩
    have h2 := HB.out.trans (h1.mono HB.out.size)
    clear hT h1
    go_wp2_with fail
    go_ret
    exact ⟨rfl, h2⟩
  · have e : wd (20 + P * 264 + T * 3) G 2 g f = -1 := by unfold wd; rw [if_neg (fun h => hg ⟨h.1, h.2.1⟩)]
    rw [e]
    by_cases h0 : g < 0
    · clear hg e
      go_enter Tryz.func77, Tryz.ntmps77
      go_wp2_with fail
      go_ret
      exact ⟨rfl, hb⟩
    · have d1 : decide (g < 0) = false := decide_eq_false h0
      have h1 : G ≤ g := by omega
      clear hg e
      go_enter Tryz.func77, Tryz.ntmps77
      go_wp2_with fail
      go_ret
      exact ⟨rfl, hb⟩
end Go.Proofs.YthhlklfioipmgaaGreat

namespace Go.Proofs.YthhlklfioipmgaaGreat
open Go Go.RowKit
set_option linter.unusedVariables false
set_option maxRecDepth 100000
set_option linter.unusedSimpArgs false

structure QpIn {σ : Type} (M : PM σ) (gl : Int → Int) (l : List Int) (emb : QpT → σ) : Prop where
  ch : ∀ k, M.ax (emb (.ch k)) = some (axSt (gl (l.getD k 0)) (if k + 1 < l.length then qwd (l.getD (k + 1) 0) else 0))
  ld : M.ax (emb .ld) = some (axLd 7)
  pt : ∀ t, M.ax (emb (.pt t)) = some (axSt (if t = 0 then 6 else gl (gw t)) (qwd (l.getD 0 0)))
  tr : M.ax (emb .tr) = some (axSt 7 (qwd (l.getD (l.length - 1) 0)))
  ct : M.ax (emb .ct) = some (axAd 8 l.length)
  n1 : ∀ k v, M.nx (emb (.ch k)) v = if k + 1 < l.length then emb (.ch (k + 1)) else emb .ld
  n2 : ∀ v, M.nx (emb .ld) v = emb (.pt v)
  n3 : ∀ t v, M.nx (emb (.pt t)) v = emb .tr
  n4 : ∀ v, M.nx (emb .tr) v = emb .ct
  n5 : ∀ v, M.nx (emb .ct) v = emb .over
def QpT.live : QpT → Bool
  | .over => false
  | .done0 => false
  | _ => true
theorem qp_in (gl : Int → Int) (l : List Int) : QpIn (qpPM gl l) gl l (fun p => p) where
  ch := fun _ => rfl
  ld := rfl
  pt := fun _ => rfl
  tr := rfl
  ct := rfl
  n1 := fun _ _ => rfl
  n2 := fun _ => rfl
  n3 := fun _ _ => rfl
  n4 := fun _ => rfl
  n5 := fun _ => rfl
/-- Where a put stopped, and what it holds there. -/
def QpQ {σ : Type} (Q : σ → Prop) (emb : QpT → σ) (l held : List Int) (q : σ) : Prop := (Q q ∧ held = l) ∨ ∃ p', QpT.live p' = true ∧ q = emb p' ∧ held = if p'.lies = true then [] else l
def QpE {σ : Type} (Q : σ → Prop) (emb : QpT → σ) (q : σ) : Prop := Q q ∨ ∃ p', QpT.live p' = true ∧ q = emb p' ∧ p'.lies = false
theorem QpE.q {σ : Type} {Q : σ → Prop} {emb : QpT → σ} {l : List Int} {q : σ} (h : QpE Q emb q) : QpQ Q emb l l q := by
  rcases h with h | ⟨p', h1, h2, h3⟩
  · exact .inl ⟨h, rfl⟩
  · exact .inr ⟨p', h1, h2, by rw [h3]; rfl⟩
def QpGot {σ : Type} (M : PM σ) (emb : QpT → σ) (l : List Int) (w : World) (x : Nat) (A : Option Addr) (cap m : Nat) (g : Nat → Int) (s0 : σ) (Q : σ → Prop) (j : Nat) (e : Ending) (w' : World) : Prop := ∃ (v : Value) (held : List Int) (j' : Nat) (p : QpT), e = .returned v ∧ SeesL w' v held ∧ RunOn w' x A cap m g (M.rj s0 g m j') ∧ Syn M s0 g m j' (emb p) (QpQ Q emb l held) ∧ p.live = false ∧ (j' ≤ m → held = if p.lies = true then [] else l) ∧ But [x] w w' ∧ j ≤ j'
theorem SeesL.but {w w' : World} {A : Option Addr} {n cap x : Nat} {l : List Int} (h : SeesL w (.slice A n cap) l) (hB : But [x] w w') (hx : ∀ b off : Nat, A = some ⟨b, off, none⟩ → b ≠ x) : SeesL w' (.slice A n cap) l := by
  obtain ⟨A', cap', e, h1, h2⟩ := h
  cases e
  refine ⟨_, _, rfl, h1, fun hn => ?_⟩
  obtain ⟨b, off, e1, h3, h4⟩ := h2 hn
  refine ⟨b, off, e1, Nat.lt_of_lt_of_le h3 hB.size, fun j hj => ?_⟩
  rw [← h4 j hj]
  have hk := hB.block b h3 (by simpa using hx b off e1)
  simp only [World.cell?]
  rw [hk]

set_option maxHeartbeats 4000000 in
theorem syn_qput {σ : Type} {M : PM σ} {P T G : Int} {l : List Int} {emb : QpT → σ} (hE : QpIn M (fun y => wd (20 + P * 264 + T * 3) G 2 y 1) l emb) (hp : 0 ≤ P ∧ P ≤ 64) (hT : 0 ≤ T ∧ T ≤ 65536) (hG : 0 ≤ G ∧ G ≤ 65536) (hn : l.length ≤ 1000000)
    {w : World} {x : Nat} {A B : Option Addr} {cap cp m : Nat} {g : Nat → Int} {s0 : σ} {j : Nat} {Q : σ → Prop} (hs : SeesL w (.slice B l.length cp) l) (hsx : 0 < l.length → ∀ b off : Nat, B = some ⟨b, off, none⟩ → b ≠ x) (hR : RunOn w x A cap m g (M.rj s0 g m j)) (hS : Syn M s0 g m j (emb (qpStart l)) Q) (hb : ∀ j, j < m → 0 ≤ g j ∧ g j ≤ 18446744073709551615) :
    Calls Tryz.prog 14 #[.pointer (some ⟨x, 0, none⟩), .agg #[.int .i64 P, .int .i64 T, .int .i64 G], .slice B l.length cp] w fun e w' => QpGot M emb l w x A cap m g s0 Q j e w' := by
  have hb0 : Below w.heap.size w (w.alloc (.cells #[.int .i64 P, .int .i64 T, .int .i64 G] 23)) := (Below.refl _ _).alloc (Nat.le_refl _) _
  have HX : Hid (Blk (w.alloc (.cells #[.int .i64 P, .int .i64 T, .int .i64 G] 23)) w.heap.size #[.int .i64 P, .int .i64 T, .int .i64 G] 23) := Blk.new _ _ _
  have hxw := hR.blk.lt
  have HB0 : Hid (But [x] w (w.alloc (.cells #[.int .i64 P, .int .i64 T, .int .i64 G] 23))) := But.of_below hb0
  have HGA : Hid (∀ y w, Calls Tryz.prog 77 #[.agg #[.int .i64 P, .int .i64 T, .int .i64 G], .int .i64 y, .int .i64 1] w fun e w' => e = .returned (.int .i64 (wd (20 + P * 264 + T * 3) G 2 y 1)) ∧ Below w.heap.size w w') := fun y w => refgAt_any P T G y 1 w hp hT hG.2 (by omega)
  have HE : Hid (QpIn M (fun y => wd (20 + P * 264 + T * 3) G 2 y 1) l emb) := hE
  have HBD : Hid (∀ j, j < m → 0 ≤ g j ∧ g j ≤ 18446744073709551615) := hb
  have HSL : Hid (SeesL w (.slice B l.length cp) l) := hs
  have HSX : Hid (0 < l.length → ∀ b off : Nat, B = some ⟨b, off, none⟩ → b ≠ x) := hsx
  have HR0 : Hid (RunOn (w.alloc (.cells #[.int .i64 P, .int .i64 T, .int .i64 G] 23)) x A cap m g (M.rj s0 g m j)) := hR.below hb0
  have HST : Hid (0 < l.length → Syn M s0 g m (j + 0) (emb (.ch 0)) (QpE Q emb)) := fun h0 => by
    have e : qpStart l = .ch 0 := if_neg (fun e => by rw [e] at h0; exact absurd h0 (by simp))
    rw [e] at hS
    exact hS.weak (fun r hr => .inl hr)
  have HS0 : Hid (Syn M s0 g m j (emb (qpStart l)) Q) := hS
  clear hR hS hE hb hb0 hp hT hG hs hsx
  go_enter Tryz.func14, Tryz.ntmps14
  go_wp2_with fail
  generalize w.alloc (.cells #[.int .i64 P, .int .i64 T, .int .i64 G] 23) = W at *
  by_cases hl0 : l.length = 0
  · have hle : l = [] := List.length_eq_zero_iff.1 hl0
    subst hle
    go_loopw [7] (fun i wr => i = .int .i64 0 ∧ wr = W) (fun i _ => 0)
    case atStart => exact ⟨rfl, rfl⟩
    case round =>
      obtain ⟨rfl, rfl⟩ := hrel
      go_wp2_with fail
      go_ret
      exact ⟨.slice none 0 0, [], j, .done0, rfl, ⟨none, 0, rfl, fun _ => ⟨rfl, rfl⟩, fun h => absurd h (by simp)⟩, HR0.out, HS0.out.weak (fun r hr => .inl ⟨hr, rfl⟩), rfl, fun _ => rfl, HB0.out, Nat.le_refl j⟩
  · have h0 : 0 < l.length := by omega
    have HSS : Hid _ := HST.out h0
    clear HS0 HST
    obtain ⟨b, off, rfl, hbl, hcl⟩ : ∃ b off : Nat, B = some ⟨b, off, none⟩ ∧ b < w.heap.size ∧ ∀ j, j < l.length → w.cell? ⟨b, off + j, none⟩ = some (.int .i64 (l.getD j 0)) := by
      obtain ⟨A', cap', e, h1, h2⟩ := HSL.out
      cases e
      exact h2 h0
    have hbx : b ≠ x := HSX.out h0 b off rfl
    have HCL : Hid (∀ Y, But [x] w Y → ∀ j, j < l.length → Y.cell? ⟨b, off + j, none⟩ = some (.int .i64 (l.getD j 0))) := fun Y hY j hj => by
      rw [← hcl j hj]
      have hk := hY.block b hbl (by simpa using hbx)
      simp only [World.cell?]
      rw [hk]
    clear hcl
    go_loopw [7] (fun i wr => ∃ k : Nat, k ≤ l.length ∧ i = .int .i64 k ∧ Hid (RunOn wr x A cap m g (M.rj s0 g m (j + k))) ∧ Hid (Syn M s0 g m (j + k) (emb (if k < l.length then .ch k else .ld)) (QpE Q emb)) ∧ Hid (But [x] w wr) ∧ Hid (Blk wr w.heap.size #[.int .i64 P, .int .i64 T, .int .i64 G] 23)) (fun i _ => l.length - (intOf i).toNat)
    case atStart => exact ⟨0, Nat.zero_le _, rfl, HR0, (by rw [if_pos h0]; exact HSS.out : Syn _ _ _ _ _ _ _), HB0, HX⟩
    case round =>
      clear HR0 HSS HB0 HX
      obtain ⟨k, hk, rfl, HR, HS, HB, HX⟩ := hrel
      by_cases hlt : k < l.length
      · have HS1 : Hid (Syn M s0 g m (j + k) (emb (.ch k)) (QpE Q emb)) := by have := HS.out; rw [if_pos hlt] at this; exact this
        have hk0 : (0 : Int) ≤ (k : Int) := by omega
        have hk1 : (k : Int) < (l.length : Int) := by omega
        have cg := HCL.out wr HB.out k hlt
        have y0 := HX.out.cell 0 (v := .int .i64 P) rfl
        have y1 := HX.out.cell 1 (v := .int .i64 T) rfl
        have y2 := HX.out.cell 2 (v := .int .i64 G) rfl
        obtain ⟨nx, hnx⟩ : ∃ nx, (if k + 1 < l.length then qwd (l.getD (k + 1) 0) else 0) = nx := ⟨_, rfl⟩
        have HAX : Hid (M.ax (emb (.ch k)) = some (axSt (wd (20 + P * 264 + T * 3) G 2 (l.getD k 0) 1) nx)) := by
          have := HE.out.ch k
          rw [hnx] at this
          exact this
        have HLD : Hid _ := HGA.out (l.getD k 0)
        have HCY : Hid (∀ Y, But [x] w Y → Y.cell? ⟨b, off + k, none⟩ = some (.int .i64 (l.getD k 0))) := fun Y hY => HCL.out Y hY k hlt
        generalize l.getD k 0 = yk at *
        clear HS
        by_cases hk2 : k + 1 < l.length
        · have cg2 := HCL.out wr HB.out (k + 1) hk2
          have hk3 : (k : Int) + 1 < (l.length : Int) := by omega
          have hd3 : decide ((k : Int) + 1 < (l.length : Int)) = true := decide_eq_true hk3
          have ht : ((k : Int) + 1).toNat = k + 1 := by omega
          have hnx2 : qwd (l.getD (k + 1) 0) = nx := by rw [if_pos hk2] at hnx; exact hnx
          generalize l.getD (k + 1) 0 = y2' at *
          obtain ⟨y3, hy3⟩ : ∃ y3, IntKind.u64.wrap y2' = y3 := ⟨_, rfl⟩
          have e6 : IntKind.u64.wrap (y3 + 1) = nx := by rw [← hy3]; exact hnx2
          clear hnx hnx2
          obtain ⟨at', hat⟩ : ∃ at', wd (20 + P * 264 + T * 3) G 2 yk 1 = at' := ⟨_, rfl⟩
          rw [hat] at HAX HLD
          obtain ⟨QC, hQC⟩ : ∃ QC : World → Prop, QC = fun w' => RunOn w' x A cap m g (M.rj s0 g m (j + k + 1)) ∧ Syn M s0 g m (j + k + 1) (emb (.ch (k + 1))) (QpE Q emb) ∧ But [x] w w' ∧ Blk w' w.heap.size #[.int .i64 P, .int .i64 T, .int .i64 G] 23 := ⟨_, rfl⟩
          have HGAd := HLD.out wr.drew
          have HSt : Hid (∀ w4, Below wr.drew.heap.size wr.drew w4 → Calls Tryz.prog 76 #[.pointer (some ⟨x, 0, none⟩), .int .i64 at', .int .u64 nx] w4 fun e w' => (∃ u, e = .returned u) ∧ QC w') := fun w4 k4 => by
            have hb4 : Below wr.heap.size wr w4 := (show Below wr.heap.size wr wr.drew from (Below.refl _ _).drew).trans k4
            refine (syn_store (HR.out.below hb4) HS1.out HBD.out at' nx (fun _ => HAX.out)).mono ?_
            rintro e w' ⟨hu, v5, hK⟩
            refine ⟨hu, ?_⟩
            rw [hQC]
            refine ⟨hK.run, ?_, (HB.out.trans (But.of_below hb4)).trans hK.but, (HX.out.but (But.of_below (l := []) hb4) (by simp)).but hK.but (by simp; omega)⟩
            have h5 := hK.syn
            rw [HE.out.n1, if_pos hk2] at h5
            exact h5.weak (fun r hr => by rcases hr with rfl | hr; exact .inr ⟨.ch k, rfl, rfl, rfl⟩; exact hr)
          have HSC : Hid (∀ Y, But [x] w Y → Blk Y w.heap.size #[.int .i64 P, .int .i64 T, .int .i64 G] 23 → (Y.cell? ⟨w.heap.size, 0, none⟩ = some (.int .i64 P) ∧ Y.cell? ⟨w.heap.size, 1, none⟩ = some (.int .i64 T) ∧ Y.cell? ⟨w.heap.size, 2, none⟩ = some (.int .i64 G) ∧ Y.cell? ⟨b, off + k, none⟩ = some (.int .i64 yk))) := fun Y hY hBY => ⟨hBY.cell 0 rfl, hBY.cell 1 rfl, hBY.cell 2 rfl, HCY.out Y hY⟩
          have hH : Hid (wr.drew.cell? ⟨w.heap.size, 0, none⟩ = some (.int .i64 P) ∧ wr.drew.cell? ⟨w.heap.size, 1, none⟩ = some (.int .i64 T) ∧ wr.drew.cell? ⟨w.heap.size, 2, none⟩ = some (.int .i64 G) ∧ wr.drew.cell? ⟨b, off + k, none⟩ = some (.int .i64 yk)) := HSC.out _ HB.out.drew HX.out.drew
          have KB : Hid (∀ w4, Below wr.drew.heap.size wr.drew w4 → (w4.cell? ⟨w.heap.size, 0, none⟩ = some (.int .i64 P) ∧ w4.cell? ⟨w.heap.size, 1, none⟩ = some (.int .i64 T) ∧ w4.cell? ⟨w.heap.size, 2, none⟩ = some (.int .i64 G) ∧ w4.cell? ⟨b, off + k, none⟩ = some (.int .i64 yk))) := fun w4 k4 => by
            have hb4 : Below wr.heap.size wr w4 := (show Below wr.heap.size wr wr.drew from (Below.refl _ _).drew).trans k4
            exact HSC.out _ (HB.out.trans (But.of_below hb4)) (HX.out.but (But.of_below (l := []) hb4) (by simp))
          have KC : Hid (∀ w5, QC w5 → (w5.cell? ⟨w.heap.size, 0, none⟩ = some (.int .i64 P) ∧ w5.cell? ⟨w.heap.size, 1, none⟩ = some (.int .i64 T) ∧ w5.cell? ⟨w.heap.size, 2, none⟩ = some (.int .i64 G) ∧ w5.cell? ⟨b, off + k, none⟩ = some (.int .i64 yk))) := fun w5 hC => by
            rw [hQC] at hC
            exact HSC.out _ hC.2.2.1 hC.2.2.2
          have HQC : Hid (∀ w5, QC w5 → RunOn w5 x A cap m g (M.rj s0 g m (j + (k + 1))) ∧ Syn M s0 g m (j + (k + 1)) (emb (if k + 1 < l.length then .ch (k + 1) else .ld)) (QpE Q emb) ∧ But [x] w w5 ∧ Blk w5 w.heap.size #[.int .i64 P, .int .i64 T, .int .i64 G] 23) := fun w5 hC => by
            rw [hQC] at hC
            rw [if_pos hk2]
            exact hC
          clear hQC hat HLD HAX HR HS1 HB HX y0 y1 y2 cg
          go_wp2_with fail
          clear cg2
          go_region_held3 (fun w' => w'.cell? ⟨w.heap.size, 0, none⟩ = some (.int .i64 P) ∧ w'.cell? ⟨w.heap.size, 1, none⟩ = some (.int .i64 T) ∧ w'.cell? ⟨w.heap.size, 2, none⟩ = some (.int .i64 G) ∧ w'.cell? ⟨b, off + k, none⟩ = some (.int .i64 yk)) (first | exact hH.out | exact KB.out _ ‹_› | exact KC.out _ ‹_›) (first | (go_at_call 77; refine HGAd.mono ?_; rintro e w4 ⟨rfl, k4⟩) | (go_at_call 76; refine (HSt.out _ ‹_›).mono ?_; rintro e w5 ⟨⟨u, rfl⟩, hC⟩))
          all_goals
            have HF : Hid _ := HQC.out _ hC
            clear HGAd HSt HSC hH KB KC HQC hC
            go_wp2_with fail
            go_roundw
            case rel => exact ⟨k + 1, by omega, by go_num, HF.out.1, HF.out.2.1, HF.out.2.2.1, HF.out.2.2.2⟩
            case measure => simp [intOf]; omega
        · have hk3 : ¬ ((k : Int) + 1 < (l.length : Int)) := by omega
          have hd3 : decide ((k : Int) + 1 < (l.length : Int)) = false := decide_eq_false hk3
          have hnx2 : (0 : Int) = nx := by rw [if_neg hk2] at hnx; exact hnx
          clear hnx
          subst hnx2
          obtain ⟨at', hat⟩ : ∃ at', wd (20 + P * 264 + T * 3) G 2 yk 1 = at' := ⟨_, rfl⟩
          rw [hat] at HAX HLD
          obtain ⟨QC, hQC⟩ : ∃ QC : World → Prop, QC = fun w' => RunOn w' x A cap m g (M.rj s0 g m (j + k + 1)) ∧ Syn M s0 g m (j + k + 1) (emb (.ld)) (QpE Q emb) ∧ But [x] w w' ∧ Blk w' w.heap.size #[.int .i64 P, .int .i64 T, .int .i64 G] 23 := ⟨_, rfl⟩
          have HGAd := HLD.out wr.drew
          have HSt : Hid (∀ w4, Below wr.drew.heap.size wr.drew w4 → Calls Tryz.prog 76 #[.pointer (some ⟨x, 0, none⟩), .int .i64 at', .int .u64 0] w4 fun e w' => (∃ u, e = .returned u) ∧ QC w') := fun w4 k4 => by
            have hb4 : Below wr.heap.size wr w4 := (show Below wr.heap.size wr wr.drew from (Below.refl _ _).drew).trans k4
            refine (syn_store (HR.out.below hb4) HS1.out HBD.out at' 0 (fun _ => HAX.out)).mono ?_
            rintro e w' ⟨hu, v5, hK⟩
            refine ⟨hu, ?_⟩
            rw [hQC]
            refine ⟨hK.run, ?_, (HB.out.trans (But.of_below hb4)).trans hK.but, (HX.out.but (But.of_below (l := []) hb4) (by simp)).but hK.but (by simp; omega)⟩
            have h5 := hK.syn
            rw [HE.out.n1, if_neg hk2] at h5
            exact h5.weak (fun r hr => by rcases hr with rfl | hr; exact .inr ⟨.ch k, rfl, rfl, rfl⟩; exact hr)
          have HSC : Hid (∀ Y, But [x] w Y → Blk Y w.heap.size #[.int .i64 P, .int .i64 T, .int .i64 G] 23 → (Y.cell? ⟨w.heap.size, 0, none⟩ = some (.int .i64 P) ∧ Y.cell? ⟨w.heap.size, 1, none⟩ = some (.int .i64 T) ∧ Y.cell? ⟨w.heap.size, 2, none⟩ = some (.int .i64 G) ∧ Y.cell? ⟨b, off + k, none⟩ = some (.int .i64 yk))) := fun Y hY hBY => ⟨hBY.cell 0 rfl, hBY.cell 1 rfl, hBY.cell 2 rfl, HCY.out Y hY⟩
          have hH : Hid (wr.drew.cell? ⟨w.heap.size, 0, none⟩ = some (.int .i64 P) ∧ wr.drew.cell? ⟨w.heap.size, 1, none⟩ = some (.int .i64 T) ∧ wr.drew.cell? ⟨w.heap.size, 2, none⟩ = some (.int .i64 G) ∧ wr.drew.cell? ⟨b, off + k, none⟩ = some (.int .i64 yk)) := HSC.out _ HB.out.drew HX.out.drew
          have KB : Hid (∀ w4, Below wr.drew.heap.size wr.drew w4 → (w4.cell? ⟨w.heap.size, 0, none⟩ = some (.int .i64 P) ∧ w4.cell? ⟨w.heap.size, 1, none⟩ = some (.int .i64 T) ∧ w4.cell? ⟨w.heap.size, 2, none⟩ = some (.int .i64 G) ∧ w4.cell? ⟨b, off + k, none⟩ = some (.int .i64 yk))) := fun w4 k4 => by
            have hb4 : Below wr.heap.size wr w4 := (show Below wr.heap.size wr wr.drew from (Below.refl _ _).drew).trans k4
            exact HSC.out _ (HB.out.trans (But.of_below hb4)) (HX.out.but (But.of_below (l := []) hb4) (by simp))
          have KC : Hid (∀ w5, QC w5 → (w5.cell? ⟨w.heap.size, 0, none⟩ = some (.int .i64 P) ∧ w5.cell? ⟨w.heap.size, 1, none⟩ = some (.int .i64 T) ∧ w5.cell? ⟨w.heap.size, 2, none⟩ = some (.int .i64 G) ∧ w5.cell? ⟨b, off + k, none⟩ = some (.int .i64 yk))) := fun w5 hC => by
            rw [hQC] at hC
            exact HSC.out _ hC.2.2.1 hC.2.2.2
          have HQC : Hid (∀ w5, QC w5 → RunOn w5 x A cap m g (M.rj s0 g m (j + (k + 1))) ∧ Syn M s0 g m (j + (k + 1)) (emb (if k + 1 < l.length then .ch (k + 1) else .ld)) (QpE Q emb) ∧ But [x] w w5 ∧ Blk w5 w.heap.size #[.int .i64 P, .int .i64 T, .int .i64 G] 23) := fun w5 hC => by
            rw [hQC] at hC
            rw [if_neg hk2]
            exact hC
          clear hQC hat HLD HAX HR HS1 HB HX y0 y1 y2 cg
          go_wp2_with fail
          go_region_held3 (fun w' => w'.cell? ⟨w.heap.size, 0, none⟩ = some (.int .i64 P) ∧ w'.cell? ⟨w.heap.size, 1, none⟩ = some (.int .i64 T) ∧ w'.cell? ⟨w.heap.size, 2, none⟩ = some (.int .i64 G) ∧ w'.cell? ⟨b, off + k, none⟩ = some (.int .i64 yk)) (first | exact hH.out | exact KB.out _ ‹_› | exact KC.out _ ‹_›) (first | (go_at_call 77; refine HGAd.mono ?_; rintro e w4 ⟨rfl, k4⟩) | (go_at_call 76; refine (HSt.out _ ‹_›).mono ?_; rintro e w5 ⟨⟨u, rfl⟩, hC⟩))
          all_goals
            have HF : Hid _ := HQC.out _ hC
            clear HGAd HSt HSC hH KB KC HQC hC
            go_wp2_with fail
            go_roundw
            case rel => exact ⟨k + 1, by omega, by go_num, HF.out.1, HF.out.2.1, HF.out.2.2.1, HF.out.2.2.2⟩
            case measure => simp [intOf]; omega
      · obtain rfl : k = l.length := by omega
        have HS1 : Hid (Syn M s0 g m (j + l.length) (emb .ld) (QpE Q emb)) := by have := HS.out; rw [if_neg hlt] at this; exact this
        have hgd : decide ((l.length : Int) < (l.length : Int)) = false := by simp
        have hz0 : ((l.length : Int) == 0) = false := by rw [beq_eq_false_iff_ne]; omega
        have hz1 : decide ((l.length : Int) = 0) = false := decide_eq_false (by omega)
        have hL := syn_load HR.out HS1.out HBD.out 7 (fun _ => HE.out.ld)
        have HJ : Hid (∀ q : Nat, j ≤ j + l.length + q) := fun q => (by omega : j ≤ j + l.length + q)
        generalize j + l.length = j1 at *
        clear HS hlt hk HR HS1
        go_wp2_with fail
        go_at_call 78; refine hL.mono ?_; rintro e z2 ⟨t, rfl, hK⟩
        have htb := hK.bd
        have HR2 : Hid (RunOn z2 x A cap m g (M.rj s0 g m (j1 + 1))) := hK.run
        have HS2 : Hid (Syn M s0 g m (j1 + 1) (emb (.pt t)) (QpE Q emb)) := by
          have := hK.syn
          rw [HE.out.n2] at this
          exact this.weak (fun r hr => by rcases hr with rfl | hr; exact .inr ⟨.ld, rfl, rfl, rfl⟩; exact hr)
        have HB2 : Hid (But [x] w z2) := HB.out.trans hK.but
        have HX2 : Hid (Blk z2 w.heap.size #[.int .i64 P, .int .i64 T, .int .i64 G] 23) := HX.out.but hK.but (by simp; omega)
        clear hL hK HB HX
        have HC0 : Hid (∀ Y, But [x] w Y → Y.cell? ⟨b, off, none⟩ = some (.int .i64 (l.getD 0 0))) := fun Y hY => HCL.out Y hY 0 h0
        have HCN : Hid (∀ Y, But [x] w Y → Y.cell? ⟨b, off + (l.length - 1), none⟩ = some (.int .i64 (l.getD (l.length - 1) 0))) := fun Y hY => HCL.out Y hY (l.length - 1) (by omega)
        have HPT : Hid (∀ t, M.ax (emb (.pt t)) = some (axSt (if t = 0 then 6 else wd (20 + P * 264 + T * 3) G 2 (gw t) 1) (qwd (l.getD 0 0)))) := HE.out.pt
        have HTR : Hid (M.ax (emb .tr) = some (axSt 7 (qwd (l.getD (l.length - 1) 0)))) := HE.out.tr
        generalize l.getD 0 0 = ya at *
        generalize l.getD (l.length - 1) 0 = yz at *
        obtain ⟨ya1, hya1⟩ : ∃ a, IntKind.u64.wrap ya = a := ⟨_, rfl⟩
        obtain ⟨ya2, hya2⟩ : ∃ a, qwd ya = a := ⟨_, rfl⟩
        have e2 : IntKind.u64.wrap (ya1 + 1) = ya2 := by rw [← hya1]; exact hya2
        obtain ⟨yz1, hyz1⟩ : ∃ a, IntKind.u64.wrap yz = a := ⟨_, rfl⟩
        obtain ⟨yz2, hyz2⟩ : ∃ a, qwd yz = a := ⟨_, rfl⟩
        have e4 : IntKind.u64.wrap (yz1 + 1) = yz2 := by rw [← hyz1]; exact hyz2
        rw [hya2] at HPT
        rw [hyz2] at HTR
        clear hya2 hyz2
        have e5 : IntKind.u64.wrap (l.length : Int) = (l.length : Int) := wrap_u64 (by omega)
        have e6 : ((l.length : Int) - 1).toNat = l.length - 1 := by omega
        have e7 : (0 : Int) < (l.length : Int) := by omega
        have e8 : (l.length : Int) - 1 < (l.length : Int) := by omega
        have e9 : (0 : Int) ≤ (l.length : Int) - 1 := by omega
        by_cases t0 : t = 0
        · subst t0
          have cg := HC0.out z2 HB2.out
          have HP0 : Hid (M.ax (emb (.pt 0)) = some (axSt 6 ya2)) := by have := HPT.out 0; rw [if_pos rfl] at this; exact this
          have hSt := syn_store HR2.out HS2.out HBD.out 6 ya2 (fun _ => HP0.out)
          clear HPT HP0 htb
          go_wp2_with fail
          go_at_call 76; refine hSt.mono ?_; rintro e z4 ⟨⟨u4, rfl⟩, v4, hK⟩
          have HR4 : Hid (RunOn z4 x A cap m g (M.rj s0 g m (j1 + 1 + 1))) := hK.run
          have HS4 : Hid (Syn M s0 g m (j1 + 1 + 1) (emb .tr) (QpE Q emb)) := by
            have := hK.syn
            rw [HE.out.n3] at this
            exact this.weak (fun r hr => by rcases hr with rfl | hr; exact .inr ⟨.pt 0, rfl, rfl, rfl⟩; exact hr)
          have HB4 : Hid (But [x] w z4) := HB2.out.trans hK.but
          have s4 := HR4.out.blk.cell 2 (v := .bool (M.rj s0 g m (j1 + 1 + 1)).stop) rfl
          rw [rj_stop HS4.out] at s4
          have cz := HCN.out z4 HB4.out
          have hSt2 := syn_store HR4.out HS4.out HBD.out 7 yz2 (fun _ => HTR.out)
          clear hSt hK cg HB2 HR2 HS2
          by_cases hm4 : m < j1 + 1 + 1
          · rw [decide_eq_true hm4] at s4
            have HM : Hid (m < j1 + 1 + 1) := hm4
            clear hm4
            go_wp2_with fail
            go_at_call 76; refine hSt2.mono ?_; rintro e z5 ⟨⟨u5, rfl⟩, v5, hK⟩
            have HB5 : Hid (But [x] w z5) := HB4.out.trans hK.but
            have HS5 : Hid (Syn M s0 g m (j1 + 1 + 1 + 1) (emb .ct) (QpQ Q emb l l)) := ⟨fun h => absurd h (by have := HM.out; omega), fun h => ⟨(HS4.out.past HM.out).1.q, (HS4.out.past HM.out).2⟩⟩
            have hA := syn_add hK.run HS5.out HBD.out 8 (l.length : Int) (fun _ => HE.out.ct)
            clear hSt2 hK s4 cz
            go_wp2_with fail
            go_at_call 79; refine hA.mono ?_; rintro e z6 ⟨v6, rfl, hK⟩
            have HF : Hid (QpGot M emb l w x A cap m g s0 Q j (.returned (.slice (some ⟨b, off, none⟩) l.length cp)) z6) := ⟨_, l, j1 + 1 + 1 + 1 + 1, .over, rfl, HSL.out.but (HB5.out.trans hK.but) (HSX.out (by omega)), hK.run, ⟨fun h => absurd h (by have := HM.out; omega), fun h => ⟨(HS5.out.past (by have := HM.out; omega)).1, (HS5.out.past (by have := HM.out; omega)).2⟩⟩, rfl, fun h => absurd h (by have := HM.out; omega), HB5.out.trans hK.but, HJ.out 4⟩
            clear hA hK
            go_wp2_with fail
            go_ret
            exact HF.out
          · rw [decide_eq_false hm4] at s4
            have HM : Hid (j1 + 1 + 1 ≤ m) := (by omega : j1 + 1 + 1 ≤ m)
            clear hm4
            go_wp2_with fail
            go_at_call 76; refine hSt2.mono ?_; rintro e z5 ⟨⟨u5, rfl⟩, v5, hK⟩
            have HB5 : Hid (But [x] w z5) := HB4.out.trans hK.but
            have HS5 : Hid (Syn M s0 g m (j1 + 1 + 1 + 1) (emb .ct) (QpQ Q emb l [])) := by
              have h5 := hK.syn
              rw [HE.out.n4] at h5
              refine ⟨h5.at', fun h => ⟨?_, (h5.past h).2⟩⟩
              have hmj : m = j1 + 1 + 1 := by have := HM.out; omega
              have h6 := HS4.out.at' HM.out
              rw [← hmj] at h6
              exact .inr ⟨.tr, rfl, h6, rfl⟩
            have hA := syn_add hK.run HS5.out HBD.out 8 (l.length : Int) (fun _ => HE.out.ct)
            clear hSt2 hK s4 cz
            go_wp2_with fail
            go_at_call 79; refine hA.mono ?_; rintro e z6 ⟨v6, rfl, hK⟩
            have HF : Hid (QpGot M emb l w x A cap m g s0 Q j (.returned (.slice none 0 0)) z6) := by
              have h7 := hK.syn
              rw [HE.out.n5] at h7
              exact ⟨_, [], j1 + 1 + 1 + 1 + 1, .over, rfl, ⟨none, 0, rfl, fun _ => ⟨rfl, rfl⟩, fun h => absurd h (by simp)⟩, hK.run, h7.weak (fun r hr => by rcases hr with rfl | hr; exact .inr ⟨.ct, rfl, rfl, rfl⟩; exact hr), rfl, fun _ => rfl, HB5.out.trans hK.but, HJ.out 4⟩
            clear hA hK
            go_wp2_with fail
            go_ret
            exact HF.out
        · have ht0 : (t == 0) = false := by simpa using t0
          have ht1 : (t != 0) = true := by simpa using t0
          have HP0 : Hid (M.ax (emb (.pt t)) = some (axSt (wd (20 + P * 264 + T * 3) G 2 (gw t) 1) ya2)) := by have := HPT.out t; rw [if_neg t0] at this; exact this
          have hGA2 := HGA.out (gw t) z2
          have y0 := HX2.out.cell 0 (v := .int .i64 P) rfl
          have y1 := HX2.out.cell 1 (v := .int .i64 T) rfl
          have y2 := HX2.out.cell 2 (v := .int .i64 G) rfl
          have eg : wrap64 (IntKind.i64.wrap t - 1) = gw t := gw_eq t htb
          have HSt0 : Hid (∀ Y, Below z2.heap.size z2 Y → Calls Tryz.prog 76 #[.pointer (some ⟨x, 0, none⟩), .int .i64 (wd (20 + P * 264 + T * 3) G 2 (gw t) 1), .int .u64 ya2] Y fun e w' => (∃ v, e = .returned v) ∧ ∃ v, Kept' Y w' x A cap m g M s0 (j1 + 1) (emb (.pt t)) (QpE Q emb) v) := fun Y hY => syn_store (HR2.out.below hY) HS2.out HBD.out _ ya2 (fun _ => HP0.out)
          generalize wd (20 + P * 264 + T * 3) G 2 (gw t) 1 = at' at *
          generalize gw t = gt at *
          generalize hvv : IntKind.i64.wrap t = t' at *
          clear HPT HP0
          go_wp2_with fail
          go_at_call 77; refine hGA2.mono ?_; rintro e z3 ⟨rfl, k3⟩
          have hSt := HSt0.out z3 k3
          have HB2 : Hid (But [x] w z3) := HB2.out.trans (But.of_below k3)
          have cg := HC0.out z3 HB2.out
          clear hGA2 HSt0 k3 y0 y1 y2 HX2 eg hvv
          go_wp2_with fail
          go_at_call 76; refine hSt.mono ?_; rintro e z4 ⟨⟨u4, rfl⟩, v4, hK⟩
          have HR4 : Hid (RunOn z4 x A cap m g (M.rj s0 g m (j1 + 1 + 1))) := hK.run
          have HS4 : Hid (Syn M s0 g m (j1 + 1 + 1) (emb .tr) (QpE Q emb)) := by
            have := hK.syn
            rw [HE.out.n3] at this
            exact this.weak (fun r hr => by rcases hr with rfl | hr; exact .inr ⟨.pt t, rfl, rfl, rfl⟩; exact hr)
          have HB4 : Hid (But [x] w z4) := HB2.out.trans hK.but
          have s4 := HR4.out.blk.cell 2 (v := .bool (M.rj s0 g m (j1 + 1 + 1)).stop) rfl
          rw [rj_stop HS4.out] at s4
          have cz := HCN.out z4 HB4.out
          have hSt2 := syn_store HR4.out HS4.out HBD.out 7 yz2 (fun _ => HTR.out)
          clear hSt hK cg HB2 HR2 HS2
          by_cases hm4 : m < j1 + 1 + 1
          · rw [decide_eq_true hm4] at s4
            have HM : Hid (m < j1 + 1 + 1) := hm4
            clear hm4
            go_wp2_with fail
            go_at_call 76; refine hSt2.mono ?_; rintro e z5 ⟨⟨u5, rfl⟩, v5, hK⟩
            have HB5 : Hid (But [x] w z5) := HB4.out.trans hK.but
            have HS5 : Hid (Syn M s0 g m (j1 + 1 + 1 + 1) (emb .ct) (QpQ Q emb l l)) := ⟨fun h => absurd h (by have := HM.out; omega), fun h => ⟨(HS4.out.past HM.out).1.q, (HS4.out.past HM.out).2⟩⟩
            have hA := syn_add hK.run HS5.out HBD.out 8 (l.length : Int) (fun _ => HE.out.ct)
            clear hSt2 hK s4 cz
            go_wp2_with fail
            go_at_call 79; refine hA.mono ?_; rintro e z6 ⟨v6, rfl, hK⟩
            have HF : Hid (QpGot M emb l w x A cap m g s0 Q j (.returned (.slice (some ⟨b, off, none⟩) l.length cp)) z6) := ⟨_, l, j1 + 1 + 1 + 1 + 1, .over, rfl, HSL.out.but (HB5.out.trans hK.but) (HSX.out (by omega)), hK.run, ⟨fun h => absurd h (by have := HM.out; omega), fun h => ⟨(HS5.out.past (by have := HM.out; omega)).1, (HS5.out.past (by have := HM.out; omega)).2⟩⟩, rfl, fun h => absurd h (by have := HM.out; omega), HB5.out.trans hK.but, HJ.out 4⟩
            clear hA hK
            go_wp2_with fail
            go_ret
            exact HF.out
          · rw [decide_eq_false hm4] at s4
            have HM : Hid (j1 + 1 + 1 ≤ m) := (by omega : j1 + 1 + 1 ≤ m)
            clear hm4
            go_wp2_with fail
            go_at_call 76; refine hSt2.mono ?_; rintro e z5 ⟨⟨u5, rfl⟩, v5, hK⟩
            have HB5 : Hid (But [x] w z5) := HB4.out.trans hK.but
            have HS5 : Hid (Syn M s0 g m (j1 + 1 + 1 + 1) (emb .ct) (QpQ Q emb l [])) := by
              have h5 := hK.syn
              rw [HE.out.n4] at h5
              refine ⟨h5.at', fun h => ⟨?_, (h5.past h).2⟩⟩
              have hmj : m = j1 + 1 + 1 := by have := HM.out; omega
              have h6 := HS4.out.at' HM.out
              rw [← hmj] at h6
              exact .inr ⟨.tr, rfl, h6, rfl⟩
            have hA := syn_add hK.run HS5.out HBD.out 8 (l.length : Int) (fun _ => HE.out.ct)
            clear hSt2 hK s4 cz
            go_wp2_with fail
            go_at_call 79; refine hA.mono ?_; rintro e z6 ⟨v6, rfl, hK⟩
            have HF : Hid (QpGot M emb l w x A cap m g s0 Q j (.returned (.slice none 0 0)) z6) := by
              have h7 := hK.syn
              rw [HE.out.n5] at h7
              exact ⟨_, [], j1 + 1 + 1 + 1 + 1, .over, rfl, ⟨none, 0, rfl, fun _ => ⟨rfl, rfl⟩, fun h => absurd h (by simp)⟩, hK.run, h7.weak (fun r hr => by rcases hr with rfl | hr; exact .inr ⟨.ct, rfl, rfl, rfl⟩; exact hr), rfl, fun _ => rfl, HB5.out.trans hK.but, HJ.out 4⟩
            clear hA hK
            go_wp2_with fail
            go_ret
            exact HF.out
end Go.Proofs.YthhlklfioipmgaaGreat

namespace Go.Proofs.YthhlklfioipmgaaGreat
open Go Go.RowKit
set_option linter.unusedVariables false
set_option maxRecDepth 100000
set_option linter.unusedSimpArgs false

theorem rqput_on (w : World) (x : Nat) (A B : Option Addr) (cap cp m : Nat) (gf : Nat → Int) (P T G : Int) (l : List Int) (t : QpT) (h : RunOn w x A cap m gf rn0) (hh : Hist (qpPM (fun y => wd (20 + P * 264 + T * 3) G 2 y 1) l) (qpStart l) gf m t) (hp : 0 ≤ P ∧ P ≤ 64) (hT : 0 ≤ T ∧ T ≤ 65536) (hG : 0 ≤ G ∧ G ≤ 65536) (hn : l.length ≤ 1000000)
    (hs : SeesL w (.slice B l.length cp) l) (hsx : 0 < l.length → ∀ b off : Nat, B = some ⟨b, off, none⟩ → b ≠ x) :
    Calls Tryz.prog 14 #[.pointer (some ⟨x, 0, none⟩), .agg #[.int .i64 P, .int .i64 T, .int .i64 G], .slice B l.length cp] w fun e w' => ∃ v, e = .returned v ∧ SeesL w' v (if t.lies = true then [] else l) ∧ RunOn w' x A cap m gf ((qpPM (fun y => wd (20 + P * 264 + T * 3) G 2 y 1) l).rn t m) ∧ But [x] w w' := by
  rw [← rj_start (M := qpPM (fun y => wd (20 + P * 264 + T * 3) G 2 y 1) l) (s0 := qpStart l) (g := gf) (m := m)] at h
  refine (syn_qput (qp_in _ l) hp hT hG hn hs hsx h (Syn.start _ _ _ _) hh.bd).mono ?_
  rintro e w' ⟨v, held, j', p, rfl, h0, h1, h2, h3, h4, h5, -⟩
  have hn' : (qpPM (fun y => wd (20 + P * 264 + T * 3) G 2 y 1) l).ax p = none := by cases p <;> first | rfl | cases h3
  have hr : held = if t.lies = true then [] else l := by
    rcases h2.fin hh (fun _ => hn') with ⟨e1, e2⟩ | ⟨-, (⟨hf, -⟩ | ⟨p', -, e1, e2⟩)⟩
    · rw [e1]; exact h4 (by omega)
    · exact hf.elim
    · rw [e1]; exact e2
  rw [← hr]
  refine ⟨v, rfl, h0, ?_, h5⟩
  rw [← rj_end h2 hh (fun _ => hn')]
  exact h1
theorem qp_axok (gl : Int → Int) (l : List Int) (hn : l.length ≤ 1000000) : ∀ t a, (qpPM gl l).ax t = some a → a.Ok := by
  intro t a h
  cases t with
  | ch k =>
    cases h
    have := qwd_bd (l.getD (k + 1) 0)
    refine axSt_ok _ _ ?_
    split <;> omega
  | ld => cases h; exact axLd_ok _
  | pt t => cases h; exact axSt_ok _ _ (qwd_bd _)
  | tr => cases h; exact axSt_ok _ _ (qwd_bd _)
  | ct => cases h; exact axAd_ok _ _ (by omega)
  | over => cases h
  | done0 => cases h
theorem qp_new_any (w : World) (cl : Nat) (who P T G : Int) (sl : Value) (l : List Int) (hs : SeesL w sl l) (hn : l.length ≤ 1000000) (hl : Lay w cl P T G) (hp : 0 ≤ P ∧ P ≤ 64) (hT : 0 ≤ T ∧ T ≤ 65536) (hG : 0 ≤ G ∧ G ≤ 65536) :
    Calls Tryz.prog 12 #[.pointer (some ⟨cl, 0, none⟩), .int .i64 who, sl] w fun e w' => ∃ x L, e = .returned (.pointer (some ⟨x, 0, none⟩)) ∧ qpI who cl (fun y => wd (20 + P * 264 + T * 3) G 2 y 1) l w' x (qpStart l) L ∧ Below w.heap.size w w' ∧ (∀ k ∈ L, w.heap.size ≤ k) := by
  by_cases h0 : l = []
  · subst h0
    refine (qp_new_nil w cl who (fun y => wd (20 + P * 264 + T * 3) G 2 y 1) sl hs).mono ?_
    rintro e w' ⟨x, L, h1, h2, h3, h4, -⟩
    exact ⟨x, L, h1, h2, h3, h4⟩
  · refine (qp_new_some w cl who P T G sl l hs (List.length_pos_iff.2 h0) hn hl hp hT hG).mono ?_
    rintro e w' ⟨x, L, h1, h2, h3, h4, -⟩
    refine ⟨x, L, h1, ?_, h3, h4⟩
    rw [show qpStart l = .ch 0 from if_neg h0]
    exact h2
def knownL (G : Int) (l : List Int) : Bool := l.all (fun y => decide (0 ≤ y ∧ y < G))
set_option maxHeartbeats 4000000 in
theorem known_any (w : World) (P T G : Int) (B : Option Addr) (cp : Nat) (l : List Int) (hs : SeesL w (.slice B l.length cp) l) (hn : l.length ≤ 1000000) :
    Calls Tryz.prog 10 #[.agg #[.int .i64 P, .int .i64 T, .int .i64 G], .slice B l.length cp] w fun e w' => e = .returned (.bool (knownL G l)) ∧ Below w.heap.size w w' := by
  have hb0 : Below w.heap.size w (w.alloc (.cells #[.int .i64 P, .int .i64 T, .int .i64 G] 23)) := (Below.refl _ _).alloc (Nat.le_refl _) _
  have HX : Hid (Blk (w.alloc (.cells #[.int .i64 P, .int .i64 T, .int .i64 G] 23)) w.heap.size #[.int .i64 P, .int .i64 T, .int .i64 G] 23) := Blk.new _ _ _
  have HSL : Hid (SeesL (w.alloc (.cells #[.int .i64 P, .int .i64 T, .int .i64 G] 23)) (.slice B l.length cp) l) := hs.below hb0
  have HB0 : Hid (Below w.heap.size w (w.alloc (.cells #[.int .i64 P, .int .i64 T, .int .i64 G] 23))) := hb0
  clear hs hb0
  go_enter Tryz.func10, Tryz.ntmps10
  go_wp2_with fail
  generalize w.alloc (.cells #[.int .i64 P, .int .i64 T, .int .i64 G] 23) = W at *
  go_loopw [5] (fun i wr => ∃ k q : Nat, k ≤ l.length ∧ i = .int .i64 k ∧ wr = W.drewN q ∧ (l.take k).all (fun y => decide (0 ≤ y ∧ y < G)) = true) (fun i _ => l.length - (intOf i).toNat)
  case atStart => exact ⟨0, 0, Nat.zero_le _, rfl, rfl, rfl⟩
  case round =>
    obtain ⟨k, q, hk, rfl, rfl, hall⟩ := hrel
    have HALL : Hid ((l.take k).all (fun y => decide (0 ≤ y ∧ y < G)) = true) := hall
    clear hall
    by_cases hlt : k < l.length
    · obtain ⟨b, off, rfl, hbb, hcl⟩ : ∃ b off : Nat, B = some ⟨b, off, none⟩ ∧ b < W.heap.size ∧ ∀ j, j < l.length → W.cell? ⟨b, off + j, none⟩ = some (.int .i64 (l.getD j 0)) := by
        obtain ⟨A', cap', e, h1, h2⟩ := HSL.out
        cases e
        exact h2 (by omega)
      have cg := hcl k hlt
      have hk0 : (0 : Int) ≤ (k : Int) := by omega
      have hk1 : (k : Int) < (l.length : Int) := by omega
      have z2 := HX.out.cell 2 (v := .int .i64 G) rfl
      have HTK : Hid (l.take (k + 1) = l.take k ++ [l.getD k 0]) := by
        show l.take (k + 1) = _
        rw [List.take_add_one, List.getD_eq_getElem?_getD, List.getElem?_eq_getElem hlt]
        rfl
      have HMEM : Hid (l.getD k 0 ∈ l) := by
        show l.getD k 0 ∈ l
        rw [List.getD_eq_getElem?_getD, List.getElem?_eq_getElem hlt]
        exact List.getElem_mem hlt
      generalize l.getD k 0 = y at *
      clear hcl
      by_cases hneg : y < 0
      · have d1 : decide (y < 0) = true := decide_eq_true hneg
        have HF : Hid (knownL G l = false) := by
          show knownL G l = false
          unfold knownL
          rw [List.all_eq_false]
          exact ⟨y, HMEM.out, by simp; omega⟩
        have HBF : Hid (∀ q, Below w.heap.size w (W.drewN q)) := fun q => Below.drewN' HB0.out q
        go_wp2_with fail
        go_quiet (fail)
        go_wp2_with fail
        go_ret
        rw [HF.out]
        exact ⟨rfl, Below.drewN' (HBF.out _) _⟩
      · have d1 : decide (y < 0) = false := decide_eq_false hneg
        by_cases hbig : G ≤ y
        · have d2 : decide (G ≤ y) = true := decide_eq_true hbig
          have HF : Hid (knownL G l = false) := by
            show knownL G l = false
            unfold knownL
            rw [List.all_eq_false]
            exact ⟨y, HMEM.out, by simp; omega⟩
          have HBF : Hid (∀ q, Below w.heap.size w (W.drewN q)) := fun q => Below.drewN' HB0.out q
          go_wp2_with fail
          go_quiet (fail)
          go_wp2_with fail
          go_ret
          rw [HF.out]
          exact ⟨rfl, Below.drewN' (HBF.out _) _⟩
        · have d2 : decide (G ≤ y) = false := decide_eq_false hbig
          have HF : Hid ((l.take (k + 1)).all (fun y => decide (0 ≤ y ∧ y < G)) = true) := by
            show (l.take (k + 1)).all _ = true
            rw [HTK.out, List.all_append, HALL.out]
            simp; omega
          go_wp2_with fail
          go_quiet (fail)
          go_wp2_with fail
          go_roundw
          case rel => exact ⟨k + 1, _, by omega, by go_num, rfl, HF.out⟩
          case measure => simp [intOf]; omega
    · obtain rfl : k = l.length := by omega
      have HF : Hid (knownL G l = true) := by
        have := HALL.out
        rw [List.take_length] at this
        exact this
      have HBF : Hid (Below w.heap.size w (W.drewN q)) := Below.drewN' HB0.out q
      have hgd : decide ((l.length : Int) < (l.length : Int)) = false := by simp
      go_wp2_with fail
      go_ret
      rw [HF.out]
      exact ⟨rfl, HBF.out⟩
end Go.Proofs.YthhlklfioipmgaaGreat

namespace Go.Proofs.YthhlklfioipmgaaGreat
open Go Go.RowKit
set_option linter.unusedVariables false
set_option maxRecDepth 100000
set_option linter.unusedSimpArgs false

theorem folC_swap {W : World} {x K : Nat} {v : Int} {M : World → Prop} (b : Bool) (hb : decide (v ≠ 0) = b) (h : Calls Tryz.prog K #[.pointer (some ⟨x, 0, none⟩), .bool b] W fun e w' => (∃ u, e = .returned u) ∧ M w') : FolC W x (.swap K) v M := by
  subst hb; exact h
theorem qp_keep1 {who P T G : Int} {cl : Nat} {l : List Int} (hp : 0 ≤ P ∧ P ≤ 64) (hT : 0 ≤ T ∧ T ≤ 65536) (hG : 0 ≤ G ∧ G ≤ 65536) (hn : l.length ≤ 1000000) {a b : World} {y x : Nat} {t : QpT} {L : List Nat} (h : qpI who cl (fun y => wd (20 + P * 264 + T * 3) G 2 y 1) l a y t L) (hb : But [x] a b) (hx : x ∉ L) : qpI who cl (fun y => wd (20 + P * 264 + T * 3) G 2 y 1) l b y t L :=
  (qp_good who P T G cl l hp hT hG hn).keep h hb (fun k hk hm => by simp at hm; exact hx (hm ▸ hk))
theorem RpD.all_len' {d : RpD} (h : d.gv.length = 128) : d.all.length = 129 := by
  unfold RpD.all
  rw [List.length_append, h]; rfl
theorem RpD.all_len {d : RpD} (h : d.Ok) : d.all.length = 129 := RpD.all_len' h.len
theorem RpD.take1_ok {d : RpD} (h : d.Ok) (k : Nat) (v : Int) : (d.take1 k v).Ok := ⟨by show (d.gv.set k _).length = 128; rw [List.length_set]; exact h.len, h.nt, h.hd, h.tl⟩
section
variable {who P T G p : Int} {cl : Nat}
theorem rp_on {gl : Int → Int} {v : Int} {t : RpT} {S : Sub} {q : S.τ} {af : After} (hok : (rpCp who gl P T G p cl).ok t) (hk : (rpCp who gl P T G p cl).kind t = .run S q af) (hs : (S.M.ax (S.M.nx q v)).isSome = true) :
    (rpCp who gl P T G p cl).ok ((rpPM who P p gl).nx t v) ∧ (rpCp who gl P T G p cl).kind ((rpPM who P p gl).nx t v) = .run S (S.M.nx q v) af ∧ (∀ es, (rpCp who gl P T G p cl).cells ((rpPM who P p gl).nx t v) es = (rpCp who gl P T G p cl).cells t es) ∧ (∀ es w Le, (rpCp who gl P T G p cl).ext t es w Le → (rpCp who gl P T G p cl).ext ((rpPM who P p gl).nx t v) es w Le) ∧ (∀ es y, (rpCp who gl P T G p cl).tie t es y → (rpCp who gl P T G p cl).tie ((rpPM who P p gl).nx t v) es y) := by
  cases t with
  | acq d q =>
    cases hk
    have hl := rp_acq_live q hs
    have e : (rpPM who P p gl).nx (.acq d q) v = .acq d ((acqPM (wd 0 2 3 0 0) (wd 0 2 3 0 1) (wd 0 2 3 0 2) who).nx q v) := rp_acq_goes _ hl
    rw [e]
    exact ⟨⟨hok.1, hl⟩, rfl, fun _ => rfl, fun _ _ _ h => h, fun _ _ h => h⟩
  | que d q =>
    cases hk
    have e : (rpPM who P p gl).nx (.que d q) v = .que d ((qpPM gl d.all).nx q v) := if_pos hs
    rw [e]
    exact ⟨⟨hok.1, hs⟩, rfl, fun _ => rfl, fun _ _ _ h => h, fun _ _ h => h⟩
  | rel d r q =>
    cases q with
    | over => cases hk
    | fresh => cases hk; exact ⟨hok, rfl, fun _ => rfl, fun _ _ _ h => h, fun _ _ h => h⟩
    | pass => cases hk; cases hs
  | _ => cases hk

set_option maxHeartbeats 4000000 in
theorem rp_laws (hw : 0 ≤ who ∧ who ≤ 1000000) (hp : 0 ≤ P ∧ P ≤ 64) (hT : 0 ≤ T ∧ T ≤ 65536) (hG : 0 ≤ G ∧ G ≤ 65536) :
    (rpCp who (fun y => wd (20 + P * 264 + T * 3) G 2 y 1) P T G p cl).Laws (rpPM who P p (fun y => wd (20 + P * 264 + T * 3) G 2 y 1)) (Rd.lay cl P T G) who where
  c0 := fun t es nx => rp_c0
  c1 := fun t es nx => rp_c1
  set := fun t es nx nx' => rp_s1 _
  k0 := fun t hok hk => by
    cases t with
    | rel d r q => cases q <;> first | rfl | cases hk
    | over d => rfl
    | _ => cases hk
  k1 := fun t a f hok hk => by
    cases t with
    | acq d q => cases hk
    | que d q => cases hk
    | rel d r q => cases q <;> cases hk
    | over d => cases hk
    | nx d => cases hk; exact ⟨rfl, axLd_ok _, ent_rp1⟩
    | sn d => cases hk; exact ⟨rfl, axSw_ok _ _ _ (rpw_bd _), ent_rp2⟩
    | hd d => cases hk; exact ⟨rfl, axLd_ok _, ent_rp3⟩
    | tl d => cases hk; exact ⟨rfl, axLd_ok _, ent_rp4⟩
    | st d => cases hk; exact ⟨rfl, axSt_ok _ _ (rpw_bd _), ent_rp5⟩
    | ln d => cases hk; exact ⟨rfl, axSt_ok _ _ (by omega), ent_rp6⟩
    | gl d k => cases hk; exact ⟨rfl, axLd_ok _, ent_rp7⟩
    | sh d => cases hk; exact ⟨rfl, axSw_ok _ _ _ (by omega), ent_rp8⟩
  k2 := fun t S q af hok hk => by
    cases t with
    | acq d q => cases hk; exact ⟨rfl, rp_acq_some _ hok.2, ent_rp9, fun a => (acq_laws _ _ _ who hw).axok _ a trivial⟩
    | que d q => cases hk; exact ⟨rfl, hok.2, ent_rp10, fun a ha => qp_axok (fun y => wd (20 + P * 264 + T * 3) G 2 y 1) d.all (by rw [RpD.all_len hok.1]; omega) q a ha⟩
    | rel d r q => cases q <;> cases hk <;> exact ⟨rfl, rfl, trivial, fun a => (rel_laws _ _ who).axok _ a trivial⟩
    | _ => cases hk
  sub := fun t S q af hok hk => by
    cases t with
    | acq d q => cases hk; exact acqSub_ok _ _ _ who hw _
    | que d q => cases hk; exact ⟨qp_steps who P T G cl _ hp hT hG (by rw [RpD.all_len hok.1]; omega) stepby_qput, qp_good who P T G cl _ hp hT hG (by rw [RpD.all_len hok.1]; omega), act_qput, fun w h => h, fun k h => h⟩
    | rel d r q => cases q <;> cases hk <;> exact relSub_ok _ _ who _
    | _ => cases hk
  on := fun t S q af v hok hk hv hs => rp_on hok hk hs
  ekeep := fun t es w w' ll Le he hb hk => by
    cases t with
    | acq d q => exact ⟨he.1, (qp_good who P T G cl _ hp hT hG (by rw [RpD.all_len' he.1]; omega)).keep he.2 hb hk⟩
    | rel d r q => exact ⟨he.1, (qp_good who P T G cl _ hp hT hG (by rw [RpD.all_len' he.1]; omega)).keep he.2 hb hk⟩
    | _ => exact he
  elt := fun t es w Le he k hk => by
    cases t with
    | acq d q => exact (qp_good who P T G cl _ hp hT hG (by rw [RpD.all_len' he.1]; omega)).lt he.2 k hk
    | rel d r q => exact (qp_good who P T G cl _ hp hT hG (by rw [RpD.all_len' he.1]; omega)).lt he.2 k hk
    | _ => rw [show Le = [] from he] at hk; cases hk
  fol := fun W x t a f v es Le hok hk hv hB he hxe hR hxR => by
    have hlt := hB.lt
    have hcx : cl ≠ x := fun e => hxR (by rw [e]; exact List.mem_singleton.2 rfl)
    cases t with
    | acq d q => cases hk
    | que d q => cases hk
    | rel d r q => cases q <;> cases hk
    | over d => cases hk
    | nx d =>
      cases hk
      obtain rfl : Le = [] := he
      refine (rp_replace W x cl who p d.g P T G d.nt d.hd d.tl d.has _ none hB hR hp v hcx).mono ?_
      rintro e w' ⟨hu, hC⟩
      exact ⟨hu, rp_land_acc (t := .sn { d with nt := v }) (es := es) (Le' := []) hC ⟨hok.len, hv, hok.hd, hok.tl⟩ rfl hlt rfl (by simp) (fun k hk => by cases hk)⟩
    | sn d =>
      cases hk
      obtain rfl : Le = [] := he
      by_cases h0 : v = 0
      · have e : (rpPM who P p (fun y => wd (20 + P * 264 + T * 3) G 2 y 1)).nx (.sn d) v = .nx d := if_pos h0
        rw [e]
        refine folC_swap false (decide_eq_false (fun h => h h0)) ((rp_replaced_no W x cl who p d.g P T G d.nt d.hd d.tl d.has _ none hB hR hp).mono ?_)
        rintro e w' ⟨hu, hC⟩
        exact ⟨hu, rp_land_acc (t := .nx d) (es := es) (Le' := []) hC hok rfl hlt rfl (by simp) (fun k hk => by cases hk)⟩
      · by_cases h1 : d.nt = 0
        · have e : (rpPM who P p (fun y => wd (20 + P * 264 + T * 3) G 2 y 1)).nx (.sn d) v = .over { d with has := false } := (if_neg h0).trans (if_pos h1)
          rw [e]
          refine folC_swap true (decide_eq_true h0) ((rp_replaced_none W x cl who p d.g d.nt d.hd d.tl d.has _ none hB h1).mono ?_)
          rintro e w' ⟨hu, hb, hbu⟩
          exact ⟨hu, rp_land_over (t := .over { d with has := false }) (es := es) (Le' := []) hb hbu ⟨hok.len, hok.nt, hok.hd, hok.tl⟩ rfl rfl (by simp) (fun k hk => by cases hk)⟩
        · have e : (rpPM who P p (fun y => wd (20 + P * 264 + T * 3) G 2 y 1)).nx (.sn d) v = .hd { d with g := gw d.nt } := (if_neg h0).trans (if_neg h1)
          rw [e]
          refine folC_swap true (decide_eq_true h0) ((rp_replaced_some W x cl who p d.g P T G d.nt d.hd d.tl d.has _ none hB hR hp h1 hcx).mono ?_)
          rintro e w' ⟨hu, hC⟩
          exact ⟨hu, rp_land_acc (t := .hd { d with g := gw d.nt }) (es := es) (Le' := []) hC ⟨hok.len, hok.nt, hok.hd, hok.tl⟩ rfl hlt rfl (by simp) (fun k hk => by cases hk)⟩
    | hd d =>
      cases hk
      obtain rfl : Le = [] := he
      refine (rp_lookTail W x cl who p d.g P T G d.nt d.hd d.tl d.has _ none hB hR hp v hcx).mono ?_
      rintro e w' ⟨hu, hC⟩
      exact ⟨hu, rp_land_acc (t := .tl { d with hd := v }) (es := es) (Le' := []) hC ⟨hok.len, hok.nt, hv, hok.tl⟩ rfl hlt rfl (by simp) (fun k hk => by cases hk)⟩
    | tl d =>
      cases hk
      obtain rfl : Le = [] := he
      by_cases h0 : (v - d.hd) % 4294967296 < 256
      · have e : (rpPM who P p (fun y => wd (20 + P * 264 + T * 3) G 2 y 1)).nx (.tl d) v = .st { d with tl := v } := if_pos h0
        rw [e]
        refine (rp_choose_room W x cl who p d.g P T G d.nt d.hd d.tl d.has d.gv d.ld none none hB hR hp v hcx hv hok.hd h0).mono ?_
        rintro e w' ⟨hu, hC⟩
        exact ⟨hu, rp_land_acc (t := .st { d with tl := v }) (es := es) (Le' := []) hC ⟨hok.len, hok.nt, hok.hd, hv⟩ rfl hlt rfl (by simp) (fun k hk => by cases hk)⟩
      · have e : (rpPM who P p (fun y => wd (20 + P * 264 + T * 3) G 2 y 1)).nx (.tl d) v = .gl { d with tl := v, ld := 0 } 0 := if_neg h0
        rw [e]
        refine (rp_choose_full W x cl who p d.g P T G d.nt d.hd d.tl d.has d.gv d.ld none none hB hR hp v hcx hok.len hv hok.hd h0).mono ?_
        rintro e w' ⟨hu, hC⟩
        exact ⟨hu, rp_land_acc (t := .gl { d with tl := v, ld := 0 } 0) (es := es) (Le' := []) hC ⟨⟨hok.len, hok.nt, hok.hd, hv⟩, by omega, rfl⟩ rfl hlt rfl (by simp) (fun k hk => by cases hk)⟩
    | st d =>
      cases hk
      obtain rfl : Le = [] := he
      refine (rp_lengthen W x cl who p d.g P T G d.nt d.hd d.tl d.has d.gv d.ld none none hB hR hp hok.tl).mono ?_
      rintro e w' ⟨hu, hC⟩
      exact ⟨hu, rp_land_acc (t := .ln d) (es := es) (Le' := []) hC hok rfl hlt rfl (by simp) (fun k hk => by cases hk)⟩
    | ln d =>
      cases hk
      obtain rfl : Le = [] := he
      refine (rp_leave W x cl who p d.g d.nt d.hd d.tl d.has _ none hB).mono ?_
      rintro e w' ⟨hu, hb, hbu⟩
      exact ⟨hu, rp_land_over (t := .over { d with has := false }) (es := es) (Le' := []) hb hbu ⟨hok.len, hok.nt, hok.hd, hok.tl⟩ rfl rfl (by simp) (fun k hk => by cases hk)⟩
    | gl d k =>
      cases hk
      obtain rfl : Le = [] := he
      obtain ⟨ho, hk1, hld⟩ := hok
      have hB' : Blk W x (rpCells who none cl p d.g d.has d.nt d.hd d.tl (rpRest d.gv k none)) 149 := by rw [← hld]; exact hB
      by_cases h0 : k + 1 < 128
      · have e : (rpPM who P p (fun y => wd (20 + P * 264 + T * 3) G 2 y 1)).nx (.gl d k) v = .gl (d.take1 k v) (k + 1) := if_pos h0
        rw [e]
        refine (rp_keep_on W x cl who p d.g P T G d.nt d.hd d.tl d.has d.gv k none none hB' hR hp hk1 ho.len hcx v h0).mono ?_
        rintro e w' ⟨hu, hC⟩
        exact ⟨hu, rp_land_acc (t := .gl (d.take1 k v) (k + 1)) (es := es) (Le' := []) hC ⟨RpD.take1_ok ho k v, h0, rfl⟩ rfl hlt rfl (by simp) (fun k hk => by cases hk)⟩
      · have e : (rpPM who P p (fun y => wd (20 + P * 264 + T * 3) G 2 y 1)).nx (.gl d k) v = .sh (d.take1 k v) := if_neg h0
        rw [e]
        refine (rp_keep_all W x cl who p d.g P T G d.nt d.hd d.tl d.has d.gv k none none hB' hR hp hk1 ho.len hcx v ho.hd (by omega)).mono ?_
        rintro e w' ⟨hu, hC⟩
        exact ⟨hu, rp_land_acc (t := .sh (d.take1 k v)) (es := es) (Le' := []) hC ⟨RpD.take1_ok ho k v, by show ((k + 1 : Nat) : Int) = 128; omega⟩ rfl hlt rfl (by simp) (fun k hk => by cases hk)⟩
    | sh d =>
      cases hk
      obtain rfl : Le = [] := he
      by_cases h0 : v = 0
      · have e : (rpPM who P p (fun y => wd (20 + P * 264 + T * 3) G 2 y 1)).nx (.sh d) v = .hd d := if_pos h0
        rw [e]
        refine folC_swap false (decide_eq_false (fun h => h h0)) ((rp_take_no W x cl who p d.g P T G d.nt d.hd d.tl d.has _ none hB hR hp).mono ?_)
        rintro e w' ⟨hu, hC⟩
        exact ⟨hu, rp_land_acc (t := .hd d) (es := es) (Le' := []) hC hok.1 rfl hlt rfl (by simp) (fun k hk => by cases hk)⟩
      · have e : (rpPM who P p (fun y => wd (20 + P * 264 + T * 3) G 2 y 1)).nx (.sh d) v = .acq d .fresh := if_neg h0
        rw [e]
        have hall := RpD.all_len hok.1
        refine folC_swap true (decide_eq_true h0) ((rp_take_yes W x cl who p d.g P T G d.nt d.hd d.tl d.has d.gv d.ld none none (fun w y L => qpI who cl (fun y => wd (20 + P * 264 + T * 3) G 2 y 1) d.all w y (.ch 0) L) hB hok.1.len hR hcx (fun a b y L h hb hx => qp_keep1 hp hT hG (by rw [hall]; omega) h hb hx) (fun Y v hY hs => ?_)).mono ?_)
        · refine (qp_new_some Y cl who P T G v d.all hs (by rw [hall]; omega) (by rw [hall]; omega) hY hp hT hG).mono ?_
          rintro e w' ⟨y, L, rfl, h1, h2, h3, h4⟩
          exact ⟨y, L, rfl, h1, h2, h3, (qp_good who P T G cl d.all hp hT hG (by rw [hall]; omega)).lt h1, h4⟩
        · rintro e w' ⟨hu, y, L, x2, q2, q, b, hC, hq, hM, f1, f2, f3, f4, f5⟩
          have o1 := hM.o1
          exact ⟨hu, rp_land_run (S := acqSub (wd 0 2 3 0 0) (wd 0 2 3 0 1) (wd 0 2 3 0 2) who) (t := .acq d .fresh) (es := [y]) (pt := AcqT.fresh) (af := .fn 213) (Le' := L) hC (acqSub_at hM) (by simp; omega) (fun k hk => .inr (by simp at hk; omega)) (by simp; omega) (by simp; omega) ⟨hok.1, trivial⟩ rfl trivial hlt ⟨hok.1.len, hq⟩ (fun hm => by have := f1 x hm; omega) (fun k hk hm => by have := f1 k hm; simp at hk; omega) ⟨fun hm => by have := f1 q hm; omega, fun hm => by have := f1 b hm; omega⟩ (fun k hk => .inr (f1 k hk).1)⟩
  aft := fun W x y t S q af v es Le Li hok hk hv hn hB hin hty he hxe hxi hd hR hxR => by
    have hlt := hB.lt
    cases t with
    | acq d q =>
      cases hk
      have e : (rpPM who P p (fun y => wd (20 + P * 264 + T * 3) G 2 y 1)).nx (.acq d q) v = .que d (.ch 0) := rp_acq_over _ hn
      rw [e]
      have hall := RpD.all_len hok.1
      have hgd := qp_good who P T G cl d.all hp hT hG (by rw [hall]; omega)
      have hq : qpI who cl (fun y => wd (20 + P * 264 + T * 3) G 2 y 1) d.all W (es.getD 0 0) (.ch 0) Le := he.2
      obtain ⟨nx, hc1, hnx⟩ := hgd.next hq
      cases nx with
      | none => cases hnx
      | some a =>
        refine (rp_move W x cl who p d.g d.nt d.hd d.tl d.has d.gv d.ld (es.getD 0 0) none a hB hok.1.len (fun h => hxe (h ▸ hgd.mem hq)) hc1).mono ?_
        rintro e w' ⟨hu, q1, b, hC⟩
        have hlq := hgd.lt hq
        have fq := hC.at'.fresh
        have fb := hC.fresh
        exact ⟨hu, rp_land_run (S := qpSub who (fun y => wd (20 + P * 264 + T * 3) G 2 y 1) cl P T G d.all) (t := .que d (.ch 0)) (es := es) (pt := QpT.ch 0) (af := .fn 224) (L := Le) (Le' := []) hC (qp_keep1 hp hT hG (by rw [hall]; omega) hq hC.at'.but hxe) hxe (fun k hk => .inl (List.mem_append_right _ hk)) (fun hm => by have := hlq q1 hm; omega) (fun hm => by have := hlq b hm; omega) ⟨hok.1, rfl⟩ rfl rfl hlt rfl (by simp) (by simp) (by simp) (fun k hk => by cases hk)⟩
    | que d q =>
      cases hk
      obtain rfl : Le = [] := he
      have hall := RpD.all_len hok.1
      have hgd := qp_good who P T G cl d.all hp hT hG (by rw [hall]; omega)
      have e : (rpPM who P p (fun y => wd (20 + P * 264 + T * 3) G 2 y 1)).nx (.que d q) v = .rel d ((qpPM (fun y => wd (20 + P * 264 + T * 3) G 2 y 1) d.all).nx q v) .fresh := if_neg (by rw [show (qpPM (fun y => wd (20 + P * 264 + T * 3) G 2 y 1) d.all).ax ((qpPM (fun y => wd (20 + P * 264 + T * 3) G 2 y 1) d.all).nx q v) = none from hn]; simp)
      rw [e]
      obtain rfl : es.getD 0 0 = y := hty
      have hlq := hgd.lt hin
      refine (rp_release W x cl who p d.g d.nt d.hd d.tl d.has d.gv d.ld none _ hB hok.1.len).mono ?_
      rintro e w' ⟨hu, x2, q2, g2, q1, b, hC, hM, f1, f2, f3, f4, f5⟩
      have o1 := hM.o1
      have o2 := hM.o2
      have fq := hC.at'.fresh
      have fb := hC.fresh
      exact ⟨hu, rp_land_run (S := relSub (wd 0 2 3 0 1) (wd 0 2 3 0 2) who) (t := .rel d ((qpPM (fun y => wd (20 + P * 264 + T * 3) G 2 y 1) d.all).nx q v) .fresh) (es := es) (pt := RelT.fresh) (af := .nil) (Le' := Li) hC (relSub_at hM) (by simp; omega) (fun k hk => .inr (by simp at hk; omega)) (by simp; omega) (by simp; omega) hok.1 rfl trivial hlt ⟨hok.1.len, qp_keep1 hp hT hG (by rw [hall]; omega) hin hC.at'.but hxi⟩ hxi (fun k hk hm => by have := hlq k hm; simp at hk; omega) ⟨fun hm => by have := hlq q1 hm; omega, fun hm => by have := hlq b hm; omega⟩ (fun k hk => .inl (List.mem_append_left _ hk))⟩
    | rel d r q =>
      cases q with
      | over => cases hk
      | fresh => cases hk; cases hn
      | pass =>
        cases hk
        exact rp_land_over (t := .rel d r .over) (es := es) (Le' := Le) hB (But.refl _ _) hok rfl he hxe (fun k hk => List.mem_append_right _ hk)
    | _ => cases hk
end
end Go.Proofs.YthhlklfioipmgaaGreat

namespace Go.Proofs.YthhlklfioipmgaaGreat
open Go Go.RowKit
set_option linter.unusedVariables false
set_option maxRecDepth 100000
set_option linter.unusedSimpArgs false

section
variable (w : World) (x cl : Nat) (who p g nt hd tl : Int) (gv : List Int) (ld : Int) (nx : Option Addr)
theorem rp_holds_no (qu : Option Addr) (hB : Blk w x (rpCells who nx cl p g false nt hd tl (rpRest gv ld qu)) 149) :
    Calls Tryz.prog 100 #[.pointer (some ⟨x, 0, none⟩)] w fun e w' => ∃ v, e = .returned v ∧ SeesL w' v [] ∧ Below w.heap.size w w' := by
  have c5 := hB.cell 5 rp_c5
  clear hB
  go_enter Tryz.func100, Tryz.ntmps100
  go_wp2_with fail
  go_ret
  exact ⟨_, rfl, ⟨none, 0, rfl, fun _ => ⟨rfl, rfl⟩, fun h => absurd h (by simp)⟩, Below.refl _ _⟩
theorem rp_holds_one (hB : Blk w x (rpCells who nx cl p g true nt hd tl (rpRest gv ld none)) 149) (hg : gv.length = 128) :
    Calls Tryz.prog 100 #[.pointer (some ⟨x, 0, none⟩)] w fun e w' => ∃ v, e = .returned v ∧ SeesL w' v [g] ∧ Below w.heap.size w w' := by
  have c5 := hB.cell 5 rp_c5
  have c4 := hB.cell 4 rp_c4
  have c138 := hB.cell 138 (rp_c138 hg)
  clear hB
  go_enter Tryz.func100, Tryz.ntmps100
  go_wp2_with fail
  go_ret
  have hb := (Below.refl w.heap.size w).alloc (Nat.le_refl _) (.cells #[.int .i64 g] 3)
  refine ⟨_, rfl, ⟨some ⟨w.heap.size, 0, none⟩, 1, rfl, (fun h => by cases h), fun _ => ⟨w.heap.size, 0, rfl, by rw [World.size_alloc]; omega, fun j hj => ?_⟩⟩, hb⟩
  have hB := Blk.new w #[.int .i64 g] 3
  simp at hj
  subst hj
  exact hB.cell 0 rfl
theorem rp_holds_many (y : Nat) (l : List Int) (hB : Blk w x (rpCells who nx cl p g true nt hd tl (rpRest gv ld (some ⟨y, 0, none⟩))) 149) (hg : gv.length = 128)
    (hH : Calls Tryz.prog 17 #[.pointer (some ⟨y, 0, none⟩)] w fun e w' => ∃ v, e = .returned v ∧ IntsOn w' w.heap.size v l ∧ Below w.heap.size w w') :
    Calls Tryz.prog 100 #[.pointer (some ⟨x, 0, none⟩)] w fun e w' => ∃ v, e = .returned v ∧ SeesL w' v l ∧ Below w.heap.size w w' := by
  have c5 := hB.cell 5 rp_c5
  have c138 := hB.cell 138 (rp_c138 hg)
  clear hB
  go_enter Tryz.func100, Tryz.ntmps100
  go_wp2_with fail
  go_at_call 17; refine hH.mono ?_; rintro e w1 ⟨v, rfl, h1, h2⟩
  clear hH c5 c138
  go_wp2_with fail
  go_ret
  exact ⟨_, rfl, h1.sees, h2⟩
end
theorem rp_blk {who P T G p : Int} {cl : Nat} {gl : Int → Int} {w : World} {x : Nat} {t : RpT} {es Le L : List Nat} (h : (rpCp who gl P T G p cl).Here w x t es Le L ((rpCp who gl P T G p cl).kind t)) : ∃ nx, Blk w x (rpAt who p cl t es nx) 149 := by
  cases hk : (rpCp who gl P T G p cl).kind t with
  | over => rw [hk] at h; exact ⟨none, h.1⟩
  | acc a f => rw [hk] at h; obtain ⟨q, Lc, h1, -⟩ := h; exact ⟨_, h1⟩
  | run S q af => rw [hk] at h; obtain ⟨q1, y, g, Li, h1, -⟩ := h; exact ⟨_, h1.hx⟩
theorem rp_holds_few (w : World) (x cl : Nat) (who p : Int) (d : RpD) (nx : Option Addr) (hB : Blk w x (rpCells who nx cl p d.g d.has d.nt d.hd d.tl (rpRest d.gv d.ld none)) 149) (hg : d.gv.length = 128) :
    Calls Tryz.prog 100 #[.pointer (some ⟨x, 0, none⟩)] w fun e w' => ∃ v, e = .returned v ∧ SeesL w' v (if d.has = true then [d.g] else []) ∧ Below w.heap.size w w' := by
  cases hh : d.has with
  | true => rw [hh] at hB; exact rp_holds_one w x cl who p d.g d.nt d.hd d.tl d.gv d.ld nx hB hg
  | false => rw [hh] at hB; exact rp_holds_no w x cl who p d.g d.nt d.hd d.tl d.gv d.ld nx _ hB
theorem rp_holds_queue (w : World) (x y cl : Nat) (who p : Int) (gl : Int → Int) (d : RpD) (q : QpT) (L : List Nat) (nx : Option Addr) (hB : Blk w x (rpCells who nx cl p d.g d.has d.nt d.hd d.tl (rpRest d.gv d.ld (some ⟨y, 0, none⟩))) 149) (hg : d.gv.length = 128) (hq : qpI who cl gl d.all w y q L) :
    Calls Tryz.prog 100 #[.pointer (some ⟨x, 0, none⟩)] w fun e w' => ∃ v, e = .returned v ∧ SeesL w' v (if d.has = true then (if q.lies = true then [] else d.all) else []) ∧ Below w.heap.size w w' := by
  have hn : d.all.length ≤ 1000000 := by have := RpD.all_len' hg; omega
  have hH := qp_holds hq hn
  cases hh : d.has with
  | true => rw [hh] at hB; exact rp_holds_many w x cl who p d.g d.nt d.hd d.tl d.gv d.ld nx y _ hB hg hH
  | false => rw [hh] at hB; exact rp_holds_no w x cl who p d.g d.nt d.hd d.tl d.gv d.ld nx _ hB
/-- What it holds. -/
theorem rp_holds {who P T G p : Int} {gl : Int → Int} {cl : Nat} {w : World} {x : Nat} {t : RpT} {L : List Nat} (h : (rpCp who gl P T G p cl).I w x t L) :
    Calls Tryz.prog 100 #[.pointer (some ⟨x, 0, none⟩)] w fun e w' => ∃ v, e = .returned v ∧ SeesL w' v t.holds ∧ Below w.heap.size w w' := by
  have hok := h.1
  obtain ⟨-, es, Le, he, hxe, hH⟩ := h
  obtain ⟨nx, hB⟩ := rp_blk hH
  cases t with
  | acq d q => exact rp_holds_queue w x (es.getD 0 0) cl who p gl d (.ch 0) Le nx hB hok.1.len he.2
  | que d q =>
    obtain ⟨q1, y, g, Li, h1, h2, h3, -⟩ := hH
    obtain rfl : es.getD 0 0 = y := h3
    exact rp_holds_queue w x (es.getD 0 0) cl who p gl d q Li nx hB hok.1.len h2
  | rel d q r => exact rp_holds_queue w x (es.getD 0 0) cl who p gl d q Le nx hB he.1 he.2
  | gl d k => exact rp_holds_few w x cl who p d nx hB hok.1.len
  | sh d => exact rp_holds_few w x cl who p d nx hB hok.1.len
  | nx d => exact rp_holds_few w x cl who p d nx hB hok.len
  | sn d => exact rp_holds_few w x cl who p d nx hB hok.len
  | hd d => exact rp_holds_few w x cl who p d nx hB hok.len
  | tl d => exact rp_holds_few w x cl who p d nx hB hok.len
  | st d => exact rp_holds_few w x cl who p d nx hB hok.len
  | ln d => exact rp_holds_few w x cl who p d nx hB hok.len
  | over d => exact rp_holds_few w x cl who p d nx hB hok.len
/-- How many it moved. -/
def RpT.moved (t : RpT) : Int := if t.full = true then 129 else 0
theorem rp_moves {who P T G p : Int} {gl : Int → Int} {cl : Nat} {w : World} {x : Nat} {t : RpT} {L : List Nat} (h : (rpCp who gl P T G p cl).I w x t L) :
    Calls Tryz.prog 40 #[.pointer (some ⟨x, 0, none⟩)] w fun e w' => e = .returned (.int .i64 t.moved) ∧ w = w' := by
  have hok := h.1
  obtain ⟨-, es, Le, he, hxe, hH⟩ := h
  obtain ⟨nx, hB⟩ := rp_blk hH
  have hl : t.d.gv.length = 128 := by
    cases t with
    | acq d q => exact hok.1.len
    | que d q => exact hok.1.len
    | gl d k => exact hok.1.len
    | sh d => exact hok.1.len
    | _ => exact hok.len
  have := rp_moved w x cl who p t.d.g t.d.nt t.d.hd t.d.tl t.d.has t.d.gv t.d.ld _ nx hB hl
  refine this.mono ?_
  rintro e w' ⟨rfl, rfl⟩
  refine ⟨?_, rfl⟩
  unfold RpT.moved
  cases t.full <;> rfl
/-- Its beginning. -/
def rpD0 (g : Int) : RpD := ⟨g, true, 0, 0, 0, List.replicate 128 0, 0⟩
def rpStart (g : Int) (nxt : Bool) : RpT := if nxt = true then .nx (rpD0 g) else .hd (rpD0 g)
theorem rpD0_ok (g : Int) : (rpD0 g).Ok := ⟨by simp [rpD0], by constructor <;> simp [rpD0], by constructor <;> simp [rpD0], by constructor <;> simp [rpD0]⟩
theorem rp_new_at (w : World) (cl : Nat) (who p g P T G : Int) (gl : Int → Int) (nxt : Bool) (hl : Lay w cl P T G) (hP : 0 ≤ P ∧ P ≤ 64) :
    Calls Tryz.prog 36 #[.pointer (some ⟨cl, 0, none⟩), .int .i64 who, .int .i64 p, .int .i64 g, .bool nxt] w fun e w' => ∃ x L, e = .returned (.pointer (some ⟨x, 0, none⟩)) ∧ (rpCp who gl P T G p cl).I w' x (rpStart g nxt) L ∧ Below w.heap.size w w' ∧ (∀ k ∈ L, w.heap.size ≤ k) ∧ w.heap.size ≤ x := by
  refine (rp_new_step w cl who p g P T G nxt hl hP).mono ?_
  rintro e w' ⟨x, q, Lc, rfl, h1, h2, h3, h4, h5, h6⟩
  cases nxt with
  | true =>
    refine ⟨x, x :: (Lc ++ []), rfl, ⟨rpD0_ok g, [], [], rfl, by simp, q, Lc, h1, h2, h3, (fun k _ h => by cases h), rfl⟩, h4, ?_, h6⟩
    intro k hk; simp at hk; rcases hk with rfl | hk
    · exact h6
    · exact h5 k hk
  | false =>
    refine ⟨x, x :: (Lc ++ []), rfl, ⟨rpD0_ok g, [], [], rfl, by simp, q, Lc, h1, h2, h3, (fun k _ h => by cases h), rfl⟩, h4, ?_, h6⟩
    intro k hk; simp at hk; rcases hk with rfl | hk
    · exact h6
    · exact h5 k hk
end Go.Proofs.YthhlklfioipmgaaGreat

namespace Go.Proofs.YthhlklfioipmgaaGreat
open Go Go.RowKit
set_option linter.unusedVariables false
set_option maxRecDepth 100000
set_option linter.unusedSimpArgs false

def rpQue (d : RpD) : QpT → RpT
  | .over => .rel d .over .fresh
  | .done0 => .rel d .done0 .fresh
  | q => .que d q
def rpAcq (d : RpD) (p : AcqT) : RpT := p.goes (.acq d) (.que d (.ch 0))
theorem rp_acqIn (who P p : Int) (gl : Int → Int) (d : RpD) : AcqIn (rpPM who P p gl) 0 who (rpAcq d) where
  f := rfl
  w := fun t => rfl
  h := fun t => rfl
  nf := fun v => rfl
  nw := fun t v => by
    show ((if v = t then AcqT.has t else AcqT.wait t)).goes (RpT.acq d) (.que d (.ch 0)) = _
    split <;> rfl
  nh := fun t v => rfl
theorem rp_relIn (who P p : Int) (gl : Int → Int) (d : RpD) (q : QpT) : RelIn (rpPM who P p gl) 0 (RpT.rel d q) where
  f := rfl
  p := rfl
  nf := fun v => rfl
  np := fun v => rfl
theorem rp_qpIn (who P p : Int) (gl : Int → Int) (d : RpD) : QpIn (rpPM who P p gl) gl d.all (rpQue d) where
  ch := fun _ => rfl
  ld := rfl
  pt := fun _ => rfl
  tr := rfl
  ct := rfl
  n1 := fun k v => by
    show (if ((qpPM gl d.all).ax (if k + 1 < d.all.length then QpT.ch (k + 1) else .ld)).isSome = true then RpT.que d (if k + 1 < d.all.length then QpT.ch (k + 1) else .ld) else .rel d (if k + 1 < d.all.length then QpT.ch (k + 1) else .ld) .fresh) = _
    split <;> (split <;> first | rfl | (rename_i h _; exact absurd rfl h) | (rename_i h; exact absurd rfl h))
  n2 := fun _ => rfl
  n3 := fun _ _ => rfl
  n4 := fun _ => rfl
  n5 := fun _ => rfl
/-- Where a slow put stopped, and what it holds there. -/
def RpQ (Q : RpT → Prop) (d : RpD) (held : List Int) (r : RpT) : Prop := (Q r ∧ held = d.all) ∨ (r.d = d ∧ r.full = true ∧ (d.has = true → held = r.holds))
def RpGot (M : PM RpT) (d : RpD) (w : World) (x : Nat) (A : Option Addr) (cap m : Nat) (g : Nat → Int) (s0 : RpT) (Q : RpT → Prop) (j : Nat) (e : Ending) (w' : World) : Prop := ∃ (v : Value) (held : List Int) (j' : Nat) (q : QpT), e = .returned (.agg #[v, .int .i64 129]) ∧ SeesL w' v held ∧ RunOn w' x A cap m g (M.rj s0 g m j') ∧ Syn M s0 g m j' (.rel d q .over) (RpQ Q d held) ∧ (j' ≤ m → held = if q.lies = true then [] else d.all) ∧ But [x] w w' ∧ j ≤ j'
theorem rpQ_acq {Q : RpT → Prop} {d : RpD} (p : AcqT) : RpQ Q d d.all (.acq d p) := .inr ⟨rfl, rfl, fun h => by show _ = if d.has = true then _ else _; rw [if_pos h]⟩
theorem rpQ_que {Q : RpT → Prop} {d : RpD} {held : List Int} (q : QpT) (h : held = if q.lies = true then [] else d.all) : RpQ Q d held (.que d q) := .inr ⟨rfl, rfl, fun h2 => by show _ = if d.has = true then _ else _; rw [if_pos h2]; exact h⟩
theorem rpQ_rel {Q : RpT → Prop} {d : RpD} {held : List Int} (q : QpT) (p : RelT) (h : held = if q.lies = true then [] else d.all) : RpQ Q d held (.rel d q p) := .inr ⟨rfl, rfl, fun h2 => by show _ = if d.has = true then _ else _; rw [if_pos h2]; exact h⟩
theorem rpQue_live {d : RpD} : ∀ {q : QpT}, q.live = true → rpQue d q = .que d q
  | .ch _, _ => rfl
  | .ld, _ => rfl
  | .pt _, _ => rfl
  | .tr, _ => rfl
  | .ct, _ => rfl
theorem rpQue_over {d : RpD} : ∀ {q : QpT}, q.live = false → rpQue d q = .rel d q .fresh
  | .over, _ => rfl
  | .done0, _ => rfl
theorem rpQ_qp {Q : RpT → Prop} {d : RpD} {held : List Int} {r : RpT} (h : QpQ (RpQ Q d d.all) (rpQue d) d.all held r) : RpQ Q d held r := by
  rcases h with ⟨h1, h2⟩ | ⟨p', h1, h2, h3⟩
  · rw [h2]; exact h1
  · rw [h2, rpQue_live h1]; exact rpQ_que p' h3
theorem qpQ_held {Q : RpT → Prop} {d : RpD} {held : List Int} {r : RpT} (h : QpQ (RpQ Q d d.all) (rpQue d) d.all held r) : held = d.all ∨ held = [] := by
  rcases h with ⟨h1, h2⟩ | ⟨p', h1, h2, h3⟩
  · exact .inl h2
  · rw [h3]; split <;> simp

theorem sees_far {w : World} {A : Option Addr} {cap n : Nat} {l : List Int} (h : SeesL w (.slice A n cap) l) (hl : 0 < l.length → l.length = 129) {k : Nat} {cs : Array Value} {T : TypeId} (hB : Blk w k cs T) (hc : cs.size ≤ 100) (h0 : 0 < l.length) : ∀ b off : Nat, A = some ⟨b, off, none⟩ → b ≠ k := by
  rintro b off rfl rfl
  obtain ⟨A', c', e', -, h2⟩ := h
  injection e' with ea eb ec
  subst ea
  obtain ⟨b', off', e3, -, h4⟩ := h2 h0
  cases e3
  have h6 := h4 128 (by have := hl h0; omega)
  simp only [World.cell?, hB.heap] at h6
  rw [Array.getElem?_eq_none (by omega)] at h6
  cases h6
theorem SeesL.but2 {w w' : World} {A : Option Addr} {n cap k : Nat} {l : List Int} (h : SeesL w (.slice A n cap) l) (hB : But [k] w w') (hx : 0 < l.length → ∀ b off : Nat, A = some ⟨b, off, none⟩ → b ≠ k) : SeesL w' (.slice A n cap) l := by
  by_cases h0 : 0 < l.length
  · exact h.but hB (hx h0)
  · obtain ⟨A', c', e', h1, h2⟩ := h
    exact ⟨A', c', e', h1, fun h => absurd h h0⟩
theorem SeesL.but1 {w w' : World} {A : Option Addr} {n cap k : Nat} {l : List Int} (h : SeesL w (.slice A n cap) l) (hB : But [k] w w') (hx : ∀ b off : Nat, A = some ⟨b, off, none⟩ → b ≠ k) : SeesL w' (.slice A n cap) l := h.but hB hx
theorem But.low {w w1 w2 : World} {x k : Nat} (h : But [x] w w1) (h2 : But [k] w1 w2) (hk : w.heap.size ≤ k) : But [x] w w2 :=
  ⟨h2.os.trans h.os, h2.tape.trans h.tape, h2.output.trans h.output, Nat.le_trans h.size h2.size, fun i hi hc => (h2.block i (Nat.lt_of_lt_of_le hi h.size) (by simp; omega)).trans (h.block i hi hc)⟩
end Go.Proofs.YthhlklfioipmgaaGreat

namespace Go.Proofs.YthhlklfioipmgaaGreat
open Go Go.RowKit
set_option linter.unusedVariables false
set_option maxRecDepth 100000
set_option linter.unusedSimpArgs false

/-- What was loaded is told back as it was. -/
theorem rpw_gw (v : Int) (hv : 0 ≤ v ∧ v ≤ 18446744073709551615) : rpw (gw v) = v := by
  rw [← gw_eq v hv]
  unfold rpw
  simp [IntKind.wrap, IntKind.bits, IntKind.signed, wrap64]
  repeat' split
  all_goals omega
theorem rp_steps {who P T G p : Int} {cl : Nat} (hw : 0 ≤ who ∧ who ≤ 1000000) (hp : 0 ≤ P ∧ P ≤ 64) (hT : 0 ≤ T ∧ T ≤ 65536) (hG : 0 ≤ G ∧ G ≤ 65536) :
    Steps (rpPM who P p (fun y => wd (20 + P * 264 + T * 3) G 2 y 1)) (rpCp who (fun y => wd (20 + P * 264 + T * 3) G 2 y 1) P T G p cl).I (Rd.lay cl P T G) 37 who :=
  Cp.steps (rp_laws hw hp hT hG) stepby_rput
theorem rp_good {who P T G p : Int} {cl : Nat} (hw : 0 ≤ who ∧ who ≤ 1000000) (hp : 0 ≤ P ∧ P ≤ 64) (hT : 0 ≤ T ∧ T ≤ 65536) (hG : 0 ≤ G ∧ G ≤ 65536) :
    (rpCp who (fun y => wd (20 + P * 264 + T * 3) G 2 y 1) P T G p cl).I.Good (rpPM who P p (fun y => wd (20 + P * 264 + T * 3) G 2 y 1)) :=
  Cp.good (rp_laws hw hp hT hG)
theorem rpQue_start (d : RpD) : rpQue d (qpStart d.all) = .que d (.ch 0) := by
  have e : qpStart d.all = .ch 0 := if_neg (by simp [RpD.all])
  rw [e]; rfl
end Go.Proofs.YthhlklfioipmgaaGreat

namespace Go.Proofs.YthhlklfioipmgaaGreat
open Go Go.RowKit
set_option linter.unusedVariables false
set_option maxRecDepth 100000
set_option linter.unusedSimpArgs false

theorem rp_quE (who P p : Int) (gl : Int → Int) (d : RpD) : QuE (rpPM who P p gl) gl d.all (rpQue d) where
  ch := fun _ => rfl
  ld := rfl
  pt := fun _ => rfl
  tr := rfl
  ct := rfl
  n1 := (rp_qpIn who P p gl d).n1
  n2 := fun _ => rfl
  n3 := fun _ _ => rfl
  n4 := fun _ => rfl
  n5 := fun _ => rfl
def rfM : PM RpT := rpPM 0 1 0 (quGl 60)
theorem rf_w {k : Int} (hk : 0 ≤ k ∧ k < 264) : wd 20 1 264 0 k = 20 + k := by
  unfold wd; rw [if_pos ⟨by omega, by omega, hk.1, hk.2⟩]; omega
theorem rf_word {g : Int} (h : 0 ≤ g ∧ g < 60) : rpw g = g + 1 := by
  unfold rpw; simp [IntKind.wrap, IntKind.bits, IntKind.signed]; omega
/-- A ring's words: so many goroutines from h on, round and round; nothing else. -/
structure Rf (s : St) (h : Int) (m : Nat) : Prop where
  hb : 0 ≤ h ∧ h < 4294967296
  hd : s.f 21 = h
  tl : s.f 22 = (h + m) % 4294967296
  nw : s.f 23 = 0
  rg : ∀ i : Nat, i < m → s.f (28 + (h + i) % 256).toNat = ((i % 60 : Nat) : Int) + 1
  z : ∀ j : Nat, j < 20 → s.f j = 0
  bad : s.bad = 0
theorem rf_room {n : Nat} {s : St} {h : Int} {m : Nat} {g : Int} (hn : n = 407) (hq : Rf s h m) (hm : m < 256) (hg : 0 ≤ g ∧ g < 60) :
    ∃ s' d, rfM.steps 0 n 300 (rpStart g false, s) = (.over d, s') ∧ (∀ j : Nat, s'.f j = if j = 22 then (h + m + 1) % 4294967296 else if j = (28 + (h + m) % 256).toNat then g + 1 else s.f j) ∧ s'.bad = 0 := by
  subst hn
  have hb := hq.hb
  obtain ⟨s1, a1, f1, b1⟩ := steps_ld (M := rfM) (who := 0) (n := 407) (k := 299) (t := .hd (rpD0 g)) (s := s) (i := wd 20 1 264 0 1) rfl (by rw [rf_w (by omega)]; omega)
  rw [rf_w (by omega), show (20 + 1 : Int).toNat = 21 from rfl, hq.hd] at a1
  obtain ⟨s2, a2, f2, b2⟩ := steps_ld (M := rfM) (who := 0) (n := 407) (k := 298) (t := .tl { rpD0 g with hd := h }) (s := s1) (i := wd 20 1 264 0 2) rfl (by rw [rf_w (by omega)]; omega)
  rw [rf_w (by omega), show (20 + 2 : Int).toNat = 22 from rfl, f1, hq.tl] at a2
  obtain ⟨v, hv⟩ : ∃ v, (h + m) % 4294967296 = v := ⟨_, rfl⟩
  rw [hv] at a2
  have e2 : rfM.nx (.tl { rpD0 g with hd := h }) v = .st { rpD0 g with hd := h, tl := v } := by
    show (if (v - h) % 4294967296 < 256 then _ else _) = _
    rw [if_pos (by omega)]
  rw [e2] at a2
  obtain ⟨s3, a3, f3, b3⟩ := steps_st (M := rfM) (who := 0) (n := 407) (k := 297) (t := .st { rpD0 g with hd := h, tl := v }) (s := s2) (i := wd 20 1 264 0 (8 + v % 256)) (v := rpw g) rfl (by rw [rf_w (by omega)]; omega)
  rw [rf_w (by omega)] at f3
  obtain ⟨s4, a4, f4, b4⟩ := steps_st (M := rfM) (who := 0) (n := 407) (k := 296) (t := .ln { rpD0 g with hd := h, tl := v }) (s := s3) (i := wd 20 1 264 0 2) (v := (v + 1) % 4294967296) rfl (by rw [rf_w (by omega)]; omega)
  rw [rf_w (by omega), show (20 + 2 : Int).toNat = 22 from rfl] at f4
  refine ⟨s4, { rpD0 g with hd := h, tl := v, has := false }, ?_, fun j => ?_, by rw [b4, b3, b2, b1]; exact hq.bad⟩
  · show rfM.steps 0 407 (299 + 1) (.hd (rpD0 g), s) = _
    rw [a1]
    show rfM.steps 0 407 (298 + 1) (.tl { rpD0 g with hd := h }, s1) = _
    rw [a2]
    show rfM.steps 0 407 (297 + 1) (.st { rpD0 g with hd := h, tl := v }, s2) = _
    rw [a3]
    show rfM.steps 0 407 (296 + 1) (.ln { rpD0 g with hd := h, tl := v }, s3) = _
    rw [a4]
    exact steps_no (M := rfM) (t := .over { rpD0 g with hd := h, tl := v, has := false }) rfl 296
  · rw [f4, f3, f2, f1]
    show (if j = 22 then (v + 1) % 4294967296 else if j = (20 + (8 + v % 256)).toNat then rpw g else s.f j) = _
    rw [show (v + 1) % 4294967296 = (h + m + 1) % 4294967296 by omega, show (20 + (8 + v % 256)).toNat = (28 + (h + m) % 256).toNat by omega, rf_word hg]
theorem rf_gather {s : St} {h : Int} (hq : Rf s h 256) {d : RpD} (hd : d.hd = h) (hl : d.gv.length = 128) (hr : ∀ y ∈ d.gv, 0 ≤ y ∧ y < 60) : ∀ k, k < 128 → ∃ s' d', rfM.steps 0 407 k (.gl d 0, s) = (.gl d' k, s') ∧ s'.f = s.f ∧ s'.bad = s.bad ∧ d'.hd = h ∧ d'.gv.length = 128 ∧ (∀ y ∈ d'.gv, 0 ≤ y ∧ y < 60) ∧ d'.g = d.g
  | 0, _ => ⟨s, d, rfl, rfl, rfl, hd, hl, hr, rfl⟩
  | k + 1, hk => by
    have hb := hq.hb
    obtain ⟨s1, d1, a1, f1, b1, h1, h2, h3, h4⟩ := rf_gather hq hd hl hr k (by omega)
    have hw : IntKind.u64.wrap (d1.hd + k) = h + k := by rw [h1]; simp [IntKind.wrap, IntKind.bits, IntKind.signed]; omega
    obtain ⟨s2, a2, f2, b2⟩ := steps_ld (M := rfM) (who := 0) (n := 407) (k := 0) (t := .gl d1 k) (s := s1) (i := wd 20 1 264 0 (8 + IntKind.u64.wrap (d1.hd + k) % 256)) rfl (by rw [hw, rf_w (by omega)]; omega)
    rw [hw, rf_w (by omega), show (20 + (8 + (h + (k : Int)) % 256)).toNat = (28 + (h + (k : Int)) % 256).toNat by omega, f1, hq.rg k (by omega)] at a2
    have e2 : rfM.nx (.gl d1 k) (((k % 60 : Nat) : Int) + 1) = .gl (d1.take1 k (((k % 60 : Nat) : Int) + 1)) (k + 1) := if_pos hk
    refine ⟨s2, d1.take1 k (((k % 60 : Nat) : Int) + 1), ?_, by rw [f2, f1], by rw [b2, b1], h1, ?_, fun y hy => ?_, h4⟩
    · rw [steps_add, a1, a2, e2]; rfl
    · show (d1.gv.set k _).length = 128
      rw [List.length_set]; exact h2
    · have hy : y ∈ d1.gv.set k (gw (((k % 60 : Nat) : Int) + 1)) := hy
      rcases List.mem_or_eq_of_mem_set hy with hy | hy
      · exact h3 y hy
      · rw [hy, gw_one _ (by omega)]; omega
theorem quF_at {gl : Int → Int} {l : List Int} {f : Nat → Int} (h7 : lkF gl l f l.length 7 = 0) (h8 : lkF gl l f l.length 8 = f 8) (j : Nat) : quF gl l f j = if j = 8 then (f 8 + l.length) % 4294967296 else if j = 7 then qwd (l.getD (l.length - 1) 0) else if j = 6 then qwd (l.getD 0 0) else lkF gl l f l.length j := by
  show upd (upd (upd (lkF gl l f l.length) (if lkF gl l f l.length 7 = 0 then (6 : Int) else gl (gw (lkF gl l f l.length 7))).toNat (qwd (l.getD 0 0))) 7 (qwd (l.getD (l.length - 1) 0))) 8 ((upd (upd (lkF gl l f l.length) (if lkF gl l f l.length 7 = 0 then (6 : Int) else gl (gw (lkF gl l f l.length 7))).toNat (qwd (l.getD 0 0))) 7 (qwd (l.getD (l.length - 1) 0)) 8 + (l.length : Int)) % 4294967296) j = _
  rw [if_pos h7, upd_ne (i := 7) (j := 8) (by omega), show (6 : Int).toNat = 6 from rfl, upd_ne (i := 6) (j := 8) (by omega), h8]
  rfl
theorem rf_full {n : Nat} {s : St} {h : Int} {g : Int} (hn : n = 407) (hq : Rf s h 256) (hg : 0 ≤ g ∧ g < 60) :
    ∃ s' d q, rfM.steps 0 n 300 (rpStart g false, s) = (.rel d q .over, s') ∧ s'.f 21 = (h + 128) % 4294967296 ∧ s'.f 22 = (h + 256) % 4294967296 ∧ s'.f 23 = 0 ∧ (∀ j : Nat, 28 ≤ j → j < 284 → s'.f j = s.f j) ∧ s'.f 8 = 129 ∧ s'.f 7 = g + 1 ∧ s'.bad = 0 := by
  subst hn
  have hb := hq.hb
  obtain ⟨s1, a1, f1, b1⟩ := steps_ld (M := rfM) (who := 0) (n := 407) (k := 299) (t := .hd (rpD0 g)) (s := s) (i := wd 20 1 264 0 1) rfl (by rw [rf_w (by omega)]; omega)
  rw [rf_w (by omega), show (20 + 1 : Int).toNat = 21 from rfl, hq.hd] at a1
  obtain ⟨s2, a2, f2, b2⟩ := steps_ld (M := rfM) (who := 0) (n := 407) (k := 298) (t := .tl { rpD0 g with hd := h }) (s := s1) (i := wd 20 1 264 0 2) rfl (by rw [rf_w (by omega)]; omega)
  rw [rf_w (by omega), show (20 + 2 : Int).toNat = 22 from rfl, f1, hq.tl] at a2
  obtain ⟨v, hv⟩ : ∃ v, (h + (256 : Nat)) % 4294967296 = v := ⟨_, rfl⟩
  rw [hv] at a2
  have e2 : rfM.nx (.tl { rpD0 g with hd := h }) v = .gl { rpD0 g with hd := h, tl := v, ld := 0 } 0 := by
    show (if (v - h) % 4294967296 < 256 then _ else _) = _
    rw [if_neg (by omega)]
  rw [e2] at a2
  have hq2 : Rf s2 h 256 := by
    have ff : s2.f = s.f := by rw [f2, f1]
    exact ⟨hb, by rw [ff]; exact hq.hd, by rw [ff]; exact hq.tl, by rw [ff]; exact hq.nw, fun i hi => by rw [ff]; exact hq.rg i hi, fun j hj => by rw [ff]; exact hq.z j hj, by rw [b2, b1]; exact hq.bad⟩
  obtain ⟨s3, d3, a3, f3, b3, p1, p2, p3, p4⟩ := rf_gather hq2 (d := { rpD0 g with hd := h, tl := v, ld := 0 }) rfl (by show (List.replicate 128 (0 : Int)).length = 128; simp) (fun y hy => by
    have : y = 0 := (List.mem_replicate.1 (show y ∈ List.replicate 128 (0 : Int) from hy)).2
    omega) 127 (by omega)
  have p4 : d3.g = g := p4
  have hw : IntKind.u64.wrap (d3.hd + (127 : Nat)) = h + 127 := by rw [p1]; simp [IntKind.wrap, IntKind.bits, IntKind.signed]; omega
  obtain ⟨s4, a4, f4, b4⟩ := steps_ld (M := rfM) (who := 0) (n := 407) (k := 170) (t := .gl d3 127) (s := s3) (i := wd 20 1 264 0 (8 + IntKind.u64.wrap (d3.hd + (127 : Nat)) % 256)) rfl (by rw [hw, rf_w (by omega)]; omega)
  rw [hw, rf_w (by omega), show (20 + (8 + (h + 127) % 256)).toNat = (28 + (h + ((127 : Nat) : Int)) % 256).toNat by omega, f3, hq2.rg 127 (by omega)] at a4
  obtain ⟨d4, hd4⟩ : ∃ d4, d3.take1 127 (((127 % 60 : Nat) : Int) + 1) = d4 := ⟨_, rfl⟩
  have e4 : rfM.nx (.gl d3 127) (((127 % 60 : Nat) : Int) + 1) = .sh d4 := by rw [← hd4]; rfl
  rw [e4] at a4
  have q1 : d4.hd = h := by rw [← hd4]; exact p1
  have q2 : d4.gv.length = 128 := by rw [← hd4]; show (d3.gv.set 127 _).length = 128; rw [List.length_set]; exact p2
  have q3 : ∀ y ∈ d4.gv, 0 ≤ y ∧ y < 60 := fun y hy => by
    rw [← hd4] at hy
    have hy : y ∈ d3.gv.set 127 (gw (((127 % 60 : Nat) : Int) + 1)) := hy
    rcases List.mem_or_eq_of_mem_set hy with hy | hy
    · exact p3 y hy
    · rw [hy, gw_one _ (by omega)]; omega
  have q4 : d4.g = g := by rw [← hd4]; exact p4
  have ff4 : s4.f = s.f := by rw [f4, f3, f2, f1]
  obtain ⟨s5, a5, f5, b5⟩ := steps_sw (M := rfM) (who := 0) (n := 407) (k := 169) (t := .sh d4) (s := s4) (i := wd 20 1 264 0 1) (old := d4.hd) (v := (d4.hd + 128) % 4294967296) rfl (by rw [rf_w (by omega)]; omega) (by rw [rf_w (by omega), ff4, q1]; exact hq.hd)
  rw [rf_w (by omega), show (20 + 1 : Int).toNat = 21 from rfl, q1, ff4] at f5
  have e5 : rfM.nx (.sh d4) 1 = rpAcq d4 .fresh := rfl
  rw [e5] at a5
  have hA : AcqIn rfM 0 0 (rpAcq d4) := rp_acqIn 0 1 0 (quGl 60) d4
  obtain ⟨s6, a6, f6, b6⟩ := steps_ad (M := rfM) (who := 0) (n := 407) (k := 168) (t := rpAcq d4 .fresh) (s := s5) (i := 3 * 0) (v := 1) hA.f (by omega)
  have z0 : s5.f (3 * 0 : Int).toNat = 0 := by rw [f5, upd_ne (by decide)]; exact hq.z 0 (by omega)
  rw [z0, hA.nf, show ((0 : Int) + 1) % 4294967296 = 1 from rfl, show turnOf 1 = 0 from rfl] at a6
  rw [z0] at f6
  obtain ⟨s7, a7, f7, b7⟩ := steps_ld (M := rfM) (who := 0) (n := 407) (k := 167) (t := rpAcq d4 (.wait 0)) (s := s6) (i := 3 * 0 + 1) (hA.w 0) (by omega)
  have z1 : s6.f (3 * 0 + 1 : Int).toNat = 0 := by rw [f6, upd_ne (by decide), f5, upd_ne (by decide)]; exact hq.z 1 (by omega)
  rw [z1, hA.nw, if_pos rfl] at a7
  obtain ⟨s8, a8, f8, b8⟩ := steps_st (M := rfM) (who := 0) (n := 407) (k := 166) (t := rpAcq d4 (.has 0)) (s := s7) (i := 3 * 0 + 2) (v := 0 + 1) (hA.h 0) (by omega)
  rw [hA.nh] at a8
  have e8 : rpAcq d4 (.over 0) = rpQue d4 (.ch 0) := rfl
  rw [e8] at a8
  have hf8 : ∀ j : Nat, s8.f j = if j = 2 then 1 else if j = 0 then 1 else if j = 21 then (h + 128) % 4294967296 else s.f j := fun j => by
    rw [f8, f7, f6, f5]; rfl
  have hlen : d4.all.length = 129 := by show (d4.gv ++ [d4.g]).length = 129; rw [List.length_append, q2]; rfl
  have hall : ∀ y ∈ d4.all, 0 ≤ y ∧ y < 60 := fun y hy => by
    rcases List.mem_append.1 (show y ∈ d4.gv ++ [d4.g] from hy) with hy | hy
    · exact q3 y hy
    · rw [List.mem_singleton.1 hy, q4]; exact hg
  have hglr : ∀ y ∈ d4.all, 0 ≤ quGl 60 y ∧ quGl 60 y < (407 : Nat) := fun y hy => by
    have := hall y hy
    rw [quGl_at this]; omega
  have hlow : ∀ j : Nat, j < 288 → lkF (quGl 60) d4.all s8.f d4.all.length j = s8.f j := fun j hj => lkF_off _ (fun i hi => by
    have := hall _ (getD_in hi)
    rw [quGl_at this]; omega)
  have z7 : lkF (quGl 60) d4.all s8.f d4.all.length 7 = 0 := by rw [hlow 7 (by omega), hf8]; exact hq.z 7 (by omega)
  obtain ⟨s9, a9, f9, b9⟩ := qu_whole (rp_quE 0 1 0 (quGl 60) d4) (who := 0) (n := 407) (s := s8) (by omega) (by omega) hglr (fun hne => absurd z7 hne) 33
  rw [hlen] at a9
  have hR : RelIn rfM 0 (RpT.rel d4 .over) := rp_relIn 0 1 0 (quGl 60) d4 .over
  obtain ⟨s10, a10, f10, b10⟩ := steps_st (M := rfM) (who := 0) (n := 407) (k := 32) (t := .rel d4 .over .fresh) (s := s9) (i := 3 * 0 + 2) (v := 0) hR.f (by omega)
  rw [hR.nf] at a10
  obtain ⟨s11, a11, f11, b11⟩ := steps_ad (M := rfM) (who := 0) (n := 407) (k := 31) (t := .rel d4 .over .pass) (s := s10) (i := 3 * 0 + 1) (v := 1) hR.p (by omega)
  rw [hR.np] at a11
  have hlst : d4.all.getD (d4.all.length - 1) 0 = g := by
    rw [hlen]
    show (d4.gv ++ [d4.g]).getD 128 0 = g
    rw [getD_right (by omega), q2, q4]; rfl
  have hF : ∀ j : Nat, 3 ≤ j → s11.f j = quF (quGl 60) d4.all s8.f j := fun j hj => by
    rw [f11, upd_ne (by show j ≠ 1; omega), f10, upd_ne (by show j ≠ 2; omega), f9]
  have hFF : ∀ j : Nat, 3 ≤ j → j < 288 → s11.f j = if j = 8 then 129 else if j = 7 then g + 1 else if j = 6 then qwd (d4.all.getD 0 0) else s8.f j := fun j hj hj2 => by
    rw [hF j hj, quF_at z7 (hlow 8 (by omega)), hlow j hj2, hlst, hlen, qwd_small g (by omega), show s8.f 8 = 0 by rw [hf8]; exact hq.z 8 (by omega)]
    rfl
  refine ⟨s11, d4, .over, ?_, ?_, ?_, ?_, fun j h1 h2 => ?_, ?_, ?_, by rw [b11, b10, b9, b8, b7, b6, b5, b4, b3, b2, b1]; exact hq.bad⟩
  · show rfM.steps 0 407 (299 + 1) (.hd (rpD0 g), s) = _
    rw [a1]
    show rfM.steps 0 407 (298 + 1) (.tl { rpD0 g with hd := h }, s1) = _
    rw [a2, show 298 = 127 + (170 + 1) from rfl, steps_add, a3, a4, show 170 = 169 + 1 from rfl, a5, show 169 = 168 + 1 from rfl, a6, show 168 = 167 + 1 from rfl, a7, show 167 = 166 + 1 from rfl, a8, show 166 = 129 + 4 + 33 from rfl]
    refine a9.trans ?_
    show rfM.steps 0 407 (32 + 1) (.rel d4 .over .fresh, s9) = _
    rw [a10, show 32 = 31 + 1 from rfl, a11]
    exact steps_no (M := rfM) (t := .rel d4 .over .over) rfl 31
  · rw [hFF 21 (by omega) (by omega), if_neg (by omega), if_neg (by omega), if_neg (by omega), hf8]; rfl
  · rw [hFF 22 (by omega) (by omega), if_neg (by omega), if_neg (by omega), if_neg (by omega), hf8, if_neg (by omega), if_neg (by omega), if_neg (by omega), hq.tl]; rfl
  · rw [hFF 23 (by omega) (by omega), if_neg (by omega), if_neg (by omega), if_neg (by omega), hf8, if_neg (by omega), if_neg (by omega), if_neg (by omega)]; exact hq.nw
  · rw [hFF j (by omega) (by omega), if_neg (by omega), if_neg (by omega), if_neg (by omega), hf8, if_neg (by omega), if_neg (by omega), if_neg (by omega)]
  · rw [hFF 8 (by omega) (by omega)]; rfl
  · rw [hFF 7 (by omega) (by omega)]; rfl
theorem putF_off {a v : Nat → Int} {n : Nat} {j : Nat} : ∀ k, (∀ i, i < k → a i ≠ j) → putF a v n k j = 0
  | 0, _ => rfl
  | k + 1, h => by
    have ih := putF_off (a := a) (v := v) (n := n) (j := j) k (fun i hi => h i (by omega))
    have hk := h k (by omega)
    unfold putF
    by_cases hc : 0 ≤ a k ∧ a k < n
    · rw [if_pos hc, upd_ne (by omega)]; exact ih
    · rw [if_neg hc]; exact ih
theorem putF_on {a v : Nat → Int} {n : Nat} {i : Nat} (hj : 0 ≤ a i ∧ a i < n) : ∀ k, i < k → (∀ j, i < j → j < k → a j ≠ a i) → putF a v n k (a i).toNat = v i
  | 0, h, _ => absurd h (by omega)
  | k + 1, h, hne => by
    unfold putF
    by_cases e : i = k
    · subst e
      rw [if_pos hj]; exact upd_at
    · have ih := putF_on (v := v) hj k (by omega) (fun j h1 h2 => hne j h1 (by omega))
      have hk := hne k (by omega) (by omega)
      by_cases hc : 0 ≤ a k ∧ a k < n
      · rw [if_pos hc, upd_ne (by omega)]; exact ih
      · rw [if_neg hc]; exact ih
theorem rf_start {h : Int} {m : Nat} (hh : 0 ≤ h ∧ h < 4294967296) (hm : m ≤ 256) : Rf (fresh (putF (rfA h) (rfV h m) 407 (m + 2))) h m where
  hb := hh
  hd := by
    have := putF_on (a := rfA h) (v := rfV h m) (n := 407) (i := 0) (by unfold rfA; simp) (m + 2) (by omega) (fun j h1 h2 => by unfold rfA; (repeat' split) <;> omega)
    exact this
  tl := by
    have := putF_on (a := rfA h) (v := rfV h m) (n := 407) (i := 1) (by unfold rfA; simp) (m + 2) (by omega) (fun j h1 h2 => by unfold rfA; (repeat' split) <;> omega)
    exact this
  nw := putF_off _ (fun i hi => by unfold rfA; split <;> (try split) <;> omega)
  rg := fun i hi => by
    have e : rfA h (i + 2) = 28 + (h + i) % 256 := by unfold rfA; rw [if_neg (by omega), if_neg (by omega)]; rfl
    have := putF_on (a := rfA h) (v := rfV h m) (n := 407) (i := i + 2) (by rw [e]; omega) (m + 2) (by omega) (fun j h1 h2 => by
      rw [e]; unfold rfA; rw [if_neg (by omega), if_neg (by omega)]; omega)
    rw [e] at this
    refine this.trans ?_
    unfold rfV; rw [if_neg (by omega), if_neg (by omega)]; rfl
  z := fun j hj => putF_off _ (fun i hi => by unfold rfA; split <;> (try split) <;> omega)
  bad := rfl
end Go.Proofs.YthhlklfioipmgaaGreat

namespace Go.Proofs.YthhlklfioipmgaaGreat
open Go Go.RowKit
set_option linter.unusedVariables false
set_option maxRecDepth 100000
set_option linter.unusedSimpArgs false

/-- A machine that is only kept. -/
def Rd.mach {σ : Type} {I : MI σ} {M : PM σ} (hG : I.Good M) (x : Nat) (t : σ) (L : List Nat) : Rd := ⟨L, fun w => I w x t L, fun w w' l h hb hk => hG.keep h hb hk⟩
section
variable {σ : Type} {I : MI σ} {M : PM σ} {R Rm : Rd} {W0 w w' : World} {A : Option Addr} {cap c b n : Nat} {s : St} {x : Nat} {t : σ} {L : List Nat}
theorem Solo.again (h : Solo I R W0 w A cap c b n s x t L) {τ : Type} {J : MI τ} {R2 : Rd} {y : Nat} {u : τ} {K : List Nat} (hm : J w y u K) (hr : R2.P w) (hB : ∀ k ∈ K, k ∈ R.B) (hR : ∀ k ∈ R2.B, k ∈ R.B) (hK : ∀ k ∈ K, k ∉ R2.B) (hup : ∀ k ∈ K, W0.heap.size ≤ k) : Solo J R2 W0 w A cap c b n s y u K :=
  ⟨h.mem, hm, hr, fun k hk => ⟨fun e => h.rfar.1 (e ▸ hB k hk), fun e => h.rfar.2 (e ▸ hB k hk), hK k hk⟩, ⟨fun hm => h.rfar.1 (hR _ hm), fun hm => h.rfar.2 (hR _ hm)⟩, ⟨h.up.1, h.up.2.1, hup⟩, fun k hk => h.rlt k (hR k hk), h.below⟩
end
theorem lit1_sees (w : World) (a : Int) : RI.SeesL (w.alloc (.cells #[.int .i64 a] 3)) (.slice (some ⟨w.heap.size, 0, none⟩) 1 1) [a] := by
  have hX := Blk.new w #[.int .i64 a] 3
  refine ⟨_, 1, rfl, (fun h => by cases h), fun _ => ⟨w.heap.size, 0, rfl, hX.lt, fun j hj => ?_⟩⟩
  have hj4 : j < 1 := hj
  obtain rfl : j = 0 := by omega
  exact hX.cell 0 rfl
theorem lit2_sees (w : World) (a b : Int) : RI.SeesL (w.alloc (.cells #[.int .i64 a, .int .i64 b] 3)) (.slice (some ⟨w.heap.size, 0, none⟩) 2 2) [a, b] := by
  have hX := Blk.new w #[.int .i64 a, .int .i64 b] 3
  refine ⟨_, 2, rfl, (fun h => by cases h), fun _ => ⟨w.heap.size, 0, rfl, hX.lt, fun j hj => ?_⟩⟩
  have hj4 : j < 2 := hj
  rcases (by omega : j = 0 ∨ j = 1) with rfl | rfl
  · exact hX.cell 0 rfl
  · exact hX.cell 1 rfl
theorem lit3_sees (w : World) (a b c : Int) : RI.SeesL (w.alloc (.cells #[.int .i64 a, .int .i64 b, .int .i64 c] 3)) (.slice (some ⟨w.heap.size, 0, none⟩) 3 3) [a, b, c] := by
  have hX := Blk.new w #[.int .i64 a, .int .i64 b, .int .i64 c] 3
  refine ⟨_, 3, rfl, (fun h => by cases h), fun _ => ⟨w.heap.size, 0, rfl, hX.lt, fun j hj => ?_⟩⟩
  have hj4 : j < 3 := hj
  rcases (by omega : j = 0 ∨ j = 1 ∨ j = 2) with rfl | rfl | rfl
  · exact hX.cell 0 rfl
  · exact hX.cell 1 rfl
  · exact hX.cell 2 rfl

section
variable {σ : Type} {I : MI σ} {M : PM σ} {R Rm : Rd} {W0 w w' : World} {A : Option Addr} {cap c b n : Nat} {s : St} {x : Nat} {t : σ} {L : List Nat}
theorem Solo.stepUp (hG : I.Good M) {F : Nat} {who : Int} (hS : Steps M I Rm F who) (hRm : ∀ w, R.P w → Rm.P w) (hRb : ∀ k ∈ Rm.B, k ∈ R.B) (h : Solo I R W0 w A cap c b n s x t L) (hn : n ≤ 1000000) (hl : Low s 1000000) :
    Calls Tryz.prog F #[.pointer (some ⟨x, 0, none⟩), .pointer (some ⟨c, 0, none⟩)] w fun e w' => (e = .returned (.bool (M.ax (M.goT n t s)).isNone)) ∧ w.heap.size ≤ w'.heap.size ∧ ∃ L', Solo I R W0 w' A cap c b n (M.goS who n t s) x (M.goT n t s) L' := by
  refine (hS w A cap c b n s x t L h.mach (hRm w h.rd) h.mem hn hl (fun k hk => ⟨(h.far k hk).1, (h.far k hk).2.1, fun hr => (h.far k hk).2.2 (hRb k hr)⟩) ⟨fun hr => h.rfar.1 (hRb c hr), fun hr => h.rfar.2 (hRb b hr)⟩).mono ?_
  rintro e w' ⟨rfl, L', a1, a2, a3, a4⟩
  have hsz := h.below.size
  have k1 := h.mem.lt
  have k2 := h.mem.bl
  refine ⟨rfl, a3.size, L', a2, a1, R.keep _ _ _ h.rd a3 (fun k hk => ?_), fun k hk => ?_, h.rfar, ⟨h.up.1, h.up.2.1, fun k hk => ?_⟩, fun k hk => Nat.lt_of_lt_of_le (h.rlt k hk) a3.size, h.below.trans (a3.below ?_ hsz)⟩
  · simp only [List.mem_cons, not_or]
    exact ⟨fun e => h.rfar.1 (e ▸ hk), fun e => h.rfar.2 (e ▸ hk), fun hm => (h.far k hm).2.2 hk⟩
  · rcases a4 k hk with h1 | h1
    · exact h.far k h1
    · exact ⟨by omega, by omega, fun hr => by have := h.rlt k hr; omega⟩
  · rcases a4 k hk with h1 | h1
    · exact h.up.2.2 k h1
    · omega
  · intro k hk
    simp only [List.mem_cons] at hk
    rcases hk with rfl | rfl | hk
    · exact h.up.1
    · exact h.up.2.1
    · exact h.up.2.2 k hk
end
theorem lit4b_sees (w : World) (a b c d : Int) : RI.SeesL (w.alloc (.cells #[.int .i64 a, .int .i64 b, .int .i64 c, .int .i64 d] 3)) (.slice (some ⟨w.heap.size, 0, none⟩) 4 4) [a, b, c, d] := by
  have hX := Blk.new w #[.int .i64 a, .int .i64 b, .int .i64 c, .int .i64 d] 3
  refine ⟨_, 4, rfl, (fun h => by cases h), fun _ => ⟨w.heap.size, 0, rfl, hX.lt, fun j hj => ?_⟩⟩
  have hj4 : j < 4 := hj
  rcases (by omega : j = 0 ∨ j = 1 ∨ j = 2 ∨ j = 3) with rfl | rfl | rfl | rfl
  · exact hX.cell 0 rfl
  · exact hX.cell 1 rfl
  · exact hX.cell 2 rfl
  · exact hX.cell 3 rfl
end Go.Proofs.YthhlklfioipmgaaGreat
