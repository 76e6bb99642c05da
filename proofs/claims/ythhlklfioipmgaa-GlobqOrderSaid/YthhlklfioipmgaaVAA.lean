/- The goroutines of a ring, as they are seen. -/
import Derived.Test.YthhlklfioipmgaaLaw
import Derived.Test.YthhlklfioipmgaaLinks
import Derived.Test.YthhlklfioipmgaaGq4
import Derived.Test.YthhlklfioipmgaaGq2
import Derived.Test.YthhlklfioipmgaaLock1
import Derived.Maps.OwnSet
import Derived.Maps.AppendAt
import Derived.OwnWalk
import Derived.ChangeShapes
import Derived.ArgAppend
import Derived.Test.YthhlklfioipmgaaRM3
import Derived.Laws.Cover1
import Derived.Test.YthhlklfioipmgaaRun_qpull
import Derived.Deep.RegionHeld3
import Derived.Test.YthhlklfioipmgaaGq0
import Derived.Test.YthhlklfioipmgaaCp
import Derived.Test.YthhlklfioipmgaaGq1
import Derived.Test.YthhlklfioipmgaaGg0
namespace Go.Proofs.Ythhlklfioipmgaa
open Go Go.RowKit
set_option linter.unusedVariables false
set_option maxRecDepth 100000
set_option linter.unusedSimpArgs false

/-- So many steps of a machine. -/
def PM.steps {σ : Type} (M : PM σ) (who : Int) (n : Nat) : Nat → σ × St → σ × St
  | 0, p => p
  | k + 1, p => PM.steps M who n k (M.goT n p.1 p.2, M.goS who n p.1 p.2)
theorem PM.steps_succ {σ : Type} (M : PM σ) (who : Int) (n : Nat) : ∀ (k : Nat) (p : σ × St), M.steps who n (k + 1) p = (M.goT n (M.steps who n k p).1 (M.steps who n k p).2, M.goS who n (M.steps who n k p).1 (M.steps who n k p).2)
  | 0, p => rfl
  | k + 1, p => PM.steps_succ M who n k (M.goT n p.1 p.2, M.goS who n p.1 p.2)
theorem PM.steps_low {σ : Type} (M : PM σ) (who : Int) (n : Nat) {m : Int} : ∀ (k : Nat) (p : σ × St), Low p.2 m → Low (M.steps who n k p).2 (m + k)
  | 0, p, h => h.more (by omega)
  | k + 1, p, h => (PM.steps_low M who n k (M.goT n p.1 p.2, M.goS who n p.1 p.2) (PM.goS_low h)).more (by omega)

/-- A machine over a memory, apart, with what is only read. -/
structure Solo {σ : Type} (I : MI σ) (R : Rd) (W0 w : World) (A : Option Addr) (cap c b n : Nat) (s : St) (x : Nat) (t : σ) (L : List Nat) : Prop where
  mem : Is w 92 A cap c b n s
  mach : I w x t L
  rd : R.P w
  far : ∀ k ∈ L, k ≠ c ∧ k ≠ b ∧ k ∉ R.B
  rfar : c ∉ R.B ∧ b ∉ R.B
  up : W0.heap.size ≤ c ∧ W0.heap.size ≤ b ∧ ∀ k ∈ L, W0.heap.size ≤ k
  rlt : ∀ k ∈ R.B, k < w.heap.size
  below : Below W0.heap.size W0 w
section
variable {σ : Type} {I : MI σ} {M : PM σ} {R Rm : Rd} {W0 w w' : World} {A : Option Addr} {cap c b n : Nat} {s : St} {x : Nat} {t : σ} {L : List Nat}
theorem Solo.still (hG : I.Good M) (h : Solo I R W0 w A cap c b n s x t L) (hb : Below w.heap.size w w') : Solo I R W0 w' A cap c b n s x t L :=
  ⟨h.mem.below hb, hG.below h.mach hb, R.below h.rd hb, h.far, h.rfar, h.up, fun k hk => Nat.lt_of_lt_of_le (h.rlt k hk) hb.size, h.below.trans (hb.mono h.below.size)⟩
theorem Solo.step (hG : I.Good M) {F : Nat} {who : Int} (hS : Steps M I Rm F who) (hRm : ∀ w, R.P w → Rm.P w) (hRb : ∀ k ∈ Rm.B, k ∈ R.B) (h : Solo I R W0 w A cap c b n s x t L) (hn : n ≤ 1000000) (hl : Low s 1000000) :
    Calls Try.prog F #[.pointer (some ⟨x, 0, none⟩), .pointer (some ⟨c, 0, none⟩)] w fun e w' => (e = .returned (.bool (M.ax (M.goT n t s)).isNone)) ∧ ∃ L', Solo I R W0 w' A cap c b n (M.goS who n t s) x (M.goT n t s) L' := by
  refine (hS w A cap c b n s x t L h.mach (hRm w h.rd) h.mem hn hl (fun k hk => ⟨(h.far k hk).1, (h.far k hk).2.1, fun hr => (h.far k hk).2.2 (hRb k hr)⟩) ⟨fun hr => h.rfar.1 (hRb c hr), fun hr => h.rfar.2 (hRb b hr)⟩).mono ?_
  rintro e w' ⟨rfl, L', a1, a2, a3, a4⟩
  have hsz := h.below.size
  have k1 := h.mem.lt
  have k2 := h.mem.bl
  refine ⟨rfl, L', a2, a1, R.keep _ _ _ h.rd a3 (fun k hk => ?_), fun k hk => ?_, h.rfar, ⟨h.up.1, h.up.2.1, fun k hk => ?_⟩, fun k hk => Nat.lt_of_lt_of_le (h.rlt k hk) a3.size, h.below.trans (a3.below ?_ hsz)⟩
  · simp only [List.mem_cons, not_or]
    exact ⟨fun e => h.rfar.1 (e ▸ hk), fun e => h.rfar.2 (e ▸ hk), fun hm => (h.far k hm).2.2 hk⟩
  · rcases a4 k hk with h1 | h1
    · exact h.far k h1
    · exact ⟨by omega, by omega, fun hr => by have := h.rlt k hr; omega⟩
  · rcases a4 k hk with h1 | h1
    · exact h.up.2.2 k h1
    · omega
  · intro k hk
    simp only [List.mem_cons] at hk
    rcases hk with rfl | rfl | hk
    · exact h.up.1
    · exact h.up.2.1
    · exact h.up.2.2 k hk
/-- How it begins. -/
theorem Solo.begin {w2 w3 : World} (hm : Is w2 92 A cap c b n s) (hb : Below w2.heap.size w2 w3) (hB2 : Below W0.heap.size W0 w2) (hup : W0.heap.size ≤ c ∧ W0.heap.size ≤ b) (hi : I w3 x t L) (hL : ∀ k ∈ L, w2.heap.size ≤ k) (hr : R.P w2) (hrl : ∀ k ∈ R.B, k < w2.heap.size) (hrf : c ∉ R.B ∧ b ∉ R.B) : Solo I R W0 w3 A cap c b n s x t L := by
  have k1 := hm.lt
  have k2 := hm.bl
  have hsz := hB2.size
  refine ⟨hm.below hb, hi, R.below hr hb, fun k hk => ?_, hrf, ⟨hup.1, hup.2, fun k hk => Nat.le_trans hsz (hL k hk)⟩, fun k hk => Nat.lt_of_lt_of_le (hrl k hk) hb.size, hB2.trans (hb.mono hsz)⟩
  have h1 := hL k hk
  exact ⟨by omega, by omega, fun hr => by have := hrl k hr; omega⟩
end
end Go.Proofs.Ythhlklfioipmgaa

namespace Go.Proofs.Ythhlklfioipmgaa
open Go Go.RowKit
set_option linter.unusedVariables false
set_option maxRecDepth 100000
set_option linter.unusedSimpArgs false

section
variable {σ : Type} {M : PM σ} {who : Int} {n k : Nat} {t : σ} {s : St} {i v : Int}
theorem steps_no (ha : M.ax t = none) : ∀ k, M.steps who n k (t, s) = (t, s)
  | 0 => rfl
  | k + 1 => by
    show M.steps who n k (M.goT n t s, M.goS who n t s) = _
    have e1 : M.goT n t s = t := by unfold PM.goT; rw [ha]
    have e2 : M.goS who n t s = s := by unfold PM.goS; rw [ha]
    rw [e1, e2]
    exact steps_no ha k
theorem steps_ld (ha : M.ax t = some (axLd i)) (hi : 0 ≤ i ∧ i < n) : ∃ s', M.steps who n (k + 1) (t, s) = M.steps who n k (M.nx t (s.f i.toNat), s') ∧ s'.f = s.f ∧ s'.bad = s.bad := by
  have e1 : M.goT n t s = M.nx t (s.f i.toNat) := by
    unfold PM.goT; rw [ha]
    simp [PM.ans, PM.asl, axLd, actA, Go.Proofs.Ythhlklfioipmgaa.ans, hi]
  refine ⟨M.goS who n t s, by show M.steps who n k (M.goT n t s, M.goS who n t s) = _; rw [e1], ?_⟩
  unfold PM.goS; rw [ha]
  simp [PM.asl, axLd, actS, stp, hi]
theorem steps_st (ha : M.ax t = some (axSt i v)) (hi : 0 ≤ i ∧ i < n) : ∃ s', M.steps who n (k + 1) (t, s) = M.steps who n k (M.nx t 0, s') ∧ s'.f = upd s.f i.toNat v ∧ s'.bad = s.bad := by
  have e1 : M.goT n t s = M.nx t 0 := by
    unfold PM.goT; rw [ha]
    simp [PM.ans, PM.asl, axSt, actA]
  refine ⟨M.goS who n t s, by show M.steps who n k (M.goT n t s, M.goS who n t s) = _; rw [e1], ?_⟩
  unfold PM.goS; rw [ha]
  simp [PM.asl, axSt, actS, stp, hi]
theorem steps_ad (ha : M.ax t = some (axAd i v)) (hi : 0 ≤ i ∧ i < n) : ∃ s', M.steps who n (k + 1) (t, s) = M.steps who n k (M.nx t ((s.f i.toNat + v) % 4294967296), s') ∧ s'.f = upd s.f i.toNat ((s.f i.toNat + v) % 4294967296) ∧ s'.bad = s.bad := by
  have e1 : M.goT n t s = M.nx t ((s.f i.toNat + v) % 4294967296) := by
    unfold PM.goT; rw [ha]
    simp [PM.ans, PM.asl, axAd, actA, Go.Proofs.Ythhlklfioipmgaa.ans, hi]
  refine ⟨M.goS who n t s, by show M.steps who n k (M.goT n t s, M.goS who n t s) = _; rw [e1], ?_⟩
  unfold PM.goS; rw [ha]
  simp [PM.asl, axAd, actS, stp, hi]
end
theorem upd_at {f : Nat → Int} {i : Nat} {v : Int} : upd f i v i = v := if_pos rfl
theorem upd_ne {f : Nat → Int} {i j : Nat} {v : Int} (h : j ≠ i) : upd f i v j = f j := if_neg h
/-- A list that goes from word to word. -/
def Lnk (lk : Int → Int) : Int → List Int → Prop
  | w, [] => w = 0
  | w, y :: r => w = y + 1 ∧ Lnk lk (lk y) r
theorem Lnk.congr {lk lk' : Int → Int} : ∀ {r : List Int} {w : Int}, (∀ y ∈ r, lk' y = lk y) → Lnk lk w r → Lnk lk' w r
  | [], _, _, h => h
  | y :: r, w, e, h => ⟨h.1, by rw [e y (by simp)]; exact Lnk.congr (fun z hz => e z (by simp [hz])) h.2⟩
theorem lnk_go (nx : Int → Int) (many : Int) : ∀ (r acc : List Int) (w : Int) (f : Nat), Lnk nx w r → (acc ++ r).Nodup → (∀ y ∈ r, 0 ≤ y ∧ y < many) → r.length < f → lsGo nx many f acc w = (acc ++ r, true)
  | [], acc, w, f + 1, h, _, _, _ => by
    have h : w = 0 := h
    rw [lsGo, if_pos h]
    simp
  | y :: r, acc, w, f + 1, h, hnd, hr, hf => by
    obtain ⟨rfl, h2⟩ := h
    have h0 := hr y (by simp)
    have hin : y ∉ acc := fun hm => (List.nodup_append.1 hnd).2.2 y hm y (by simp) rfl
    rw [lsGo, if_neg (by omega), if_neg (by
      rintro (h | h)
      · rw [show y + 1 - 1 = y by omega] at h; exact hin h
      · omega), show y + 1 - 1 = y by omega]
    have := lnk_go nx many r (acc ++ [y]) (nx y) f h2 (by simpa using hnd) (fun z hz => hr z (by simp [hz])) (by simp at hf; omega)
    rw [this]
    simp
theorem lnk_of (nx : Int → Int) (many w : Int) (r : List Int) (h : Lnk nx w r) (hnd : r.Nodup) (hr : ∀ y ∈ r, 0 ≤ y ∧ y < many) : lsOf nx many w = (r, true) := by
  have hlen := nodup_room many.toNat r hnd (fun x hx => by have := hr x hx; omega)
  exact lnk_go nx many r [] w (many.toNat + 1) h (by simpa using hnd) hr (by omega)

section
variable {σ : Type} {M : PM σ} {who : Int} {n k : Nat} {t : σ} {s : St} {i v : Int}
theorem steps_sw {old : Int} (ha : M.ax t = some (axSw i old v)) (hi : 0 ≤ i ∧ i < n) (hold : s.f i.toNat = old) : ∃ s', M.steps who n (k + 1) (t, s) = M.steps who n k (M.nx t 1, s') ∧ s'.f = upd s.f i.toNat v ∧ s'.bad = s.bad := by
  have e1 : M.goT n t s = M.nx t 1 := by
    unfold PM.goT; rw [ha]
    simp [PM.ans, PM.asl, axSw, actA, Go.Proofs.Ythhlklfioipmgaa.ans, hi, hold]
  refine ⟨M.goS who n t s, by show M.steps who n k (M.goT n t s, M.goS who n t s) = _; rw [e1], ?_⟩
  unfold PM.goS; rw [ha]
  simp [PM.asl, axSw, actS, stp, hi, hold]
end
theorem steps_add {σ : Type} (M : PM σ) (who : Int) (n : Nat) : ∀ (k m : Nat) (p : σ × St), M.steps who n (k + m) p = M.steps who n m (M.steps who n k p)
  | 0, m, p => by rw [Nat.zero_add]; rfl
  | k + 1, m, p => by
    rw [show k + 1 + m = (k + m) + 1 by omega]
    show M.steps who n (k + m) _ = M.steps who n m (M.steps who n k _)
    exact steps_add M who n k m _
end Go.Proofs.Ythhlklfioipmgaa

namespace Go.Proofs.Ythhlklfioipmgaa
open Go Go.RowKit
set_option linter.unusedVariables false
set_option maxRecDepth 100000
set_option linter.unusedSimpArgs false

theorem RowAt.sees {w : World} {g cap : Nat} {l : List Int} (h : RowAt w g cap l) : SeesL w (.slice (some ⟨g, 0, none⟩) l.length cap) l :=
  ⟨_, cap, rfl, (fun h => by cases h), fun _ => ⟨g, 0, rfl, h.lt, fun j hj => by rw [Nat.zero_add]; exact h.cell j hj⟩⟩
def qpStart (l : List Int) : QpT := if l = [] then .done0 else .ch 0
theorem qp_new_nil (w : World) (cl : Nat) (who : Int) (gl : Int → Int) (sl : Value) (hs : SeesL w sl []) :
    Calls Try.prog 7 #[.pointer (some ⟨cl, 0, none⟩), .int .i64 who, sl] w fun e w' => ∃ x L, e = .returned (.pointer (some ⟨x, 0, none⟩)) ∧ qpI who cl gl [] w' x .done0 L ∧ Below w.heap.size w w' ∧ (∀ k ∈ L, w.heap.size ≤ k) ∧ w.heap.size ≤ x := by
  have HC := lclone_any sl [] w (by simp) hs
  obtain ⟨A0, cap0, rfl, -, -⟩ := hs
  go_enter Try.func7, Try.ntmps7
  go_wp2_with fail
  go_at_call 34; refine HC.mono ?_; rintro e w1 ⟨v, rfl, h1, hb1⟩
  obtain ⟨A, cap, rfl, ha, -⟩ := h1.sees
  have hB := Blk.new w1 #[.int .i64 0, .pointer none, .pointer none, .slice A 0 cap, .int .i64 0, .bool false] 78
  have hO := q_of _ w1.heap.size cl who _ (qpCells who none cl (.slice A 0 cap) 0 false) 78 hB (by simp) rfl
  have HH : Hid (Below w.heap.size w (w1.alloc (.cells #[.int .i64 0, .pointer none, .pointer none, .slice A 0 cap, .int .i64 0, .bool false] 78)) ∧ w.heap.size ≤ w1.heap.size) := ⟨seq hb1 ((Below.refl _ _).alloc (Nat.le_refl _) _), hb1.size⟩
  clear HC h1 hb1 hB
  go_wp2_with fail
  go_at_call 35; refine hO.mono ?_; rintro e w2 ⟨⟨v, rfl⟩, k1, k2, k3⟩
  have HF : Hid (qpI who cl gl [] w2 w1.heap.size .done0 [w1.heap.size] ∧ Below w.heap.size w w2) := by
    refine ⟨.inr ⟨rfl, rfl, A, cap, fun e => (ha e).2, (Fl.at_none rfl).2 ⟨trivial, k1, rfl⟩⟩, ?_⟩
    exact HH.out.1.trans (k2.below (by intro k hk; simp at hk; subst hk; first | exact HH.out.2 | exact HH.out.2.2.2.1) (by have := HH.out.2; rw [World.size_alloc]; omega))
  have hsz := HH.out.2
  clear hO HH k1 k2 k3
  go_wp2_with fail
  go_ret
  exact ⟨_, _, rfl, HF.out.1, HF.out.2, fun k hk => by simp at hk; subst hk; exact hsz, hsz⟩
theorem qp_new_some (w : World) (cl : Nat) (who P T G : Int) (sl : Value) (l : List Int) (hs : SeesL w sl l) (h0 : 0 < l.length) (hn : l.length ≤ 1000000) (hl : Lay w cl P T G) (hp : 0 ≤ P ∧ P ≤ 64) (hT : 0 ≤ T ∧ T ≤ 65536) (hG : 0 ≤ G ∧ G ≤ 65536) :
    Calls Try.prog 7 #[.pointer (some ⟨cl, 0, none⟩), .int .i64 who, sl] w fun e w' => ∃ x L, e = .returned (.pointer (some ⟨x, 0, none⟩)) ∧ qpI who cl (fun y => wd (20 + P * 264 + T * 3) G 2 y 1) l w' x (.ch 0) L ∧ Below w.heap.size w w' ∧ (∀ k ∈ L, w.heap.size ≤ k) ∧ w.heap.size ≤ x := by
  have HC := lclone_any sl l w hn hs
  obtain ⟨A0, cap0, rfl, -, -⟩ := hs
  have hd : (0 : Int) < (l.length : Int) := by omega
  have HCH : Hid (∀ (Y : World) (x g cap : Nat), Blk Y x (qpCells who none cl (.slice (some ⟨g, 0, none⟩) l.length cap) 0 false) 78 → RowAt Y g cap l → g ≠ x → Lay Y cl P T G → cl ≠ x → Calls Try.prog 36 #[.pointer (some ⟨x, 0, none⟩)] Y fun e w' => (∃ v, e = .returned v) ∧ (qpFl who cl (.slice (some ⟨g, 0, none⟩) l.length cap) l).Landed (qpPM (fun y => wd (20 + P * 264 + T * 3) G 2 y 1) l) Y w' x (.ch 0)) := by
    intro Y x g cap hB hr hgx hl hcx
    by_cases hk2 : 0 + 1 < l.length
    · have H := qput_chain_more Y x cl g cap who l none 0 P T G false hB hr hgx hk2 hn hl hcx hp hT hG.2
      have e2 : (qpPM (fun y => wd (20 + P * 264 + T * 3) G 2 y 1) l).ax (.ch 0) = some (axSt (wd (20 + P * 264 + T * 3) G 2 (l.getD 0 0) 1) (qwd (l.getD (0 + 1) 0))) := by
        show some (axSt _ (if 0 + 1 < l.length then _ else _)) = _
        rw [if_pos hk2]
      refine H.mono ?_
      rintro e' w' ⟨hu, hC⟩
      refine ⟨hu, ?_⟩
      unfold Fl.Landed
      rw [e2]
      exact hC
    · have H := qput_chain_last Y x cl g cap who l none 0 P T G false hB hr hgx (by omega) hn hl hcx hp hT hG.2
      have e2 : (qpPM (fun y => wd (20 + P * 264 + T * 3) G 2 y 1) l).ax (.ch 0) = some (axSt (wd (20 + P * 264 + T * 3) G 2 (l.getD 0 0) 1) 0) := by
        show some (axSt _ (if 0 + 1 < l.length then _ else _)) = _
        rw [if_neg hk2]
      refine H.mono ?_
      rintro e' w' ⟨hu, hC⟩
      refine ⟨hu, ?_⟩
      unfold Fl.Landed
      rw [e2]
      exact hC
  have HLW : Hid (qpFl who cl .nilIface l = qpFl who cl .nilIface l ∧ 0 < l.length ∧ Lay w cl P T G) := ⟨rfl, h0, hl⟩
  have HLL : Hid (∀ g cap, (qpFl who cl (.slice (some ⟨g, 0, none⟩) l.length cap) l).Laws (qpPM (fun y => wd (20 + P * 264 + T * 3) G 2 y 1) l) ((Rd.lay cl P T G).and (Rd.row g cap l)) who) := fun g cap => qp_laws who P T G cl g cap l hp hT hG h0 hn
  generalize (fun y => wd (20 + P * 264 + T * 3) G 2 y 1) = gl at *
  generalize hnn : l.length = n at *
  clear hp hT hG hl
  go_enter Try.func7, Try.ntmps7
  go_wp2_with fail
  go_at_call 34; refine HC.mono ?_; rintro e w1 ⟨v, rfl, h1, hb1⟩
  obtain ⟨g, cap, rfl, hg0, hr⟩ := h1.row (by omega)
  rw [hnn]
  have hB := Blk.new w1 #[.int .i64 0, .pointer none, .pointer none, .slice (some ⟨g, 0, none⟩) n cap, .int .i64 0, .bool false] 78
  have hO := q_of _ w1.heap.size cl who _ (qpCells who none cl (.slice (some ⟨g, 0, none⟩) n cap) 0 false) 78 hB (by simp) rfl
  have HH : Hid (Below w.heap.size w w1 ∧ RowAt w1 g cap l ∧ Below w.heap.size w (w1.alloc (.cells #[.int .i64 0, .pointer none, .pointer none, .slice (some ⟨g, 0, none⟩) n cap, .int .i64 0, .bool false] 78)) ∧ w.heap.size ≤ w1.heap.size ∧ w.heap.size ≤ g) := ⟨hb1, hr, seq hb1 ((Below.refl _ _).alloc (Nat.le_refl _) _), hb1.size, hg0⟩
  clear HC h1 hb1 hB hr
  go_wp2_with fail
  go_at_call 35; refine hO.mono ?_; rintro e w2 ⟨⟨v, rfl⟩, k1, k2, k3⟩
  have hb2 : Below w.heap.size w w2 := HH.out.2.2.1.trans (k2.below (by intro k hk; simp at hk; subst hk; first | exact HH.out.2 | exact HH.out.2.2.2.1) (by have := HH.out.2.2.2.1; rw [World.size_alloc]; omega))
  have hgl := HH.out.2.1.lt
  have hr2 : RowAt w2 g cap l := (HH.out.2.1.below ((Below.refl _ _).alloc (Nat.le_refl _) _)).but k2 (by simp; omega)
  have hll := HLW.out.2.2.lt
  have hsz := HH.out.2.2.2.1
  have hCh := HCH.out w2 w1.heap.size g cap k1 hr2 (by omega) (HLW.out.2.2.below hb2 hll) (by omega)
  have HF2 : Hid (Below w.heap.size w w2 ∧ RowAt w2 g cap l ∧ w1.heap.size < w2.heap.size ∧ g < w1.heap.size ∧ w.heap.size ≤ g) := ⟨hb2, hr2, k1.lt, hgl, HH.out.2.2.2.2⟩
  clear hO HH k1 k2 k3 hr2 hb2 HCH
  go_wp2_with fail
  go_at_call 36; refine hCh.mono ?_; rintro e w3 ⟨⟨v2, rfl⟩, hC⟩
  have HF : Hid (∃ L, qpI who cl gl l w3 w1.heap.size (.ch 0) L ∧ Below w.heap.size w w3 ∧ ∀ k ∈ L, w.heap.size ≤ k) := by
    obtain ⟨-, ⟨L', i1, i2⟩, i3⟩ := Fl.land (HLL.out g cap) hC (by show 0 < l.length; rw [hnn]; exact HLW.out.2.1) HF2.out.2.2.1
    refine ⟨g :: L', .inl ⟨by rw [hnn]; exact HLW.out.2.1, g, cap, L', rfl, fun hm => ?_, HF2.out.2.1.but i3 (by have := HF2.out.2.2.2.1; simp; omega), by rw [hnn]; exact i1⟩, HF2.out.1.trans (i3.below (by simp; omega) HF2.out.1.size), fun k hk => ?_⟩
    · have := HF2.out.2.2.2.1
      rcases i2 g hm with h | h
      · omega
      · have := HF2.out.2.2.1; omega
    · have h3 := HF2.out.1.size
      simp at hk
      rcases hk with rfl | hk
      · exact HF2.out.2.2.2.2
      · rcases i2 k hk with rfl | h
        · exact hsz
        · omega
  clear hCh hC HF2
  go_wp2_with fail
  go_ret
  obtain ⟨L, f1, f2, f3⟩ := HF.out
  exact ⟨_, L, rfl, f1, f2, f3, hsz⟩
end Go.Proofs.Ythhlklfioipmgaa

namespace Go.Proofs.Ythhlklfioipmgaa
open Go Go.RowKit
set_option linter.unusedVariables false
set_option maxRecDepth 100000
set_option linter.unusedSimpArgs false

/-- The memory's words when the first k links of a list were stored. -/
def lkF (gl : Int → Int) (l : List Int) (f : Nat → Int) : Nat → Nat → Int
  | 0 => f
  | k + 1 => upd (lkF gl l f k) (gl (l.getD k 0)).toNat (if k + 1 < l.length then qwd (l.getD (k + 1) 0) else 0)
theorem lkF_off {gl : Int → Int} {l : List Int} {f : Nat → Int} {j : Nat} : ∀ k, (∀ i, i < k → (gl (l.getD i 0)).toNat ≠ j) → lkF gl l f k j = f j
  | 0, _ => rfl
  | k + 1, h => by
    show upd _ _ _ _ = _
    rw [upd_ne (fun e => h k (by omega) e.symm)]
    exact lkF_off k (fun i hi => h i (by omega))
theorem lkF_at {gl : Int → Int} {l : List Int} {f : Nat → Int} {i : Nat} : ∀ k, i < k → (∀ j, i < j → j < k → (gl (l.getD j 0)).toNat ≠ (gl (l.getD i 0)).toNat) → lkF gl l f k (gl (l.getD i 0)).toNat = if i + 1 < l.length then qwd (l.getD (i + 1) 0) else 0
  | 0, h, _ => absurd h (by omega)
  | k + 1, h, hne => by
    show upd _ _ _ _ = _
    by_cases e : i = k
    · subst e; exact upd_at
    · rw [upd_ne (fun e2 => hne k (by omega) (by omega) e2.symm)]
      exact lkF_at k (by omega) (fun j h1 h2 => hne j h1 (by omega))
/-- A machine that has the put as a part. -/
structure QuE {σ : Type} (M : PM σ) (gl : Int → Int) (l : List Int) (emb : QpT → σ) : Prop where
  ch : ∀ k, M.ax (emb (.ch k)) = some (axSt (gl (l.getD k 0)) (if k + 1 < l.length then qwd (l.getD (k + 1) 0) else 0))
  ld : M.ax (emb .ld) = some (axLd 7)
  pt : ∀ t, M.ax (emb (.pt t)) = some (axSt (if t = 0 then 6 else gl (gw t)) (qwd (l.getD 0 0)))
  tr : M.ax (emb .tr) = some (axSt 7 (qwd (l.getD (l.length - 1) 0)))
  ct : M.ax (emb .ct) = some (axAd 8 l.length)
  n1 : ∀ k v, M.nx (emb (.ch k)) v = if k + 1 < l.length then emb (.ch (k + 1)) else emb .ld
  n2 : ∀ v, M.nx (emb .ld) v = emb (.pt v)
  n3 : ∀ t v, M.nx (emb (.pt t)) v = emb .tr
  n4 : ∀ v, M.nx (emb .tr) v = emb .ct
  n5 : ∀ v, M.nx (emb .ct) v = emb .over
theorem qu_self (gl : Int → Int) (l : List Int) : QuE (qpPM gl l) gl l (fun p => p) where
  ch := fun _ => rfl
  ld := rfl
  pt := fun _ => rfl
  tr := rfl
  ct := rfl
  n1 := fun _ _ => rfl
  n2 := fun _ => rfl
  n3 := fun _ _ => rfl
  n4 := fun _ => rfl
  n5 := fun _ => rfl
theorem qu_chain {σ : Type} {M : PM σ} {emb : QpT → σ} {gl : Int → Int} {l : List Int} (hE : QuE M gl l emb) {who : Int} {n : Nat} {s : St} (hgl : ∀ y ∈ l, 0 ≤ gl y ∧ gl y < n) : ∀ k, k < l.length → ∃ s', M.steps who n k (emb (.ch 0), s) = (emb (.ch k), s') ∧ s'.f = lkF gl l s.f k ∧ s'.bad = s.bad
  | 0, _ => ⟨s, rfl, rfl, rfl⟩
  | k + 1, h => by
    obtain ⟨s1, a1, f1, b1⟩ := qu_chain hE hgl k (by omega)
    have hm : l.getD k 0 ∈ l := by rw [List.getD_eq_getElem?_getD, List.getElem?_eq_getElem (by omega)]; exact List.getElem_mem _
    obtain ⟨s2, a2, f2, b2⟩ := steps_st (M := M) (who := who) (n := n) (k := 0) (t := emb (.ch k)) (s := s1) (i := gl (l.getD k 0)) (v := if k + 1 < l.length then qwd (l.getD (k + 1) 0) else 0) (hE.ch k) (hgl _ hm)
    have e1 : M.nx (emb (.ch k)) 0 = emb (.ch (k + 1)) := by rw [hE.n1, if_pos h]
    refine ⟨s2, ?_, by rw [f2, f1]; rfl, by rw [b2, b1]⟩
    rw [steps_add, a1, a2, e1]
    rfl
/-- A whole put, on any memory: its words behind it. -/
def quF (gl : Int → Int) (l : List Int) (f : Nat → Int) : Nat → Int :=
  let f1 := lkF gl l f l.length
  let f2 := upd f1 (if f1 7 = 0 then 6 else gl (gw (f1 7))).toNat (qwd (l.getD 0 0))
  let f3 := upd f2 7 (qwd (l.getD (l.length - 1) 0))
  upd f3 8 ((f3 8 + l.length) % 4294967296)
theorem qu_whole {σ : Type} {M : PM σ} {emb : QpT → σ} {gl : Int → Int} {l : List Int} (hE : QuE M gl l emb) {who : Int} {n : Nat} {s : St} (hn : 9 ≤ n) (h0 : 0 < l.length) (hgl : ∀ y ∈ l, 0 ≤ gl y ∧ gl y < n) (h7 : (lkF gl l s.f l.length) 7 ≠ 0 → 0 ≤ gl (gw ((lkF gl l s.f l.length) 7)) ∧ gl (gw ((lkF gl l s.f l.length) 7)) < n) (k : Nat) :
    ∃ s', M.steps who n (l.length + 4 + k) (emb (.ch 0), s) = M.steps who n k (emb .over, s') ∧ s'.f = quF gl l s.f ∧ s'.bad = s.bad := by
  obtain ⟨m, hm⟩ : ∃ m, l.length = m + 1 := ⟨l.length - 1, by omega⟩
  obtain ⟨s1, a1, f1, b1⟩ := qu_chain hE (who := who) (s := s) hgl m (by omega)
  have hmm : l.getD m 0 ∈ l := by rw [List.getD_eq_getElem?_getD, List.getElem?_eq_getElem (by omega)]; exact List.getElem_mem _
  obtain ⟨s2, a2, f2, b2⟩ := steps_st (M := M) (who := who) (n := n) (k := k + 4) (t := emb (.ch m)) (s := s1) (i := gl (l.getD m 0)) (v := if m + 1 < l.length then qwd (l.getD (m + 1) 0) else 0) (hE.ch m) (hgl _ hmm)
  have e2 : M.nx (emb (.ch m)) 0 = emb .ld := by rw [hE.n1, if_neg (by omega)]
  rw [e2] at a2
  have g2 : s2.f = lkF gl l s.f l.length := by
    have e9 : lkF gl l s.f l.length = lkF gl l s.f (m + 1) := by rw [hm]
    rw [f2, f1, e9]; rfl
  obtain ⟨s3, a3, f3, b3⟩ := steps_ld (M := M) (who := who) (n := n) (k := k + 3) (t := emb .ld) (s := s2) (i := 7) hE.ld (by omega)
  rw [show (7 : Int).toNat = 7 from rfl, g2, hE.n2] at a3
  obtain ⟨v, hv⟩ : ∃ v, lkF gl l s.f l.length 7 = v := ⟨_, rfl⟩
  rw [hv] at a3 h7
  obtain ⟨s4, a4, f4, b4⟩ := steps_st (M := M) (who := who) (n := n) (k := k + 2) (t := emb (.pt v)) (s := s3) (i := if v = 0 then 6 else gl (gw v)) (v := qwd (l.getD 0 0)) (hE.pt v) (by
    by_cases hv0 : v = 0
    · rw [if_pos hv0]; omega
    · rw [if_neg hv0]; exact h7 hv0)
  rw [hE.n3] at a4
  obtain ⟨s5, a5, f5, b5⟩ := steps_st (M := M) (who := who) (n := n) (k := k + 1) (t := emb .tr) (s := s4) (i := 7) (v := qwd (l.getD (l.length - 1) 0)) hE.tr (by omega)
  rw [hE.n4] at a5
  obtain ⟨s6, a6, f6, b6⟩ := steps_ad (M := M) (who := who) (n := n) (k := k) (t := emb .ct) (s := s5) (i := 8) (v := l.length) hE.ct (by omega)
  rw [hE.n5] at a6
  refine ⟨s6, ?_, ?_, by rw [b6, b5, b4, b3, b2, b1]⟩
  · rw [show l.length + 4 + k = m + (k + 4 + 1) by omega, steps_add, a1, a2, show k + 4 = k + 3 + 1 from rfl, a3, show k + 3 = k + 2 + 1 from rfl, a4, show k + 2 = k + 1 + 1 from rfl, a5, a6]
  · rw [f6, f5, f4, f3, g2, ← hv]
    rfl

/-- The word of a list's first one, and of its last one. -/
def hw : List Int → Int
  | [] => 0
  | y :: _ => y + 1
def lw (l : List Int) : Int := if l.length = 0 then 0 else l.getD (l.length - 1) 0 + 1
theorem lnk_idx {lk : Int → Int} : ∀ (l : List Int), (∀ i, i < l.length → lk (l.getD i 0) = if i + 1 < l.length then l.getD (i + 1) 0 + 1 else 0) → Lnk lk (hw l) l
  | [], _ => rfl
  | y :: r, h => by
    refine ⟨rfl, ?_⟩
    have h0 := h 0 (by simp)
    have e : lk y = hw r := by
      cases r with
      | nil => simpa [hw] using h0
      | cons z r => simpa [hw] using h0
    rw [e]
    refine lnk_idx r (fun i hi => ?_)
    have := h (i + 1) (by simp; omega)
    simpa using this
/-- The queue in a memory. -/
structure Qu (G : Int) (s : St) (l : List Int) : Prop where
  nd : l.Nodup
  rg : ∀ y ∈ l, 0 ≤ y ∧ y < G
  hd : s.f 6 = hw l
  tl : s.f 7 = lw l
  sz : s.f 8 = l.length
  lk : ∀ i, i < l.length → s.f (288 + 2 * (l.getD i 0).toNat) = if i + 1 < l.length then l.getD (i + 1) 0 + 1 else 0
  bad : s.bad = 0
theorem getD_in {l : List Int} {i : Nat} (h : i < l.length) : l.getD i 0 ∈ l := by
  rw [List.getD_eq_getElem?_getD, List.getElem?_eq_getElem h]; exact List.getElem_mem _
theorem getD_left {a b : List Int} {i : Nat} (h : i < a.length) : (a ++ b).getD i 0 = a.getD i 0 := by
  rw [List.getD_eq_getElem?_getD, List.getD_eq_getElem?_getD, List.getElem?_append_left h]
theorem getD_right {a b : List Int} {i : Nat} (h : a.length ≤ i) : (a ++ b).getD i 0 = b.getD (i - a.length) 0 := by
  rw [List.getD_eq_getElem?_getD, List.getD_eq_getElem?_getD, List.getElem?_append_right h]
theorem nodup_ne {l : List Int} (h : l.Nodup) {i j : Nat} (hi : i < l.length) (hj : j < l.length) (hij : i ≠ j) : l.getD i 0 ≠ l.getD j 0 := by
  rw [List.getD_eq_getElem?_getD, List.getD_eq_getElem?_getD, List.getElem?_eq_getElem hi, List.getElem?_eq_getElem hj]
  intro e
  exact hij ((List.getElem_inj h).1 (by simpa using e))
def quGl (G : Int) (y : Int) : Int := wd (20 + 1 * 264 + 1 * 3) G 2 y 1
theorem quGl_at {G y : Int} (hy : 0 ≤ y ∧ y < G) : quGl G y = 288 + 2 * y := by
  unfold quGl wd; rw [if_pos ⟨by omega, by omega, by omega, by omega⟩]; omega
theorem Qu.list {G : Int} {n : Nat} {s : St} {l : List Int} (h : Qu G s l) (hn : (n : Int) = 287 + 2 * G) (hG : 1 ≤ G) : lsOf (fun g => peekT n s (quGl G g)) G (peekT n s 6) = (l, true) ∧ peekT n s 8 = l.length := by
  have e : ∀ i : Int, 0 ≤ i ∧ i < n → peekT n s i = s.f i.toNat := fun i hi => if_pos hi
  rw [e 6 (by omega), e 8 (by omega)]
  refine ⟨?_, h.sz⟩
  rw [show (6 : Int).toNat = 6 from rfl, h.hd]
  refine lnk_of _ _ _ _ (lnk_idx l (fun i hi => ?_)) h.nd h.rg
  have hr := h.rg _ (getD_in hi)
  show peekT n s (quGl G (l.getD i 0)) = _
  rw [quGl_at hr, e _ (by omega), show (288 + 2 * l.getD i 0).toNat = 288 + 2 * (l.getD i 0).toNat by omega]
  exact h.lk i hi
theorem lw_app {a b : List Int} (h : 0 < b.length) : lw (a ++ b) = b.getD (b.length - 1) 0 + 1 := by
  unfold lw
  rw [if_neg (by rw [List.length_append]; omega), getD_right (by rw [List.length_append]; omega), List.length_append, show a.length + b.length - 1 - a.length = b.length - 1 by omega]
theorem qu_put {G : Int} {n : Nat} {s : St} {l b : List Int} (h : Qu G s l) (hn : (n : Int) = 287 + 2 * G) (hG : 1 ≤ G ∧ G ≤ 60) (hb : 0 < b.length) (hnd : (l ++ b).Nodup) (hr : ∀ y ∈ b, 0 ≤ y ∧ y < G) (k : Nat) :
    Qu G ((qpPM (quGl G) b).steps 0 n (b.length + 4 + k) (.ch 0, s)).2 (l ++ b) := by
  have hndl := (List.nodup_append.1 hnd).1
  have hndb := (List.nodup_append.1 hnd).2.1
  have hdis : ∀ y ∈ l, ∀ z ∈ b, y ≠ z := (List.nodup_append.1 hnd).2.2
  have hlen := nodup_room G.toNat (l ++ b) hnd (fun x hx => by
    rcases List.mem_append.1 hx with hx | hx
    · have := h.rg x hx; omega
    · have := hr x hx; omega)
  rw [List.length_append] at hlen
  have hat : ∀ i, i < b.length → (quGl G (b.getD i 0)).toNat = 288 + 2 * (b.getD i 0).toNat ∧ 0 ≤ b.getD i 0 ∧ b.getD i 0 < G := fun i hi => by
    have := hr _ (getD_in hi)
    rw [quGl_at this]; omega
  have hlow : ∀ j : Nat, j < 288 → lkF (quGl G) b s.f b.length j = s.f j := fun j hj => lkF_off _ (fun i hi => by have := hat i hi; omega)
  have h7 : lkF (quGl G) b s.f b.length 7 = lw l := by rw [hlow 7 (by omega), h.tl]
  have hlast : lw l ≠ 0 → 0 < l.length ∧ gw (lw l) = l.getD (l.length - 1) 0 ∧ 0 ≤ gw (lw l) ∧ gw (lw l) < G := fun hne => by
    have h0 : l.length ≠ 0 := fun e => hne (by unfold lw; rw [if_pos e])
    have hm := h.rg _ (getD_in (l := l) (i := l.length - 1) (by omega))
    have e1 : gw (lw l) = l.getD (l.length - 1) 0 := by
      unfold lw; rw [if_neg h0]; exact gw_one _ (by omega)
    exact ⟨by omega, e1, by omega, by omega⟩
  obtain ⟨s', a, f, bd⟩ := qu_whole (qu_self (quGl G) b) (gl := quGl G) (l := b) (who := 0) (n := n) (s := s) (by omega) hb (fun y hy => by have := hr y hy; rw [quGl_at this]; omega) (by
    rw [h7]; intro hne
    have := hlast hne
    rw [quGl_at this.2.2]; omega) k
  rw [steps_no (M := qpPM (quGl G) b) (t := .over) rfl k] at a
  rw [a]
  show Qu G s' (l ++ b)
  have hq0 : qwd (b.getD 0 0) = b.getD 0 0 + 1 := qwd_small _ (by have := hat 0 hb; omega)
  have hql : qwd (b.getD (b.length - 1) 0) = b.getD (b.length - 1) 0 + 1 := qwd_small _ (by have := hat (b.length - 1) (by omega); omega)
  obtain ⟨at', hat'⟩ : ∃ a : Nat, (if lw l = 0 then 6 else quGl G (gw (lw l))).toNat = a := ⟨_, rfl⟩
  have hats : (lw l = 0 ∧ l.length = 0 ∧ at' = 6) ∨ (0 < l.length ∧ at' = 288 + 2 * (l.getD (l.length - 1) 0).toNat) := by
    by_cases hne : lw l = 0
    · left
      rw [if_pos hne] at hat'
      refine ⟨hne, ?_, hat'.symm⟩
      by_cases h0 : l.length = 0
      · exact h0
      · unfold lw at hne
        rw [if_neg h0] at hne
        have := h.rg _ (getD_in (l := l) (i := l.length - 1) (by omega))
        omega
    · right
      obtain ⟨q1, q2, q3⟩ := hlast hne
      rw [if_neg hne, quGl_at q3, q2] at hat'
      exact ⟨q1, by rw [q2] at q3; omega⟩
  have ha78 : at' ≠ 7 ∧ at' ≠ 8 := by rcases hats with ⟨_, _, e⟩ | ⟨_, e⟩ <;> omega
  have hf : ∀ j : Nat, s'.f j = if j = 8 then (s.f 8 + b.length) % 4294967296 else if j = 7 then b.getD (b.length - 1) 0 + 1 else if j = at' then b.getD 0 0 + 1 else lkF (quGl G) b s.f b.length j := fun j => by
    rw [f]
    show upd (upd (upd (lkF (quGl G) b s.f b.length) (if lkF (quGl G) b s.f b.length 7 = 0 then (6 : Int) else quGl G (gw (lkF (quGl G) b s.f b.length 7))).toNat (qwd (b.getD 0 0))) 7 (qwd (b.getD (b.length - 1) 0))) 8 ((upd (upd (lkF (quGl G) b s.f b.length) (if lkF (quGl G) b s.f b.length 7 = 0 then (6 : Int) else quGl G (gw (lkF (quGl G) b s.f b.length 7))).toNat (qwd (b.getD 0 0))) 7 (qwd (b.getD (b.length - 1) 0)) 8 + (b.length : Int)) % 4294967296) j = _
    rw [h7, hat', hq0, hql, upd_ne (i := 7) (j := 8) (by omega), upd_ne (i := at') (j := 8) (fun e => ha78.2 e.symm), hlow 8 (by omega)]
    rfl
  refine ⟨hnd, fun y hy => ?_, ?_, ?_, ?_, fun i hi => ?_, by rw [bd]; exact h.bad⟩
  · rcases List.mem_append.1 hy with hy | hy
    · exact h.rg y hy
    · exact hr y hy
  · rw [hf, if_neg (by omega), if_neg (by omega)]
    rcases hats with ⟨_, e0, e⟩ | ⟨e0, e⟩
    · rw [if_pos e.symm]
      obtain rfl : l = [] := List.eq_nil_of_length_eq_zero e0
      cases b with
      | nil => simp at hb
      | cons z r => rfl
    · rw [if_neg (by omega), hlow 6 (by omega), h.hd]
      cases l with
      | nil => simp at e0
      | cons z r => rfl
  · rw [hf, if_neg (by omega), if_pos rfl, lw_app hb]
  · rw [hf, if_pos rfl, h.sz, List.length_append]; omega
  · rw [List.length_append] at hi ⊢
    by_cases hil : i < l.length
    · have hri := h.rg _ (getD_in hil)
      rw [getD_left hil, hf, if_neg (by omega), if_neg (by omega)]
      by_cases hlst : i + 1 = l.length
      · rw [if_pos (by rcases hats with ⟨_, e0, _⟩ | ⟨_, e⟩ <;> first | omega | (rw [e, show l.length - 1 = i by omega])), if_pos (by omega), getD_right (by omega), show i + 1 - l.length = 0 by omega]
      · have hlt : i + 1 < l.length := by omega
        have hn1 := nodup_ne hndl (i := i) (j := l.length - 1) hil (by omega) (by omega)
        have hrl := h.rg _ (getD_in (l := l) (i := l.length - 1) (by omega))
        rw [if_neg (by rcases hats with ⟨_, e0, _⟩ | ⟨_, e⟩ <;> omega), lkF_off _ (fun j hj => by
          have h1 := hat j hj
          have h2 := hdis _ (getD_in hil) _ (getD_in hj)
          omega), h.lk i hil, if_pos hlt, if_pos (by omega), getD_left hlt]
    · obtain ⟨j, rfl⟩ : ∃ j, i = l.length + j := ⟨i - l.length, by omega⟩
      have hj : j < b.length := by omega
      have h1 := hat j hj
      rw [getD_right (by omega), show l.length + j - l.length = j by omega, hf, if_neg (by omega), if_neg (by omega), if_neg (by
        rcases hats with ⟨_, _, e⟩ | ⟨e0, e⟩
        · omega
        · have h2 := hdis _ (getD_in (l := l) (i := l.length - 1) (by omega)) _ (getD_in hj)
          have h3 := h.rg _ (getD_in (l := l) (i := l.length - 1) (by omega))
          omega), ← h1.1, lkF_at _ hj (fun q h2 h3 => by
          have h4 := hat q h3
          have h5 := nodup_ne hndb h3 hj (by omega)
          omega)]
      by_cases hj1 : j + 1 < b.length
      · rw [if_pos hj1, if_pos (by omega), getD_right (by omega), show l.length + j + 1 - l.length = j + 1 by omega]
        exact qwd_small _ (by have := hat (j + 1) hj1; omega)
      · rw [if_neg hj1, if_neg (by omega)]
theorem qu_none {G : Int} {n : Nat} {s : St} (h : Qu G s []) (hn : 9 ≤ n) (k : Nat) :
    ((plPM (quGl G)).steps 0 n (k + 1) (.ld, s)).1 = .none' ∧ Qu G ((plPM (quGl G)).steps 0 n (k + 1) (.ld, s)).2 [] := by
  obtain ⟨s1, a1, f1, b1⟩ := steps_ld (M := plPM (quGl G)) (who := 0) (n := n) (k := k) (t := .ld) (s := s) (i := 6) rfl (by omega)
  have h0 : s.f 6 = 0 := h.hd
  have e : (plPM (quGl G)).steps 0 n (k + 1) (.ld, s) = (.none', s1) := by
    rw [a1, show (6 : Int).toNat = 6 from rfl, h0]
    exact steps_no (M := plPM (quGl G)) (t := .none') rfl k
  rw [e]
  exact ⟨rfl, h.nd, h.rg, by show s1.f 6 = _; rw [f1]; exact h.hd, by show s1.f 7 = _; rw [f1]; exact h.tl, by show s1.f 8 = _; rw [f1]; exact h.sz, fun i hi => absurd hi (by simp), by show s1.bad = 0; rw [b1]; exact h.bad⟩
theorem qu_pull {G : Int} {n : Nat} {s : St} {y : Int} {r : List Int} (h : Qu G s (y :: r)) (hn : (n : Int) = 287 + 2 * G) (hG : 1 ≤ G ∧ G ≤ 60) (k : Nat) :
    (∃ z, ((plPM (quGl G)).steps 0 n (k + 6) (.ld, s)).1 = .over y z) ∧ Qu G ((plPM (quGl G)).steps 0 n (k + 6) (.ld, s)).2 r := by
  have hy := h.rg y (by simp)
  have hlen := nodup_room G.toNat (y :: r) h.nd (fun x hx => by have := h.rg x hx; omega)
  rw [List.length_cons] at hlen
  have h6 : s.f 6 = y + 1 := h.hd
  have hl0 : s.f (288 + 2 * y.toNat) = hw r := by
    have := h.lk 0 (by simp)
    cases r with
    | nil => simpa [hw] using this
    | cons z r => simpa [hw] using this
  obtain ⟨s1, a1, f1, b1⟩ := steps_ld (M := plPM (quGl G)) (who := 0) (n := n) (k := k + 5) (t := .ld) (s := s) (i := 6) rfl (by omega)
  obtain ⟨s2, a2, f2, b2⟩ := steps_ld (M := plPM (quGl G)) (who := 0) (n := n) (k := k + 4) (t := .lnk y) (s := s1) (i := quGl G y) rfl (by rw [quGl_at hy]; omega)
  rw [quGl_at hy, f1, show (288 + 2 * y).toNat = 288 + 2 * y.toNat by omega, hl0] at a2
  obtain ⟨s3, a3, f3, b3⟩ := steps_st (M := plPM (quGl G)) (who := 0) (n := n) (k := k + 3) (t := .un y (hw r)) (s := s2) (i := 6) (v := hw r) rfl (by omega)
  have e1 : (plPM (quGl G)).nx .ld (s.f (6 : Int).toNat) = .lnk y := by
    show (if s.f 6 = 0 then PlT.none' else .lnk (gw (s.f 6))) = _
    rw [h6, if_neg (by omega), gw_one y (by omega)]
  have hr0 : ∀ i, i < r.length → r.getD i 0 ≠ y := fun i hi e => (List.nodup_cons.1 h.nd).1 (e ▸ getD_in hi)
  have hlk : ∀ i, i < r.length → s.f (288 + 2 * (r.getD i 0).toNat) = if i + 1 < r.length then r.getD (i + 1) 0 + 1 else 0 := fun i hi => by
    have := h.lk (i + 1) (by simp; omega)
    simpa using this
  cases r with
  | nil =>
    obtain ⟨s4, a4, f4, b4⟩ := steps_st (M := plPM (quGl G)) (who := 0) (n := n) (k := k + 2) (t := .tl y) (s := s3) (i := 7) (v := 0) rfl (by omega)
    obtain ⟨s5, a5, f5, b5⟩ := steps_ad (M := plPM (quGl G)) (who := 0) (n := n) (k := k + 1) (t := .ct y 0) (s := s4) (i := 8) (v := 4294967295) rfl (by omega)
    have e : (plPM (quGl G)).steps 0 n (k + 6) (.ld, s) = (.over y 0, s5) := by
      rw [show k + 6 = k + 5 + 1 from rfl, a1, e1]
      show (plPM (quGl G)).steps 0 n (k + 4 + 1) (.lnk y, s1) = _
      rw [a2]
      show (plPM (quGl G)).steps 0 n (k + 3 + 1) (.un y (hw []), s2) = _
      rw [a3]
      show (plPM (quGl G)).steps 0 n (k + 2 + 1) (.tl y, s3) = _
      rw [a4]
      show (plPM (quGl G)).steps 0 n (k + 1 + 1) (.ct y 0, s4) = _
      rw [a5]
      exact steps_no (M := plPM (quGl G)) (t := .over y 0) rfl (k + 1)
    rw [e]
    refine ⟨⟨0, rfl⟩, ?_⟩
    show Qu G s5 []
    have hf : ∀ j : Nat, s5.f j = if j = 8 then (s.f 8 + 4294967295) % 4294967296 else if j = 7 then 0 else if j = 6 then 0 else s.f j := fun j => by
      have h8 : s4.f 8 = s.f 8 := by rw [f4, upd_ne (by decide), f3, upd_ne (by decide), f2, f1]
      rw [f5, show (8 : Int).toNat = 8 from rfl, h8, f4, f3, f2, f1]; rfl
    refine ⟨List.nodup_nil, fun y hy => (by cases hy), ?_, ?_, ?_, fun i hi => absurd hi (by simp), by rw [b5, b4, b3, b2, b1]; exact h.bad⟩
    · rw [hf]; rfl
    · rw [hf]; rfl
    · rw [hf, if_pos rfl, h.sz]; simp
  | cons z r =>
    have hz := h.rg z (by simp)
    have hnz : hw (z :: r) ≠ 0 := by show z + 1 ≠ 0; omega
    have e3 : (plPM (quGl G)).nx (.un y (hw (z :: r))) 0 = .ct y (hw (z :: r)) := if_neg hnz
    rw [e3] at a3
    obtain ⟨s5, a5, f5, b5⟩ := steps_ad (M := plPM (quGl G)) (who := 0) (n := n) (k := k + 2) (t := .ct y (hw (z :: r))) (s := s3) (i := 8) (v := 4294967295) rfl (by omega)
    have e : (plPM (quGl G)).steps 0 n (k + 6) (.ld, s) = (.over y (hw (z :: r)), s5) := by
      rw [show k + 6 = k + 5 + 1 from rfl, a1, e1]
      show (plPM (quGl G)).steps 0 n (k + 4 + 1) (.lnk y, s1) = _
      rw [a2]
      show (plPM (quGl G)).steps 0 n (k + 3 + 1) (.un y (hw (z :: r)), s2) = _
      rw [a3]
      show (plPM (quGl G)).steps 0 n (k + 2 + 1) (.ct y (hw (z :: r)), s3) = _
      rw [a5]
      exact steps_no (M := plPM (quGl G)) (t := .over y (hw (z :: r))) rfl (k + 2)
    rw [e]
    refine ⟨⟨_, rfl⟩, ?_⟩
    show Qu G s5 (z :: r)
    have hf : ∀ j : Nat, s5.f j = if j = 8 then (s.f 8 + 4294967295) % 4294967296 else if j = 6 then z + 1 else s.f j := fun j => by
      have h8 : s3.f 8 = s.f 8 := by rw [f3, upd_ne (by decide), f2, f1]
      rw [f5, show (8 : Int).toNat = 8 from rfl, h8, f3, f2, f1]; rfl
    refine ⟨(List.nodup_cons.1 h.nd).2, fun x hx => h.rg x (by simp [hx]), ?_, ?_, ?_, fun i hi => ?_, by rw [b5, b3, b2, b1]; exact h.bad⟩
    · rw [hf]; rfl
    · rw [hf, if_neg (by omega), if_neg (by omega), h.tl]
      unfold lw
      simp
    · rw [hf, if_pos rfl, h.sz]; simp; simp at hlen; omega
    · rw [hf, if_neg (by omega), if_neg (by omega)]
      exact hlk i hi
theorem qu_start {G : Int} {f : Nat → Int} (h : ∀ i, f i = 0) : Qu G (fresh f) [] := ⟨List.nodup_nil, fun y hy => (by cases hy), h 6, h 7, h 8, fun i hi => absurd hi (by simp), rfl⟩
/-- Goroutines one behind the other, round and round. -/
def win (G : Int) (a k : Nat) : List Int := (List.range k).map fun i => (((a + i) % G.toNat : Nat) : Int)
theorem win_len (G : Int) (a k : Nat) : (win G a k).length = k := by unfold win; simp
theorem win_succ (G : Int) (a k : Nat) : win G a (k + 1) = win G a k ++ [(((a + k) % G.toNat : Nat) : Int)] := by unfold win; rw [List.range_succ, List.map_append]; rfl
theorem win_app (G : Int) (a k : Nat) : ∀ m, win G a k ++ win G (a + k) m = win G a (k + m)
  | 0 => by simp [win]
  | m + 1 => by rw [win_succ, ← List.append_assoc, win_app G a k m, show k + (m + 1) = k + m + 1 by omega, win_succ, show a + k + m = a + (k + m) by omega]
theorem win_cons (G : Int) (a k : Nat) : win G a (k + 1) = ((a % G.toNat : Nat) : Int) :: win G (a + 1) k := by
  have := win_app G a 1 k
  rw [show k + 1 = 1 + k by omega, ← this]
  unfold win; simp
theorem win_rg {G : Int} (hG : 1 ≤ G) {a k : Nat} : ∀ y ∈ win G a k, 0 ≤ y ∧ y < G := fun y hy => by
  unfold win at hy
  obtain ⟨i, _, rfl⟩ := List.mem_map.1 hy
  have := Nat.mod_lt (a + i) (y := G.toNat) (by omega)
  omega
theorem mod_inj {g a i j : Nat} (h : (a + i) % g = (a + j) % g) (hi : i < g) (hj : j < g) : i = j := by
  have h1 := Nat.div_add_mod (a + i) g
  have h2 := Nat.div_add_mod (a + j) g
  rw [h] at h1
  rcases Nat.lt_trichotomy ((a + i) / g) ((a + j) / g) with h3 | h3 | h3
  · have := Nat.mul_le_mul_left g (show (a + i) / g + 1 ≤ (a + j) / g from h3)
    rw [Nat.mul_add, Nat.mul_one] at this
    omega
  · rw [h3] at h1; omega
  · have := Nat.mul_le_mul_left g (show (a + j) / g + 1 ≤ (a + i) / g from h3)
    rw [Nat.mul_add, Nat.mul_one] at this
    omega
theorem win_nd {G : Int} {a k : Nat} (hk : (k : Int) ≤ G) : (win G a k).Nodup := by
  unfold win
  refine List.pairwise_map.2 (List.Pairwise.imp_of_mem (fun {i j} hi hj hne h => ?_) List.nodup_range)
  have hi := List.mem_range.1 hi
  have hj := List.mem_range.1 hj
  exact hne (mod_inj (Int.ofNat.inj h) (by omega) (by omega))
end Go.Proofs.Ythhlklfioipmgaa

namespace Go.Proofs.Ythhlklfioipmgaa
open Go Go.RowKit Go.Maps
set_option linter.unusedVariables false
set_option maxRecDepth 100000
set_option linter.unusedSimpArgs false

namespace RI
/-- A list of ints that the call made. -/
structure IntsOn (w : World) (base : Nat) (v : Value) (l : List Int) : Prop where
  own : w.ownsRow base 3 1 v l.length (l.map (Value.int .i64))
theorem lists_info3 : (Try.prog.info? 3).map (fun i => (i.zero, i.size, i.bytes)) = some (some (.int .i64 0), 1, 8) := by kernel_rfl
theorem row_but {w w' : World} {base : Nat} {e : TypeId} {size : Nat} {v : Value} {n : Nat} {xs : List Value} {l : List Nat} (h : w.ownsRow base e size v n xs) (hB : But l w w') (hl : ∀ b ∈ l, b < base) : w'.ownsRow base e size v n xs := by
  refine ⟨h.1, ?_⟩
  rcases h.2 with h0 | ⟨gb, cp, cur, e0, hb, hh, rest⟩
  · exact .inl h0
  · exact .inr ⟨gb, cp, cur, e0, hb, (hB.block gb (block_lt hh) (fun hm => absurd (hl gb hm) (by omega))).trans hh, rest⟩
theorem row_below {w w' : World} {base : Nat} {e : TypeId} {size : Nat} {v : Value} {n : Nat} {xs : List Value} (h : w.ownsRow base e size v n xs) (hB : Below w.heap.size w w') : w'.ownsRow base e size v n xs := row_but h (But.of_below (l := []) hB) (fun b hb => by cases hb)
theorem lists_slice {w : World} {base : Nat} {e : TypeId} {size : Nat} {v : Value} {n : Nat} {xs : List Value} (h : w.ownsRow base e size v n xs) : ∃ A cap, v = .slice A n cap := by
  rcases h.2 with ⟨e0, h0⟩ | ⟨gb, cp, cur, e0, hb, hh, rest⟩
  · subst h0; exact ⟨none, 0, e0⟩
  · exact ⟨_, _, e0⟩
theorem IntsOn.cell {w : World} {base : Nat} {v : Value} {l : List Int} (h : IntsOn w base v l) {j : Nat} (hj : j < l.length) : ∃ gb cap, v = .slice (some ⟨gb, 0, none⟩) l.length cap ∧ w.cell? ⟨gb, j, none⟩ = some (.int .i64 (l.getD j 0)) := by
  rcases h.own.2 with ⟨e, h0⟩ | ⟨gb, cp, cur, e, hb, hh, hnc, hcm, hcs, htk⟩
  · omega
  · subst e
    refine ⟨gb, cp, rfl, ?_⟩
    have hc := h.own.cellAt j (by omega)
    rw [List.getElem?_map, List.getElem?_eq_getElem hj] at hc
    rw [List.getD_eq_getElem?_getD, List.getElem?_eq_getElem hj]
    exact hc
/-- A slice of ints, seen in memory. -/
def SeesL (w : World) (v : Value) (l : List Int) : Prop := ∃ A cap, v = .slice A l.length cap ∧ (A = none → l.length = 0 ∧ cap = 0) ∧ (0 < l.length → ∃ b off : Nat, A = some ⟨b, off, none⟩ ∧ b < w.heap.size ∧ ∀ j, j < l.length → w.cell? ⟨b, off + j, none⟩ = some (.int .i64 (l.getD j 0)))
theorem SeesL.below {w w' : World} {v : Value} {l : List Int} (h : SeesL w v l) (hb : Below w.heap.size w w') : SeesL w' v l := by
  obtain ⟨A, cap, e, h1, h2⟩ := h
  refine ⟨A, cap, e, h1, fun hn => ?_⟩
  obtain ⟨b, off, e1, h3, h4⟩ := h2 hn
  exact ⟨b, off, e1, Nat.lt_of_lt_of_le h3 hb.size, fun j hj => (hb.cell (p := ⟨b, off + j, none⟩) h3).trans (h4 j hj)⟩
theorem IntsOn.sees {w : World} {base : Nat} {v : Value} {l : List Int} (h : IntsOn w base v l) : SeesL w v l := by
  by_cases h0 : 0 < l.length
  · obtain ⟨gb, cap, e, -⟩ := h.cell h0
    refine ⟨_, cap, e, (fun h => by cases h), fun hn => ⟨gb, 0, rfl, ?_, fun j hj => ?_⟩⟩
    · obtain ⟨gb', cap', e', hc⟩ := h.cell hn
      rw [e] at e'; cases e'
      exact cell_lt hc
    · obtain ⟨gb', cap', e', hc⟩ := h.cell hj
      rw [e] at e'; cases e'
      rw [Nat.zero_add]; exact hc
  · rcases h.own.2 with ⟨e, h1⟩ | ⟨gb, cp, cur, e, -⟩
    · exact ⟨none, 0, by rw [e, h1], fun _ => ⟨h1, rfl⟩, fun h => absurd h h0⟩
    · exact ⟨_, cp, e, (fun h => by cases h), fun h => absurd h h0⟩

theorem lsame_any (w : World) (v v' : Value) (l : List Int) (hn : l.length ≤ 1000000) (h : SeesL w v l) (h' : SeesL w v' l) :
    Calls Try.prog 15 #[v, v'] w fun e w' => e = .returned (.bool true) ∧ Below w.heap.size w w' := by
  obtain ⟨A, cap, rfl, -, h2⟩ := h
  obtain ⟨A', cap', rfl, -, h2'⟩ := h'
  have H : Hid (0 < l.length → ∃ b off : Nat, A = some ⟨b, off, none⟩ ∧ b < w.heap.size ∧ ∀ j, j < l.length → w.cell? ⟨b, off + j, none⟩ = some (.int .i64 (l.getD j 0))) := h2
  have H' : Hid (0 < l.length → ∃ b off : Nat, A' = some ⟨b, off, none⟩ ∧ b < w.heap.size ∧ ∀ j, j < l.length → w.cell? ⟨b, off + j, none⟩ = some (.int .i64 (l.getD j 0))) := h2'
  clear h2 h2'
  have HF : Hid (∃ (f : Nat → Int) (n : Nat), (fun j => l.getD j 0) = f ∧ l.length = n) := ⟨_, _, rfl, rfl⟩
  obtain ⟨f, n, hf, hl⟩ := HF.out
  have hfe : ∀ j, l.getD j 0 = f j := fun j => congrFun hf j
  simp only [hfe] at H H'
  rw [hl] at H H' hn ⊢
  clear HF hf hl hfe
  go_enter Try.func15, Try.ntmps15
  go_wp2_with fail
  go_loopw [5] (fun i wr => ∃ k m : Nat, k ≤ n ∧ i = .int .i64 k ∧ wr = w.drewN m) (fun i _ => n - (intOf i).toNat)
  case atStart => exact ⟨0, 0, Nat.zero_le _, rfl, rfl⟩
  case round =>
    obtain ⟨k, m, hk, rfl, rfl⟩ := hrel
    by_cases hlt : k < n
    · obtain ⟨b, off, rfl, hbB, hcell⟩ := H.out (by omega)
      obtain ⟨b', off', rfl, hbB', hcell'⟩ := H'.out (by omega)
      have e0 : w.cell? ⟨b, off + k, none⟩ = some (.int .i64 (f k)) := hcell k hlt
      have e1 : w.cell? ⟨b', off' + k, none⟩ = some (.int .i64 (f k)) := hcell' k hlt
      clear hcell hcell'
      generalize f k = x at e0 e1
      go_wp2_with fail
      go_quiet (fail)
      go_wp2_with fail
      go_roundw
      case rel => exact ⟨k + 1, _, by omega, by go_num, rfl⟩
      case measure => simp [intOf]; omega
    · obtain rfl : k = n := by omega
      go_wp2_with fail
      go_ret
      exact ⟨rfl, Below.drewN' (Below.refl _ _) m⟩
end RI
theorem But.grown {l : List Nat} {a w w' : World} {r : Option Nat} (h : But l a w) (hg : w.grownBy w' r) (hr : ∀ k, r = some k → k ∈ l ∨ a.heap.size ≤ k) : But l a w' :=
  ⟨hg.os.trans h.os, hg.tape.trans h.tape, hg.output.trans h.output, Nat.le_trans h.size hg.size, fun k hk hc => (hg.block k (Nat.lt_of_lt_of_le hk h.size) (fun e => by rcases hr k e.symm with h1 | h1; exact hc h1; omega)).trans (h.block k hk hc)⟩
def rowB (v : Value) : List Nat := match v.ownBlock with
  | some k => [k]
  | none => []
theorem rowB_mem {v : Value} {k : Nat} (h : v.ownBlock = some k) : k ∈ rowB v := by unfold rowB; rw [h]; simp
theorem mem_rowB {v : Value} {k : Nat} (h : k ∈ rowB v) : v.ownBlock = some k := by
  unfold rowB at h
  split at h
  · rename_i h'; simp at h; rw [h', h]
  · cases h
theorem RI.IntsOn.keep {w w' : World} {base : Nat} {v : Value} {l : List Int} {ll : List Nat} (h : RI.IntsOn w base v l) (hB : But ll w w') (hk : ∀ k ∈ rowB v, k ∉ ll) : RI.IntsOn w' base v l := by
  refine ⟨h.own.1, ?_⟩
  rcases h.own.2 with h0 | ⟨gb, cp, cur, e0, hb, hh, rest⟩
  · exact .inl h0
  · exact .inr ⟨gb, cp, cur, e0, hb, (hB.block gb (block_lt hh) (hk gb (rowB_mem (by rw [e0]; rfl)))).trans hh, rest⟩
theorem RI.IntsOn.up {w : World} {base : Nat} {v : Value} {l : List Int} (h : RI.IntsOn w base v l) : ∀ k ∈ rowB v, base ≤ k ∧ k < w.heap.size := fun k hk => h.own.lt k (mem_rowB hk)
/-- A list of ints that is only read. -/
def Rd.ints (base : Nat) (v : Value) (l : List Int) : Rd := ⟨rowB v, fun w => RI.IntsOn w base v l, fun w w' ll h hb hk => h.keep hb hk⟩
end Go.Proofs.Ythhlklfioipmgaa

namespace Go.Proofs.Ythhlklfioipmgaa
open Go Go.RowKit Go.Maps
set_option linter.unusedVariables false
set_option maxRecDepth 100000
set_option linter.unusedSimpArgs false

namespace RI
/-- A list of ints, anywhere in a row of the call's own. -/
structure TL (w : World) (base : Nat) (v : Value) (l : List Int) : Prop where
  ex : ∃ (A : Option Addr) (cap : Nat), v = .slice A l.length cap ∧ cap ≤ maxLen ∧ l.length ≤ cap ∧ ((A = none ∧ cap = 0) ∨ ∃ b off cur, A = some ⟨b, off, none⟩ ∧ base ≤ b ∧ w.heap[b]? = some (.cells cur 3 (0, 0)) ∧ off + cap ≤ cur.size ∧ ∀ j, j < l.length → cur[off + j]? = some (.int .i64 (l.getD j 0)))
theorem TL.nil (w : World) (base : Nat) : TL w base (.slice none 0 0) [] := ⟨none, 0, rfl, Nat.zero_le _, Nat.le_refl _, .inl ⟨rfl, rfl⟩⟩
theorem TL.keep {w w' : World} {base : Nat} {v : Value} {l : List Int} {ll : List Nat} (h : TL w base v l) (hB : But ll w w') (hk : ∀ k ∈ rowB v, k ∉ ll) : TL w' base v l := by
  obtain ⟨A, cap, e, h1, h2, h3⟩ := h
  refine ⟨A, cap, e, h1, h2, ?_⟩
  rcases h3 with h0 | ⟨b, off, cur, eA, hb, hh, hs, hc⟩
  · exact .inl h0
  · exact .inr ⟨b, off, cur, eA, hb, (hB.block b (block_lt hh) (hk b (rowB_mem (by rw [e, eA]; rfl)))).trans hh, hs, hc⟩
theorem TL.below {w w' : World} {base : Nat} {v : Value} {l : List Int} (h : TL w base v l) (hB : Below w.heap.size w w') : TL w' base v l := h.keep (But.of_below (l := []) hB) (fun k _ h => by cases h)
theorem TL.up {w : World} {base : Nat} {v : Value} {l : List Int} (h : TL w base v l) : ∀ k ∈ rowB v, base ≤ k ∧ k < w.heap.size := fun k hk => by
  obtain ⟨A, cap, e, h1, h2, h3⟩ := h
  have hk := mem_rowB hk
  rcases h3 with ⟨e0, -⟩ | ⟨b, off, cur, eA, hb, hh, hs, hc⟩
  · rw [e, e0] at hk; cases hk
  · rw [e, eA] at hk
    injection hk with hk
    have hk : b = k := hk
    subst hk
    exact ⟨hb, block_lt hh⟩
theorem TL.shape {w : World} {base : Nat} {v : Value} {l : List Int} (h : TL w base v l) : ∃ A cap, v = .slice A l.length cap := by
  obtain ⟨A, cap, e, -⟩ := h
  exact ⟨A, cap, e⟩
theorem TL.sees {w : World} {base : Nat} {v : Value} {l : List Int} (h : TL w base v l) : SeesL w v l := by
  obtain ⟨A, cap, e, h1, h2, h3⟩ := h
  rcases h3 with ⟨e0, e1⟩ | ⟨b, off, cur, eA, hb, hh, hs, hc⟩
  · subst e0 e1
    have hl : l.length = 0 := by omega
    exact ⟨none, 0, e, fun _ => ⟨hl, rfl⟩, fun h => absurd h (by omega)⟩
  · exact ⟨A, cap, e, (fun h => by rw [eA] at h; cases h), fun _ => ⟨b, off, eA, block_lt hh, fun j hj => by simp [World.cell?, hh, hc j hj]⟩⟩
theorem TL.uncons {w : World} {base : Nat} {v : Value} {x : Int} {r : List Int} (h : TL w base v (x :: r)) : ∃ b off cap : Nat, v = .slice (some ⟨b, off, none⟩) (r.length + 1) cap ∧ r.length + 1 ≤ cap ∧ cap ≤ maxLen ∧ w.cell? ⟨b, off, none⟩ = some (.int .i64 x) ∧ TL w base (.slice (if cap = 1 then some ⟨b, off, none⟩ else some ⟨b, off + 1, none⟩) r.length (cap - 1)) r := by
  obtain ⟨A, cap, e, h1, h2, h3⟩ := h
  rw [List.length_cons] at h2 e
  rcases h3 with ⟨e0, e1⟩ | ⟨b, off, cur, eA, hb, hh, hs, hc⟩
  · omega
  · subst eA
    have h0 := hc 0 (by simp)
    refine ⟨b, off, cap, e, h2, h1, by simpa [World.cell?, hh] using h0, ?_⟩
    refine ⟨_, cap - 1, rfl, by omega, by omega, .inr ?_⟩
    by_cases hc1 : cap = 1
    · rw [if_pos hc1]
      refine ⟨b, off, cur, rfl, hb, hh, by omega, fun j hj => by omega⟩
    · rw [if_neg hc1]
      refine ⟨b, off + 1, cur, rfl, hb, hh, by omega, fun j hj => ?_⟩
      have := hc (j + 1) (by simp; omega)
      rw [show off + (j + 1) = off + 1 + j by omega] at this
      simpa using this
theorem TL.of_own {w : World} {base b' : Nat} {v : Value} {l : List Int} (h : w.ownsRow b' 3 1 v l.length (l.map (Value.int .i64))) (hb : base ≤ b') : TL w base v l := by
  obtain ⟨h1, h2⟩ := h
  rcases h2 with ⟨e0, hl⟩ | ⟨g, cap, cur, e0, h3, h4, h5, h6, h7, h8⟩
  · exact ⟨none, 0, by rw [e0, hl], Nat.zero_le _, by omega, .inl ⟨rfl, rfl⟩⟩
  · refine ⟨some ⟨g, 0, none⟩, cap, e0, h6, h5, .inr ⟨g, 0, cur, rfl, Nat.le_trans hb h3, h4, by omega, fun j hj => ?_⟩⟩
    have e1 : (cur.toList.take (l.length * 1))[j]? = (l.map (Value.int .i64))[j]? := by rw [h8]
    rw [List.getElem?_take, if_pos (by omega), List.getElem?_map, List.getElem?_eq_getElem hj] at e1
    rw [Nat.zero_add, List.getD_eq_getElem?_getD, List.getElem?_eq_getElem hj]
    simpa using e1
/-- One more, behind. -/
theorem tl_append {ops : Array Oper} {rest : List Oper} {o : Oper} {a : Act} {Q : Exit → Act → World → Prop} (w : World) (hgd : o.guard = none) (s x : Operand) (ho : o.op = .call { callee := .builtin .append, args := #[s, x], argTypes := #[34, 34] }) {base : Nat} {v : Value} {l : List Int} (hv : a.eval s = v) (h : TL w base v l) (ad : Addr) (c : Nat) (g : Int) (hx : a.eval x = .slice (some ad) 1 c) (hnews : ∀ j u, ([.int .i64 g] : List Value)[j]? = some u → w.cell? (ad.add j) = some u) (hlen : l.length ≤ 1000000) (hbase : base ≤ w.heap.size)
    (hK : ∀ v' w', TL w' base v' (l ++ [g]) → But (rowB v) w w' → (∀ k ∈ rowB v', k ∈ rowB v ∨ w.heap.size ≤ k) → wpList Try.prog ops Q rest (a.put o.dst v') w') : wpList Try.prog ops Q (o :: rest) a w := by
  obtain ⟨i0, hi, hz0, hz1, hz2⟩ := info_parts lists_info3
  have h1c := ints_oneCell .i64 [g]
  have hmx : l.length + 1 ≤ maxLen := by unfold maxLen; omega
  have hby : (l.length + 1) * 8 ≤ 140737488355328 := by omega
  have hgrow : ∀ v' w', w'.ownsRow w.heap.size 3 1 v' (l.length + 1) (l.map (Value.int .i64) ++ [.int .i64 g]) → w.grownBy w' none → wpList Try.prog ops Q rest (a.put o.dst v') w' := fun v' w' h1 h2 => by
    have hT : TL w' w.heap.size v' (l ++ [g]) := TL.of_own (by simpa using h1) (Nat.le_refl _)
    refine hK v' w' (TL.of_own (by simpa using h1) hbase) ((But.refl _ _).grown h2 (fun k hk => by cases hk)) (fun k hk => .inr (hT.up k hk).1)
  obtain ⟨A, cap, e, h1, h2, h3⟩ := h
  rw [e] at hv
  rcases h3 with ⟨e0, e1⟩ | ⟨b, off, cur, eA, hb, hh, hs, hcl⟩
  · subst e0 e1
    obtain rfl : l = [] := List.eq_nil_of_length_eq_zero (by omega)
    exact wpList_append_grows w hgd s x 34 ho 3 i0 (.int .i64 0) 1 8 Try.underlying34 hi hz0 hz1 hz2 rfl (by decide) none 0 0 [] hv (fun _ => ⟨rfl, rfl⟩) rfl (fun b hb => by cases hb) ad 1 c [.int .i64 g] hx rfl hnews h1c (by omega) hmx hby (by simpa using hgrow)
  · subst eA
    have holds : ∀ j u, (l.map (Value.int .i64))[j]? = some u → w.cell? ⟨b, off + j, none⟩ = some u := fun j u hj => by
      have hjl : j < l.length := by have := (List.getElem?_eq_some_iff.1 hj).1; simpa using this
      rw [List.getElem?_map, List.getElem?_eq_getElem hjl] at hj
      have := hcl j hjl
      rw [List.getD_eq_getElem?_getD, List.getElem?_eq_getElem hjl] at this
      simp only [World.cell?, hh]
      rw [this]
      simpa using hj
    refine wpList_append_arg w hgd s x 34 ho 3 i0 (.int .i64 0) 1 8 Try.underlying34 hi hz0 hz1 hz2 rfl (by decide) b off l.length cap (l.map (Value.int .i64)) hv (by simp) holds ad 1 c [.int .i64 g] hx rfl hnews h1c (fun hr j hj => ?_) hmx hby (fun hr => ?_) (fun _ v' w' => hgrow v' w')
    · have hj0 : j = 0 := by simpa using hj
      subst hj0
      have hlt : off + l.length * 1 + 0 < cur.size := by omega
      exact ⟨by simp [World.cell?, hh, Array.getElem?_eq_getElem hlt] <;> omega, by simp [World.frozen?, hh]⟩
    · rw [show off + l.length * 1 = off + l.length by omega]
      have hset : w.setCells b (off + l.length) [.int .i64 g] = w.setCell ⟨b, off + l.length, none⟩ (.int .i64 g) := rfl
      rw [hset]
      have hB : But (rowB v) w (w.setCell ⟨b, off + l.length, none⟩ (.int .i64 g)) := (But.refl _ w).set (g := b) (.inl (rowB_mem (by rw [e]; rfl))) _ _
      refine hK _ _ ⟨some ⟨b, off, none⟩, cap, by simp, h1, by simpa using hr, .inr ⟨b, off, cur.setIfInBounds (off + l.length) (.int .i64 g), rfl, hb, heap_set hh _ _, by simpa using hs, fun j hj => ?_⟩⟩ hB (fun k hk => .inl ?_)
      · simp only [List.length_append, List.length_singleton] at hj
        rw [Array.getElem?_setIfInBounds]
        by_cases hjl : j < l.length
        · rw [if_neg (by omega), hcl j hjl]
          rw [List.getD_eq_getElem?_getD, List.getD_eq_getElem?_getD, List.getElem?_append_left hjl]
        · obtain rfl : j = l.length := by omega
          rw [if_pos rfl, if_pos (by omega)]
          simp
      · rw [e]; exact hk
end RI
/-- Such a list, that is only read. -/
def Rd.tl (base : Nat) (v : Value) (l : List Int) : Rd := ⟨rowB v, fun w => RI.TL w base v l, fun w w' ll h hb hk => h.keep hb hk⟩
end Go.Proofs.Ythhlklfioipmgaa

namespace Go.Proofs.Ythhlklfioipmgaa
open Go Go.RowKit
set_option linter.unusedVariables false
set_option maxRecDepth 100000
set_option linter.unusedSimpArgs false

/-- A machine that is only kept. -/
def Rd.mach {σ : Type} {I : MI σ} {M : PM σ} (hG : I.Good M) (x : Nat) (t : σ) (L : List Nat) : Rd := ⟨L, fun w => I w x t L, fun w w' l h hb hk => hG.keep h hb hk⟩
section
variable {σ : Type} {I : MI σ} {M : PM σ} {R Rm : Rd} {W0 w w' : World} {A : Option Addr} {cap c b n : Nat} {s : St} {x : Nat} {t : σ} {L : List Nat}
theorem Solo.again (h : Solo I R W0 w A cap c b n s x t L) {τ : Type} {J : MI τ} {R2 : Rd} {y : Nat} {u : τ} {K : List Nat} (hm : J w y u K) (hr : R2.P w) (hB : ∀ k ∈ K, k ∈ R.B) (hR : ∀ k ∈ R2.B, k ∈ R.B) (hK : ∀ k ∈ K, k ∉ R2.B) (hup : ∀ k ∈ K, W0.heap.size ≤ k) : Solo J R2 W0 w A cap c b n s y u K :=
  ⟨h.mem, hm, hr, fun k hk => ⟨fun e => h.rfar.1 (e ▸ hB k hk), fun e => h.rfar.2 (e ▸ hB k hk), hK k hk⟩, ⟨fun hm => h.rfar.1 (hR _ hm), fun hm => h.rfar.2 (hR _ hm)⟩, ⟨h.up.1, h.up.2.1, hup⟩, fun k hk => h.rlt k (hR k hk), h.below⟩
end
theorem lit1_sees (w : World) (a : Int) : RI.SeesL (w.alloc (.cells #[.int .i64 a] 3)) (.slice (some ⟨w.heap.size, 0, none⟩) 1 1) [a] := by
  have hX := Blk.new w #[.int .i64 a] 3
  refine ⟨_, 1, rfl, (fun h => by cases h), fun _ => ⟨w.heap.size, 0, rfl, hX.lt, fun j hj => ?_⟩⟩
  have hj4 : j < 1 := hj
  obtain rfl : j = 0 := by omega
  exact hX.cell 0 rfl
theorem lit2_sees (w : World) (a b : Int) : RI.SeesL (w.alloc (.cells #[.int .i64 a, .int .i64 b] 3)) (.slice (some ⟨w.heap.size, 0, none⟩) 2 2) [a, b] := by
  have hX := Blk.new w #[.int .i64 a, .int .i64 b] 3
  refine ⟨_, 2, rfl, (fun h => by cases h), fun _ => ⟨w.heap.size, 0, rfl, hX.lt, fun j hj => ?_⟩⟩
  have hj4 : j < 2 := hj
  rcases (by omega : j = 0 ∨ j = 1) with rfl | rfl
  · exact hX.cell 0 rfl
  · exact hX.cell 1 rfl
theorem lit3_sees (w : World) (a b c : Int) : RI.SeesL (w.alloc (.cells #[.int .i64 a, .int .i64 b, .int .i64 c] 3)) (.slice (some ⟨w.heap.size, 0, none⟩) 3 3) [a, b, c] := by
  have hX := Blk.new w #[.int .i64 a, .int .i64 b, .int .i64 c] 3
  refine ⟨_, 3, rfl, (fun h => by cases h), fun _ => ⟨w.heap.size, 0, rfl, hX.lt, fun j hj => ?_⟩⟩
  have hj4 : j < 3 := hj
  rcases (by omega : j = 0 ∨ j = 1 ∨ j = 2) with rfl | rfl | rfl
  · exact hX.cell 0 rfl
  · exact hX.cell 1 rfl
  · exact hX.cell 2 rfl

section
variable {σ : Type} {I : MI σ} {M : PM σ} {R Rm : Rd} {W0 w w' : World} {A : Option Addr} {cap c b n : Nat} {s : St} {x : Nat} {t : σ} {L : List Nat}
theorem Solo.stepUp (hG : I.Good M) {F : Nat} {who : Int} (hS : Steps M I Rm F who) (hRm : ∀ w, R.P w → Rm.P w) (hRb : ∀ k ∈ Rm.B, k ∈ R.B) (h : Solo I R W0 w A cap c b n s x t L) (hn : n ≤ 1000000) (hl : Low s 1000000) :
    Calls Try.prog F #[.pointer (some ⟨x, 0, none⟩), .pointer (some ⟨c, 0, none⟩)] w fun e w' => (e = .returned (.bool (M.ax (M.goT n t s)).isNone)) ∧ w.heap.size ≤ w'.heap.size ∧ ∃ L', Solo I R W0 w' A cap c b n (M.goS who n t s) x (M.goT n t s) L' := by
  refine (hS w A cap c b n s x t L h.mach (hRm w h.rd) h.mem hn hl (fun k hk => ⟨(h.far k hk).1, (h.far k hk).2.1, fun hr => (h.far k hk).2.2 (hRb k hr)⟩) ⟨fun hr => h.rfar.1 (hRb c hr), fun hr => h.rfar.2 (hRb b hr)⟩).mono ?_
  rintro e w' ⟨rfl, L', a1, a2, a3, a4⟩
  have hsz := h.below.size
  have k1 := h.mem.lt
  have k2 := h.mem.bl
  refine ⟨rfl, a3.size, L', a2, a1, R.keep _ _ _ h.rd a3 (fun k hk => ?_), fun k hk => ?_, h.rfar, ⟨h.up.1, h.up.2.1, fun k hk => ?_⟩, fun k hk => Nat.lt_of_lt_of_le (h.rlt k hk) a3.size, h.below.trans (a3.below ?_ hsz)⟩
  · simp only [List.mem_cons, not_or]
    exact ⟨fun e => h.rfar.1 (e ▸ hk), fun e => h.rfar.2 (e ▸ hk), fun hm => (h.far k hm).2.2 hk⟩
  · rcases a4 k hk with h1 | h1
    · exact h.far k h1
    · exact ⟨by omega, by omega, fun hr => by have := h.rlt k hr; omega⟩
  · rcases a4 k hk with h1 | h1
    · exact h.up.2.2 k h1
    · omega
  · intro k hk
    simp only [List.mem_cons] at hk
    rcases hk with rfl | rfl | hk
    · exact h.up.1
    · exact h.up.2.1
    · exact h.up.2.2 k hk
end
theorem lit4b_sees (w : World) (a b c d : Int) : RI.SeesL (w.alloc (.cells #[.int .i64 a, .int .i64 b, .int .i64 c, .int .i64 d] 3)) (.slice (some ⟨w.heap.size, 0, none⟩) 4 4) [a, b, c, d] := by
  have hX := Blk.new w #[.int .i64 a, .int .i64 b, .int .i64 c, .int .i64 d] 3
  refine ⟨_, 4, rfl, (fun h => by cases h), fun _ => ⟨w.heap.size, 0, rfl, hX.lt, fun j hj => ?_⟩⟩
  have hj4 : j < 4 := hj
  rcases (by omega : j = 0 ∨ j = 1 ∨ j = 2 ∨ j = 3) with rfl | rfl | rfl | rfl
  · exact hX.cell 0 rfl
  · exact hX.cell 1 rfl
  · exact hX.cell 2 rfl
  · exact hX.cell 3 rfl
end Go.Proofs.Ythhlklfioipmgaa

namespace Go.Proofs.Ythhlklfioipmgaa
open Go Go.RowKit
set_option linter.unusedVariables false
set_option maxRecDepth 100000
set_option linter.unusedSimpArgs false

theorem go_new (w : World) (cl : Nat) (G : Int) (sl : Value) (l : List Int) (hs : SeesL w sl l) (hn : l.length ≤ 1000000) (hl : Lay w cl 1 1 G) (hG : 0 ≤ G ∧ G ≤ 65536) :
    Calls Try.prog 7 #[.pointer (some ⟨cl, 0, none⟩), .int .i64 0, sl] w fun e w' => ∃ x L, e = .returned (.pointer (some ⟨x, 0, none⟩)) ∧ qpI 0 cl (quGl G) l w' x (qpStart l) L ∧ Below w.heap.size w w' ∧ (∀ k ∈ L, w.heap.size ≤ k) := by
  by_cases h0 : l = []
  · subst h0
    refine (qp_new_nil w cl 0 (quGl G) sl hs).mono ?_
    rintro e w' ⟨x, L, h1, h2, h3, h4, -⟩
    exact ⟨x, L, h1, h2, h3, h4⟩
  · have hl0 : 0 < l.length := by
      cases l with
      | nil => exact absurd rfl h0
      | cons a r => simp
    refine (qp_new_some w cl 0 1 1 G sl l hs hl0 hn hl (by omega) (by omega) hG).mono ?_
    rintro e w' ⟨x, L, h1, h2, h3, h4, -⟩
    refine ⟨x, L, h1, ?_, h3, h4⟩
    rw [show qpStart l = .ch 0 from if_neg h0]
    exact h2
theorem qu_put20 {G : Int} {n : Nat} {s : St} {l b : List Int} (h : Qu G s l) (hn : (n : Int) = 287 + 2 * G) (hG : 1 ≤ G ∧ G ≤ 60) (hb : b.length ≤ 8) (hnd : (l ++ b).Nodup) (hr : ∀ y ∈ b, 0 ≤ y ∧ y < G) :
    Qu G ((qpPM (quGl G) b).steps 0 n 20 (qpStart b, s)).2 (l ++ b) := by
  cases b with
  | nil =>
    rw [show qpStart [] = .done0 from rfl, steps_no (M := qpPM (quGl G) []) (t := .done0) rfl 20, List.append_nil]
    exact h
  | cons y r =>
    obtain ⟨q, hq⟩ : ∃ q, (y :: r).length = q := ⟨_, rfl⟩
    have := qu_put h hn hG (by simp) hnd hr (16 - q)
    rw [hq] at this hb
    rw [show q + 4 + (16 - q) = 20 by omega] at this
    exact this
def firstOf : List Int → Int
  | [] => -1
  | y :: _ => y
theorem qu_pull20 {G : Int} {n : Nat} {s : St} {l : List Int} (h : Qu G s l) (hn : (n : Int) = 287 + 2 * G) (hG : 1 ≤ G ∧ G ≤ 60) :
    ((plPM (quGl G)).steps 0 n 20 (.ld, s)).1.obs = firstOf l ∧ (plPM (quGl G)).ax ((plPM (quGl G)).steps 0 n 20 (.ld, s)).1 = none ∧ Qu G ((plPM (quGl G)).steps 0 n 20 (.ld, s)).2 l.tail := by
  cases l with
  | nil =>
    obtain ⟨h1, h2⟩ := qu_none (n := n) h (by omega) 19
    rw [h1]
    exact ⟨rfl, rfl, h2⟩
  | cons y r =>
    obtain ⟨⟨z, h1⟩, h2⟩ := qu_pull h hn hG 14
    rw [h1]
    exact ⟨rfl, rfl, h2⟩
/-- What lies beside a queue: the memory, the layout, a row of the call's own. -/
structure GoOn (w W : World) (B0 : Nat) (A : Option Addr) (cap c b n cl : Nat) (s : St) (G : Int) (v : Value) (l : List Int) : Prop where
  mem : Is W 92 A cap c b n s
  lay : Lay W cl 1 1 G
  below : Below w.heap.size w W
  row : RI.TL W B0 v l
  bb : B0 ≤ W.heap.size
  lo : c < B0 ∧ b < B0 ∧ cl < B0
  up : w.heap.size ≤ c ∧ w.heap.size ≤ b ∧ w.heap.size ≤ B0
  ne : cl ≠ c ∧ cl ≠ b
section
variable {w W W' : World} {B0 B1 : Nat} {A : Option Addr} {cap c b n cl : Nat} {s : St} {G : Int} {v v' f : Value} {l l' fl : List Int}
theorem GoOn.but {ll : List Nat} (h : GoOn w W B0 A cap c b n cl s G v l) (hB : But ll W W') (hl : ∀ k ∈ ll, B0 ≤ k) (hv : RI.TL W' B0 v' l') : GoOn w W' B0 A cap c b n cl s G v' l' where
  mem := h.mem.but hB (fun hm => by have := hl c hm; have := h.lo.1; omega) (fun hm => by have := hl b hm; have := h.lo.2.1; omega)
  lay := (hB.block cl h.lay.lt (fun hm => by have := hl cl hm; have := h.lo.2.2; omega)).trans h.lay
  below := h.below.trans (hB.below (fun k hk => by have := hl k hk; have := h.up.2.2; omega) h.below.size)
  row := hv
  bb := Nat.le_trans h.bb hB.size
  lo := h.lo
  up := h.up
  ne := h.ne
theorem GoOn.still (h : GoOn w W B0 A cap c b n cl s G v l) (hB : Below W.heap.size W W') : GoOn w W' B0 A cap c b n cl s G v l := h.but (But.of_below (l := []) hB) (fun k hk => by cases hk) (h.row.below hB)
theorem GoOn.grow (h : GoOn w W B0 A cap c b n cl s G v l) (hB : But (rowB v) W W') (hv : RI.TL W' B0 v' l') : GoOn w W' B0 A cap c b n cl s G v' l' := h.but hB (fun k hk => (h.row.up k hk).1) hv
theorem GoOn.aside (h : GoOn w W B0 A cap c b n cl s G v l) (hB1 : B0 ≤ B1 ∧ ∀ k ∈ rowB v, k < B1) (hf : RI.TL W B1 f fl) (hB : But (rowB f) W W') : GoOn w W' B0 A cap c b n cl s G v l :=
  h.but hB (fun k hk => by have := (hf.up k hk).1; omega) (h.row.keep hB (fun k hk hm => by have := hB1.2 k hk; have := (hf.up k hm).1; omega))
theorem GoOn.rows {I : MI QpT} {w3 : World} {x : Nat} {t : QpT} {L : List Nat} (h : GoOn w W B0 A cap c b n cl s G v l) (hf : RI.TL W B1 f fl) (hB1 : B0 ≤ B1) (hb : Below W.heap.size W w3) (hi : I w3 x t L) (hL : ∀ k ∈ L, W.heap.size ≤ k) : Solo I (((Rd.lay cl 1 1 G).and (Rd.tl B0 v l)).and (Rd.tl B1 f fl)) w w3 A cap c b n s x t L := by
  have k1 := h.lo
  refine Solo.begin h.mem hb h.below ⟨h.up.1, h.up.2.1⟩ hi hL ⟨⟨h.lay, h.row⟩, hf⟩ (fun k hk => ?_) ⟨fun hm => ?_, fun hm => ?_⟩
  · rcases List.mem_append.1 hk with hk | hk
    · rcases List.mem_append.1 hk with hk | hk
      · rw [List.mem_singleton.1 hk]; exact h.lay.lt
      · exact (h.row.up k hk).2
    · exact (hf.up k hk).2
  · rcases List.mem_append.1 hm with hm | hm
    · rcases List.mem_append.1 hm with hm | hm
      · exact h.ne.1 (List.mem_singleton.1 hm).symm
      · have := (h.row.up c hm).1; omega
    · have := (hf.up c hm).1; omega
  · rcases List.mem_append.1 hm with hm | hm
    · rcases List.mem_append.1 hm with hm | hm
      · exact h.ne.2 (List.mem_singleton.1 hm).symm
      · have := (h.row.up b hm).1; omega
    · have := (hf.up b hm).1; omega
theorem GoOn.solo {σ : Type} {I : MI σ} {w3 : World} {x : Nat} {t : σ} {L : List Nat} (h : GoOn w W B0 A cap c b n cl s G v l) (hb : Below W.heap.size W w3) (hi : I w3 x t L) (hL : ∀ k ∈ L, W.heap.size ≤ k) : Solo I ((Rd.lay cl 1 1 G).and (Rd.tl B0 v l)) w w3 A cap c b n s x t L := by
  have k1 := h.lo
  refine Solo.begin h.mem hb h.below ⟨h.up.1, h.up.2.1⟩ hi hL ⟨h.lay, h.row⟩ (fun k hk => ?_) ⟨fun hm => ?_, fun hm => ?_⟩
  · rcases List.mem_append.1 hk with hk | hk
    · rw [List.mem_singleton.1 hk]; exact h.lay.lt
    · exact (h.row.up k hk).2
  · rcases List.mem_append.1 hm with hm | hm
    · exact h.ne.1 (List.mem_singleton.1 hm).symm
    · have := (h.row.up c hm).1; omega
  · rcases List.mem_append.1 hm with hm | hm
    · exact h.ne.2 (List.mem_singleton.1 hm).symm
    · have := (h.row.up b hm).1; omega
end
/-- The law's rounds: who lies in the queue, who comes next. -/
theorem go_next {G : Int} (hG : 1 ≤ G) (a k : Nat) : Int.tmod ((((a + k) % G.toNat : Nat) : Int) + 1) G = (((a + (k + 1)) % G.toNat : Nat) : Int) := by
  obtain ⟨g, rfl⟩ : ∃ g : Nat, G = (g : Int) := ⟨G.toNat, by omega⟩
  simp only [Int.toNat_natCast]
  rw [Int.tmod_eq_emod_of_nonneg (by omega), show (((a + k) % g : Nat) : Int) + 1 = (((a + k) % g + 1 : Nat) : Int) by omega, ← Int.natCast_emod, Nat.mod_add_mod, Nat.add_assoc]
end Go.Proofs.Ythhlklfioipmgaa

namespace Go.Proofs.Ythhlklfioipmgaa
open Go Go.RowKit
set_option linter.unusedVariables false
set_option maxRecDepth 100000
set_option linter.unusedSimpArgs false


theorem CameBox.before {a w w' : World} {c q g : Nat} {cs : Array Value} {com : Value → Array Value} {fv : Value} {T : TypeId} (h : CameBox w w' c cs T com fv q g) (hb : But [c] a w) : CameBox a w' c cs T com fv q g :=
  ⟨⟨Nat.le_trans hb.size h.at'.fresh, h.at'.own, h.at'.com, hb.trans h.at'.but⟩, Nat.le_trans hb.size h.fresh, h.box, h.ne⟩

end Go.Proofs.Ythhlklfioipmgaa

namespace Go.Proofs.Ythhlklfioipmgaa
open Go Go.RowKit
set_option linter.unusedVariables false
set_option maxRecDepth 100000
set_option linter.unusedSimpArgs false

def tkCells (who : Int) (nx : Option Addr) (cl : Nat) (p most left : Int) (f o : Option Addr) (tl : Int) : Array Value := #[.int .i64 who, .pointer nx, .pointer (some ⟨cl, 0, none⟩), .int .i64 p, .int .i64 most, .int .u64 left, .pointer f, .pointer o, .int .u64 tl]
theorem layproc2_any (o : Option Addr) (P T G n f : Int) (w : World) (h : LayO w P T G o) (hp : 0 ≤ P ∧ P ≤ 64) (hf : 0 ≤ f ∧ f < 8) : Calls Try.prog 51 #[.pointer o, .int .i64 n, .int .i64 f] w fun e w' => e = .returned (.int .i64 (wd 20 P 264 n f)) ∧ Below w.heap.size w w' := by
  have HL : Hid _ := h
  have d1 : decide (8 ≤ f) = false := decide_eq_false (by omega)
  clear h
  go_enter Try.func51, Try.ntmps51
  go_wp2_with fail
  go_at_call 67; refine (procs_any o P T G _ HL.out).mono ?_; rintro e w1 ⟨rfl, h1⟩
  go_wp2_with fail
  go_at_call 64; refine (word_any 20 P 264 n f _ (by omega) (by omega) (by omega)).mono ?_; rintro e w2 ⟨rfl, h2⟩
  have hb := seq h1 h2
  go_wp2_with fail
  go_ret
  exact ⟨rfl, hb⟩

theorem layring_any (o : Option Addr) (P T G n i : Int) (w : World) (h : LayO w P T G o) (hp : 0 ≤ P ∧ P ≤ 64) (hi : 0 ≤ i ∧ i ≤ 18446744073709551615) : Calls Try.prog 48 #[.pointer o, .int .i64 n, .int .u64 i] w fun e w' => e = .returned (.int .i64 (wd 20 P 264 n (8 + i % 256))) ∧ Below w.heap.size w w' := by
  have HL : Hid _ := h
  have e1 : i.tmod 256 = i % 256 := Int.tmod_eq_emod_of_nonneg (by omega)
  generalize hz : i % 256 = z at *
  have e2 : IntKind.i64.wrap z = z := by simp [IntKind.wrap, IntKind.bits, IntKind.signed]; omega
  have e3 : IntKind.i64.wrap (8 + z) = 8 + z := by simp [IntKind.wrap, IntKind.bits, IntKind.signed]; omega
  have hzb : 0 ≤ z ∧ z < 256 := by omega
  clear h hz hi
  go_enter Try.func48, Try.ntmps48
  go_wp2_with fail
  go_at_call 67; refine (procs_any o P T G _ HL.out).mono ?_; rintro e w1 ⟨rfl, h1⟩
  go_wp2_with fail
  go_at_call 64; refine (word_any 20 P 264 n (8 + z) _ (by omega) (by omega) (by omega)).mono ?_; rintro e w2 ⟨rfl, h2⟩
  have hb := seq h1 h2
  go_wp2_with fail
  go_ret
  exact ⟨rfl, hb⟩


/-- How many are taken of so many. -/
def shareOf (P most v : Int) : Int := if 0 < most then (if most < (if 128 < (if IntKind.u64.wrap (v / P + 1) < v then IntKind.u64.wrap (v / P + 1) else v) then 128 else (if IntKind.u64.wrap (v / P + 1) < v then IntKind.u64.wrap (v / P + 1) else v)) then most else (if 128 < (if IntKind.u64.wrap (v / P + 1) < v then IntKind.u64.wrap (v / P + 1) else v) then 128 else (if IntKind.u64.wrap (v / P + 1) < v then IntKind.u64.wrap (v / P + 1) else v))) else (if 128 < (if IntKind.u64.wrap (v / P + 1) < v then IntKind.u64.wrap (v / P + 1) else v) then 128 else (if IntKind.u64.wrap (v / P + 1) < v then IntKind.u64.wrap (v / P + 1) else v))
theorem take_share (w : World) (x cl : Nat) (who p most left tl P T G v : Int) (nx f o : Option Addr) (h : Blk w x (tkCells who nx cl p most left f o tl) 106) (hl : Lay w cl P T G) (hp : 1 ≤ P ∧ P ≤ 64) (hv : 0 ≤ v ∧ v ≤ 18446744073709551615) (hm : -9223372036854775808 ≤ most ∧ most ≤ 9223372036854775807) :
    Calls Try.prog 70 #[.pointer (some ⟨x, 0, none⟩), .int .u64 v] w fun e w' => e = .returned (.int .u64 (shareOf P most v)) ∧ Below w.heap.size w w' := by
  have c2 := h.cell 2 (v := .pointer (some ⟨cl, 0, none⟩)) rfl
  have c4 := h.cell 4 (v := .int .i64 most) rfl
  have hC := fun Y (hY : Below w.heap.size w Y) => config_any (some ⟨cl, 0, none⟩) P T G Y (.some cl (hl.below hY hl.lt))
  have HC : Hid _ := hC
  have e1 : IntKind.u64.wrap P = P := wrap_u64 (by omega)
  have e2 : (P == 0) = false := by simp; omega
  clear h hl hC
  go_enter Try.func70, Try.ntmps70
  go_wp2_with fail
  go_at_call 43; refine (HC.out w (Below.refl _ _)).mono ?_; rintro e w1 ⟨rfl, k1⟩
  have hf := field_c0
  clear HC c2
  have c4 : w1.cell? ⟨x, 4, none⟩ = some (.int .i64 most) := by
    rw [k1.cell (p := ⟨x, 4, none⟩) (cell_lt c4)]; exact c4
  go_wp2_with fail
  all_goals
    go_ret
    refine ⟨congrArg (fun z => Ending.returned (Value.int .u64 z)) ?_, k1⟩
    unfold shareOf
    (repeat' split) <;> first | rfl | omega

theorem take_more_end (w : World) (x cl : Nat) (who p most left tl : Int) (nx f o : Option Addr) (h : Blk w x (tkCells who nx cl p most left f o tl) 106) (hl : left ≤ 1) :
    Calls Try.prog 90 #[.pointer (some ⟨x, 0, none⟩)] w fun e w' => (∃ v, e = .returned v) ∧ Blk w' x (tkCells who nx cl p most left f none tl) 106 ∧ But [x] w w' := by
  have c7 := h.cell 7 (v := .pointer o) rfl
  have f7 := h.fro 7
  have hlt := h.lt
  have h' : Blk _ x (tkCells who nx cl p most left f none tl) 106 := h.set 7 (.pointer none)
  have hB : But [x] w (w.setCell ⟨x, 7, none⟩ (.pointer none)) := (But.refl _ w).set (g := x) (.inl (by simp)) 7 _
  have HF : Hid _ := And.intro h' hB
  have k5 := h'.cell 5 (v := .int .u64 left) rfl
  have hd : decide (left ≤ 1) = true := decide_eq_true hl
  clear h h' hB
  go_enter Try.func90, Try.ntmps90
  go_wp2_with fail
  refine bodyPost_ret (results_none rfl _ _ _) rfl ?_
  exact ⟨⟨_, rfl⟩, HF.out⟩
set_option maxHeartbeats 4000000 in
theorem take_more_on (w : World) (x cl : Nat) (who p most left tl P T G : Int) (nx f o : Option Addr) (hp : 0 ≤ P ∧ P ≤ 64) (hT : 0 ≤ T ∧ T ≤ 65536) (hG : 0 ≤ G ∧ G ≤ 65536) (h : Blk w x (tkCells who nx cl p most left f o tl) 106) (hl : 1 < left ∧ left ≤ 18446744073709551615) :
    Calls Try.prog 90 #[.pointer (some ⟨x, 0, none⟩)] w fun e w' => (∃ v, e = .returned v) ∧ ∃ y L q g, CameBox w w' x (tkCells who nx cl p most (left - 1) f (some ⟨y, 0, none⟩) tl) 106 (fun v => comCells 0 0 0 0 0 false (.iface 38 (.pointer (some ⟨y, 0, none⟩))) v false false) (.func (.func 101) #[.pointer (some ⟨x, 0, none⟩)] #[]) q g ∧ (plFl who cl).I (plPM (fun y => wd (20 + P * 264 + T * 3) G 2 y 1)) w' y .ld L ∧ (∀ k ∈ L, w.heap.size ≤ k) ∧ q ∉ L ∧ g ∉ L := by
  have HGD : Hid (((plFl who cl).I (plPM (fun y => wd (20 + P * 264 + T * 3) G 2 y 1))).Good (plPM (fun y => wd (20 + P * 264 + T * 3) G 2 y 1))) := Fl.good (pl_laws who P T G cl hp hT hG)
  generalize (fun y => wd (20 + P * 264 + T * 3) G 2 y 1) = gl at *
  clear hp hT hG
  have c7 := h.cell 7 (v := .pointer o) rfl
  have f7 := h.fro 7
  have hlt := h.lt
  have h' : Blk _ x (tkCells who nx cl p most left f none tl) 106 := h.set 7 (.pointer none)
  have hB : But [x] w (w.setCell ⟨x, 7, none⟩ (.pointer none)) := (But.refl _ w).set (g := x) (.inl (by simp)) 7 _
  generalize hV : w.setCell ⟨x, 7, none⟩ (.pointer none) = V at h' hB
  have k5 := h'.cell 5 (v := .int .u64 left) rfl
  have f5 := h'.fro 5
  have h2' : Blk _ x (tkCells who nx cl p most (left - 1) f none tl) 106 := h'.set 5 (.int .u64 (left - 1))
  have hB2 : But [x] w (V.setCell ⟨x, 5, none⟩ (.int .u64 (left - 1))) := hB.set (g := x) (.inl (by simp)) 5 _
  have e1 : IntKind.u64.wrap (left - 1) = left - 1 := wrap_u64 (by omega)
  have hd : decide (left ≤ 1) = false := decide_eq_false (by omega)
  have hltV := h'.lt
  generalize hV2 : V.setCell ⟨x, 5, none⟩ (.int .u64 (left - 1)) = V2 at h2' hB2
  have HF : Hid _ := And.intro h2' hB2
  clear h h' hB h2' hB2
  go_enter Try.func90, Try.ntmps90
  go_wp2_with fail
  clear hV hV2 c7 f7 k5 f5
  have hWho := who_any V2.drew x who (HF.out.1.drew.cell 0 rfl)
  have hN := pl_new V2.drew cl who gl
  have c2 := HF.out.1.cell 2 (v := .pointer (some ⟨cl, 0, none⟩)) rfl
  have HS : Hid (∀ w4, Below V2.drew.heap.size V2.drew w4 → w4.cell? ⟨x, 7, none⟩ = some (.pointer none) ∧ w4.frozen? ⟨x, 7, none⟩ = false ∧ x < w4.heap.size) := fun w4 k => by
    have h4 := HF.out.1.drew.but (But.of_below (l := []) k) (by simp)
    exact ⟨h4.cell 7 rfl, h4.fro 7, h4.lt⟩
  go_region_with (first | (go_at_call 71; refine hWho.mono ?_; rintro e w3 ⟨rfl, rfl⟩) | (go_at_call 9; refine hN.mono ?_; rintro e w4 ⟨y, L, rfl, i1, i2, i3, i4⟩; obtain ⟨d7, g7, l7⟩ := HS.out w4 i2))
  all_goals
    have h5 : Blk _ x (tkCells who nx cl p most (left - 1) f (some ⟨y, 0, none⟩) tl) 106 := (HF.out.1.drew.but (But.of_below (l := []) i2) (by simp)).set 7 (.pointer (some ⟨y, 0, none⟩))
    have hB5 : But [x] w (w4.setCell ⟨x, 7, none⟩ (.pointer (some ⟨y, 0, none⟩))) := (HF.out.2.drew.trans (But.of_below i2)).set (g := x) (.inl (by simp)) 7 _
    have hsz : w.heap.size ≤ V2.drew.heap.size := HF.out.2.drew.size
    have hxL : x ∉ L := fun hm => absurd (i3 x hm) (by omega)
    have hi5 : (plFl who cl).I (plPM gl) (w4.setCell ⟨x, 7, none⟩ (.pointer (some ⟨y, 0, none⟩))) y .ld L := HGD.out.keep i1 ((But.refl [x] w4).set (g := x) (.inl (by simp)) 7 _) (fun k hk => by simp; rintro rfl; exact hxL hk)
    have hyx : y ≠ x := by omega
    generalize w4.setCell ⟨x, 7, none⟩ (.pointer (some ⟨y, 0, none⟩)) = W5 at *
    obtain ⟨ny, n1, n2⟩ := HGD.out.next hi5
    obtain ⟨a, rfl⟩ : ∃ a, ny = some a := by cases ny with | none => cases n2 | some a => exact ⟨a, rfl⟩
    have hf := frun_qpull W5.drew x y _ 106 (.func (.func 101) #[.pointer (some ⟨x, 0, none⟩)] #[]) a h5.drew (by simp [tkCells]) (.some _ _ _) hyx n1
    have c7 := h5.cell 7 (v := .pointer (some ⟨y, 0, none⟩)) rfl
    have HE : Hid (But [x] w W5.drew ∧ (plFl who cl).I (plPM gl) W5.drew y .ld L ∧ (∀ k ∈ L, w.heap.size ≤ k) ∧ (∀ k ∈ L, k < W5.drew.heap.size) ∧ x ∉ L) := ⟨hB5.drew, HGD.out.below hi5 (Below.refl _ _).drew, fun k hk => Nat.le_trans hsz (i3 k hk), fun k hk => HGD.out.lt hi5 k hk, hxL⟩
    clear h5 hB5 hi5 n1 n2 i1 i2 i3 i4 d7 g7 l7 HS hN hWho c2 HF hxL hsz
    go_wp2_with fail
    go_region_with (first | (go_at_call 72; refine hf.mono ?_; rintro e w6 ⟨⟨v, rfl⟩, q, g, hC⟩))
    all_goals
      have HZ : Hid (CameBox w w6 x (tkCells who nx cl p most (left - 1) f (some ⟨y, 0, none⟩) tl) 106 (fun v => comCells 0 0 0 0 0 false (.iface 38 (.pointer (some ⟨y, 0, none⟩))) v false false) (.func (.func 101) #[.pointer (some ⟨x, 0, none⟩)] #[]) q g ∧ (plFl who cl).I (plPM gl) w6 y .ld L ∧ (∀ k ∈ L, w.heap.size ≤ k) ∧ q ∉ L ∧ g ∉ L) := by
        have q1 : W5.drew.heap.size ≤ q := hC.at'.fresh
        have g1 : W5.drew.heap.size ≤ g := hC.fresh
        exact ⟨hC.before HE.out.1, HGD.out.keep HE.out.2.1 hC.at'.but (fun k hk => by simp; rintro rfl; exact HE.out.2.2.2.2 hk), HE.out.2.2.1, fun hm => absurd (HE.out.2.2.2.1 q hm) (by omega), fun hm => absurd (HE.out.2.2.2.1 g hm) (by omega)⟩
      clear hf hC c7 HE
      go_wp2_with fail
      go_end0
      exact ⟨⟨_, rfl⟩, y, L, q, g, HZ.out⟩
theorem take_others_none (w : World) (x cl : Nat) (who p most left tl : Int) (nx f o : Option Addr) (h : Blk w x (tkCells who nx cl p most left f o tl) 106) (hg : ∀ Y, Below w.heap.size w Y → Calls Try.prog 12 #[.pointer f] Y fun e w' => e = .returned (.int .i64 (-1)) ∧ Y = w') : Calls Try.prog 73 #[.pointer (some ⟨x, 0, none⟩)] w fun e w' => (∃ v, e = .returned v) ∧ w = w' := by
  have c6 := h.cell 6 (v := .pointer f) rfl
  have H := hg w (Below.refl _ _)
  clear h hg
  go_enter Try.func73, Try.ntmps73
  go_wp2_with fail
  go_at_call 12; refine H.mono ?_; rintro e w1 ⟨rfl, rfl⟩
  clear H c6
  go_wp2_with fail
  go_end0
  exact ⟨⟨_, rfl⟩, rfl⟩
theorem take_others_some (w : World) (x cl : Nat) (who p most left tl g : Int) (nx f o : Option Addr) (h : Blk w x (tkCells who nx cl p most left f o tl) 106) (hg1 : g ≠ -1) (hg : ∀ Y, Below w.heap.size w Y → Calls Try.prog 12 #[.pointer f] Y fun e w' => e = .returned (.int .i64 g) ∧ Y = w') (R : World → Prop) (hm : Calls Try.prog 90 #[.pointer (some ⟨x, 0, none⟩)] w fun e w' => (∃ v, e = .returned v) ∧ R w') : Calls Try.prog 73 #[.pointer (some ⟨x, 0, none⟩)] w fun e w' => (∃ v, e = .returned v) ∧ R w' := by
  have c6 := h.cell 6 (v := .pointer f) rfl
  have H := hg w (Below.refl _ _)
  have hd : (g == -1) = false := by simpa using hg1
  clear h hg hg1
  go_enter Try.func73, Try.ntmps73
  go_wp2_with fail
  go_at_call 12; refine H.mono ?_; rintro e w1 ⟨rfl, rfl⟩
  clear H c6
  go_wp2_with fail
  go_at_call 90; refine hm.mono ?_; rintro e w2 ⟨⟨v, rfl⟩, hR⟩
  clear hm
  go_wp2_with fail
  go_end0
  exact ⟨⟨_, rfl⟩, hR⟩
end Go.Proofs.Ythhlklfioipmgaa

namespace Go.Proofs.Ythhlklfioipmgaa
open Go Go.RowKit
set_option linter.unusedVariables false
set_option maxRecDepth 100000
set_option linter.unusedSimpArgs false

section
variable (w : World) (x cl : Nat) (who p most left tl P T G : Int) (nx f o : Option Addr) (h : Blk w x (tkCells who nx cl p most left f o tl) 106) (hl : Lay w cl P T G) (hp : 0 ≤ P ∧ P ≤ 64)
include h hl hp
theorem take_lengthen (htl : 0 ≤ tl ∧ tl ≤ 18446744073709551615) : Calls Try.prog 112 #[.pointer (some ⟨x, 0, none⟩)] w fun e w' => (∃ v, e = .returned v) ∧ Came w w' x (tkCells who nx cl p most left f o tl) 106 (axSt (wd 20 P 264 p 2) (IntKind.u64.wrap (tl + 1) % 4294967296)) (.untold 90) := by
  have c2 := h.cell 2 (v := .pointer (some ⟨cl, 0, none⟩)) rfl
  have c3 := h.cell 3 (v := .int .i64 p) rfl
  have c8 := h.cell 8 (v := .int .u64 tl) rfl
  have hlt := h.lt
  have hPr := layproc2_any (some ⟨cl, 0, none⟩) P T G p 2 w.drew (.some cl hl) hp (by omega)
  obtain ⟨z, hz⟩ : ∃ z, IntKind.u64.wrap (tl + 1) = z := ⟨_, rfl⟩
  have hzb : 0 ≤ z := by rw [← hz]; simp [IntKind.wrap, IntKind.bits, IntKind.signed]; omega
  have ht : z.tmod 4294967296 = z % 4294967296 := Int.tmod_eq_emod_of_nonneg hzb
  rw [hz]
  generalize z % 4294967296 = u at *
  have HS : Hid (∀ w4, Below w.drew.heap.size w.drew w4 → w4.cell? ⟨x, 8, none⟩ = some (.int .u64 tl) ∧ Calls Try.prog 59 #[.pointer (some ⟨x, 0, none⟩), .int .i64 (wd 20 P 264 p 2), .int .u64 u, .func (.func 90) #[.pointer (some ⟨x, 0, none⟩)] #[]] w4 fun e w' => (∃ v, e = .returned v) ∧ Came w w' x (tkCells who nx cl p most left f o tl) 106 (axSt (wd 20 P 264 p 2) u) (.untold 90)) := by
    intro w4 k
    have h4 : Blk w4 x (tkCells who nx cl p most left f o tl) 106 := h.drew.but (But.of_below (l := []) k) (by simp)
    refine ⟨h4.cell 8 rfl, (came_store w4 x _ 106 h4 (by simp [tkCells]) _ _ _).mono ?_⟩
    rintro e w5 ⟨hv, hC⟩
    exact ⟨hv, hC.before ((But.refl [x] w).drew.trans (But.of_below k))⟩
  generalize wd 20 P 264 p 2 = at' at *
  have hH : Hid (w.drew.cell? ⟨x, 2, none⟩ = some (.pointer (some ⟨cl, 0, none⟩)) ∧ w.drew.cell? ⟨x, 3, none⟩ = some (.int .i64 p) ∧ w.drew.cell? ⟨x, 8, none⟩ = some (.int .u64 tl)) := ⟨c2, c3, c8⟩
  have KB : Hid (∀ w4, Below w.drew.heap.size w.drew w4 → w4.cell? ⟨x, 2, none⟩ = some (.pointer (some ⟨cl, 0, none⟩)) ∧ w4.cell? ⟨x, 3, none⟩ = some (.int .i64 p) ∧ w4.cell? ⟨x, 8, none⟩ = some (.int .u64 tl)) := fun w4 k => by
    have h4 : Blk w4 x (tkCells who nx cl p most left f o tl) 106 := h.drew.but (But.of_below (l := []) k) (by simp)
    exact ⟨h4.cell 2 rfl, h4.cell 3 rfl, h4.cell 8 rfl⟩
  have KC : Hid (∀ w5, Came w w5 x (tkCells who nx cl p most left f o tl) 106 (axSt at' u) (.untold 90) → w5.cell? ⟨x, 2, none⟩ = some (.pointer (some ⟨cl, 0, none⟩)) ∧ w5.cell? ⟨x, 3, none⟩ = some (.int .i64 p) ∧ w5.cell? ⟨x, 8, none⟩ = some (.int .u64 tl)) := fun w5 hC => by
    obtain ⟨q, Lc, h1, -⟩ := hC
    exact ⟨h1.cell 2 rfl, h1.cell 3 rfl, h1.cell 8 rfl⟩
  clear h hl hp htl
  go_enter Try.func112, Try.ntmps112
  go_wp2_with fail
  go_region_held3 (fun w' => w'.cell? ⟨x, 2, none⟩ = some (.pointer (some ⟨cl, 0, none⟩)) ∧ w'.cell? ⟨x, 3, none⟩ = some (.int .i64 p) ∧ w'.cell? ⟨x, 8, none⟩ = some (.int .u64 tl)) (first | exact hH.out | exact KB.out _ ‹_› | exact KC.out _ ‹_›) (first | (go_at_call 51; refine hPr.mono ?_; rintro e w4 ⟨rfl, k⟩) | (go_at_call 59; refine (HS.out _ ‹_›).2.mono ?_; rintro e w5 ⟨⟨v, rfl⟩, hC⟩))
  all_goals
    clear hPr k HS c2 c3 c8 hH KB KC
    go_wp2_with fail
    go_end0
    exact ⟨⟨_, rfl⟩, hC⟩
omit hl hp in
theorem take_look_none (hg : ∀ Y, Below w.heap.size w Y → Calls Try.prog 12 #[.pointer o] Y fun e w' => e = .returned (.int .i64 (-1)) ∧ Y = w') : Calls Try.prog 101 #[.pointer (some ⟨x, 0, none⟩)] w fun e w' => (∃ v, e = .returned v) ∧ w = w' := by
  have c7 := h.cell 7 (v := .pointer o) rfl
  have H := hg w (Below.refl _ _)
  clear h hg
  go_enter Try.func101, Try.ntmps101
  go_wp2_with fail
  go_at_call 12; refine H.mono ?_; rintro e w1 ⟨rfl, rfl⟩
  clear H c7
  go_wp2_with fail
  refine bodyPost_ret (results_none rfl _ _ _) rfl ?_
  exact ⟨⟨_, rfl⟩, rfl⟩
theorem take_look_some (g : Int) (hg1 : g ≠ -1) (hg : ∀ Y, Below w.heap.size w Y → Calls Try.prog 12 #[.pointer o] Y fun e w' => e = .returned (.int .i64 g) ∧ Y = w') : Calls Try.prog 101 #[.pointer (some ⟨x, 0, none⟩)] w fun e w' => (∃ v, e = .returned v) ∧ Came w w' x (tkCells who nx cl p most left f o tl) 106 (axLd (wd 20 P 264 p 2)) (.told 107) := by
  have c7 := h.cell 7 (v := .pointer o) rfl
  have c2 := h.cell 2 (v := .pointer (some ⟨cl, 0, none⟩)) rfl
  have c3 := h.cell 3 (v := .int .i64 p) rfl
  have H := hg w (Below.refl _ _)
  have hPr := layproc2_any (some ⟨cl, 0, none⟩) P T G p 2 w.drew (.some cl hl) hp (by omega)
  have HS : Hid (∀ w4, Below w.drew.heap.size w.drew w4 → Calls Try.prog 50 #[.pointer (some ⟨x, 0, none⟩), .int .i64 (wd 20 P 264 p 2), .func (.func 107) #[.pointer (some ⟨x, 0, none⟩)] #[]] w4 fun e w' => (∃ v, e = .returned v) ∧ Came w w' x (tkCells who nx cl p most left f o tl) 106 (axLd (wd 20 P 264 p 2)) (.told 107)) := by
    intro w4 k
    have h4 : Blk w4 x (tkCells who nx cl p most left f o tl) 106 := h.drew.but (But.of_below (l := []) k) (by simp)
    refine (came_load w4 x _ 106 h4 (by simp [tkCells]) _ _).mono ?_
    rintro e w5 ⟨hv, hC⟩
    exact ⟨hv, hC.before ((But.refl [x] w).drew.trans (But.of_below k))⟩
  have hd : (g == -1) = false := by simpa using hg1
  generalize wd 20 P 264 p 2 = at' at *
  have hH : Hid (w.drew.cell? ⟨x, 2, none⟩ = some (.pointer (some ⟨cl, 0, none⟩)) ∧ w.drew.cell? ⟨x, 3, none⟩ = some (.int .i64 p)) := ⟨c2, c3⟩
  have KB : Hid (∀ w4, Below w.drew.heap.size w.drew w4 → w4.cell? ⟨x, 2, none⟩ = some (.pointer (some ⟨cl, 0, none⟩)) ∧ w4.cell? ⟨x, 3, none⟩ = some (.int .i64 p)) := fun w4 k => by
    have h4 : Blk w4 x (tkCells who nx cl p most left f o tl) 106 := h.drew.but (But.of_below (l := []) k) (by simp)
    exact ⟨h4.cell 2 rfl, h4.cell 3 rfl⟩
  have KC : Hid (∀ w5, Came w w5 x (tkCells who nx cl p most left f o tl) 106 (axLd at') (.told 107) → w5.cell? ⟨x, 2, none⟩ = some (.pointer (some ⟨cl, 0, none⟩)) ∧ w5.cell? ⟨x, 3, none⟩ = some (.int .i64 p)) := fun w5 hC => by
    obtain ⟨q, Lc, h1, -⟩ := hC
    exact ⟨h1.cell 2 rfl, h1.cell 3 rfl⟩
  clear h hl hp hg hg1
  go_enter Try.func101, Try.ntmps101
  go_wp2_with fail
  go_at_call 12; refine H.mono ?_; rintro e w1 ⟨rfl, rfl⟩
  clear H c7
  go_wp2_with fail
  go_region_held3 (fun w' => w'.cell? ⟨x, 2, none⟩ = some (.pointer (some ⟨cl, 0, none⟩)) ∧ w'.cell? ⟨x, 3, none⟩ = some (.int .i64 p)) (first | exact hH.out | exact KB.out _ ‹_› | exact KC.out _ ‹_›) (first | (go_at_call 51; refine hPr.mono ?_; rintro e w4 ⟨rfl, k⟩) | (go_at_call 50; refine (HS.out _ ‹_›).mono ?_; rintro e w5 ⟨⟨v, rfl⟩, hC⟩))
  all_goals
    clear hPr k HS c2 c3 hH KB KC
    go_wp2_with fail
    go_end0
    exact ⟨⟨_, rfl⟩, hC⟩
theorem take_lay (v0 g : Int) (hv : 0 ≤ v0 ∧ v0 ≤ 18446744073709551615) (hgb : 0 ≤ g ∧ g ≤ 1000000) (hxc : cl ≠ x) (hg : ∀ Y, But [x] w Y → Calls Try.prog 12 #[.pointer o] Y fun e w' => e = .returned (.int .i64 g) ∧ Y = w') : Calls Try.prog 107 #[.pointer (some ⟨x, 0, none⟩), .int .u64 v0] w fun e w' => (∃ v, e = .returned v) ∧ Came w w' x (tkCells who nx cl p most left f o v0) 106 (axSt (wd 20 P 264 p (8 + v0 % 256)) (g + 1)) (.untold 112) := by
  have c8 := h.cell 8 (v := .int .u64 tl) rfl
  have f8 := h.fro 8
  have hlt := h.lt
  have h' : Blk _ x (tkCells who nx cl p most left f o v0) 106 := h.set 8 (.int .u64 v0)
  have hB : But [x] w (w.setCell ⟨x, 8, none⟩ (.int .u64 v0)) := (But.refl _ w).set (g := x) (.inl (by simp)) 8 _
  have hl' : Lay (w.setCell ⟨x, 8, none⟩ (.int .u64 v0)) cl P T G := (hB.block cl hl.lt (by simpa using hxc)).trans hl
  generalize hV : w.setCell ⟨x, 8, none⟩ (.int .u64 v0) = V at h' hB hl'
  have c2 := h'.cell 2 (v := .pointer (some ⟨cl, 0, none⟩)) rfl
  have c3 := h'.cell 3 (v := .int .i64 p) rfl
  have c7 := h'.cell 7 (v := .pointer o) rfl
  have HR : Hid (∀ Y, Below V.drew.heap.size V.drew Y → Calls Try.prog 48 #[.pointer (some ⟨cl, 0, none⟩), .int .i64 p, .int .u64 v0] Y fun e w' => e = .returned (.int .i64 (wd 20 P 264 p (8 + v0 % 256))) ∧ Below V.drew.heap.size V.drew w') := fun Y k => (layring_any (some ⟨cl, 0, none⟩) P T G p v0 Y (.some cl (Lay.below (w := V.drew) hl' k hl'.lt)) hp hv).mono fun e w' hh => ⟨hh.1, k.trans (hh.2.mono k.size)⟩
  have HG : Hid (∀ Y, Below V.drew.heap.size V.drew Y → Calls Try.prog 12 #[.pointer o] Y fun e w' => e = .returned (.int .i64 g) ∧ Y = w') := fun Y k => hg Y (hB.drew.trans (But.of_below k))
  have HQ : Hid (∀ Y, Calls Try.prog 58 #[.int .i64 g] Y fun e w' => e = .returned (.int .u64 (g + 1)) ∧ Y = w') := fun Y => q_word Y g hgb
  have HS : Hid (∀ w4, Below V.drew.heap.size V.drew w4 → Calls Try.prog 59 #[.pointer (some ⟨x, 0, none⟩), .int .i64 (wd 20 P 264 p (8 + v0 % 256)), .int .u64 (g + 1), .func (.func 112) #[.pointer (some ⟨x, 0, none⟩)] #[]] w4 fun e w' => (∃ v, e = .returned v) ∧ Came w w' x (tkCells who nx cl p most left f o v0) 106 (axSt (wd 20 P 264 p (8 + v0 % 256)) (g + 1)) (.untold 112)) := by
    intro w4 k
    have h4 : Blk w4 x (tkCells who nx cl p most left f o v0) 106 := h'.drew.but (But.of_below (l := []) k) (by simp)
    refine (came_store w4 x _ 106 h4 (by simp [tkCells]) _ _ _).mono ?_
    rintro e w5 ⟨hv, hC⟩
    exact ⟨hv, hC.before (hB.drew.trans (But.of_below k))⟩
  generalize wd 20 P 264 p (8 + v0 % 256) = at' at *
  have hD : Hid (Below V.drew.heap.size V.drew V.drew) := Below.refl _ _
  have hH : Hid (V.drew.cell? ⟨x, 2, none⟩ = some (.pointer (some ⟨cl, 0, none⟩)) ∧ V.drew.cell? ⟨x, 3, none⟩ = some (.int .i64 p) ∧ V.drew.cell? ⟨x, 7, none⟩ = some (.pointer o)) := ⟨c2, c3, c7⟩
  have KB : Hid (∀ w4, Below V.drew.heap.size V.drew w4 → w4.cell? ⟨x, 2, none⟩ = some (.pointer (some ⟨cl, 0, none⟩)) ∧ w4.cell? ⟨x, 3, none⟩ = some (.int .i64 p) ∧ w4.cell? ⟨x, 7, none⟩ = some (.pointer o)) := fun w4 k => by
    have h4 : Blk w4 x (tkCells who nx cl p most left f o v0) 106 := h'.drew.but (But.of_below (l := []) k) (by simp)
    exact ⟨h4.cell 2 rfl, h4.cell 3 rfl, h4.cell 7 rfl⟩
  have KC : Hid (∀ w5, Came w w5 x (tkCells who nx cl p most left f o v0) 106 (axSt at' (g + 1)) (.untold 112) → w5.cell? ⟨x, 2, none⟩ = some (.pointer (some ⟨cl, 0, none⟩)) ∧ w5.cell? ⟨x, 3, none⟩ = some (.int .i64 p) ∧ w5.cell? ⟨x, 7, none⟩ = some (.pointer o)) := fun w5 hC => by
    obtain ⟨q, Lc, h1, -⟩ := hC
    exact ⟨h1.cell 2 rfl, h1.cell 3 rfl, h1.cell 7 rfl⟩
  clear h h' hB hl hl' hp hv hg hgb hxc
  go_enter Try.func107, Try.ntmps107
  go_wp2_with fail
  try rw [hV]
  clear hV c8 f8
  go_region_held3 (fun w' => w'.cell? ⟨x, 2, none⟩ = some (.pointer (some ⟨cl, 0, none⟩)) ∧ w'.cell? ⟨x, 3, none⟩ = some (.int .i64 p) ∧ w'.cell? ⟨x, 7, none⟩ = some (.pointer o)) (first | exact hH.out | exact KB.out _ ‹_› | exact KC.out _ ‹_›) (first | (go_at_call 48; refine (HR.out _ hD.out).mono ?_; rintro e w4 ⟨rfl, k⟩) | (go_at_call 12; refine (HG.out _ ‹_›).mono ?_; rintro e w5 ⟨rfl, rfl⟩) | (go_at_call 58; refine (HQ.out _).mono ?_; rintro e w6 ⟨rfl, rfl⟩) | (go_at_call 59; refine (HS.out _ ‹_›).mono ?_; rintro e w7 ⟨⟨v, rfl⟩, hC⟩))
  all_goals
    clear HR HG HQ HS c2 c3 c7 hH KB KC hD
    go_wp2_with fail
    go_end0
    exact ⟨⟨_, rfl⟩, hC⟩
end
end Go.Proofs.Ythhlklfioipmgaa

namespace Go.Proofs.Ythhlklfioipmgaa
open Go Go.RowKit
set_option linter.unusedVariables false
set_option maxRecDepth 100000
set_option linter.unusedSimpArgs false

section
variable (w : World) (x cl : Nat) (who p most left tl P T G : Int) (nx f o : Option Addr) (h : Blk w x (tkCells who nx cl p most left f o tl) 106) (hl : Lay w cl P T G) (hp : 0 ≤ P ∧ P ≤ 64)
include h hl hp
set_option maxHeartbeats 4000000 in
theorem take_lay2 (v0 g : Int) (hv : 0 ≤ v0 ∧ v0 ≤ 18446744073709551615) (hxc : cl ≠ x) (hg : ∀ Y, But [x] w Y → Calls Try.prog 12 #[.pointer o] Y fun e w' => e = .returned (.int .i64 g) ∧ Y = w') : Calls Try.prog 107 #[.pointer (some ⟨x, 0, none⟩), .int .u64 v0] w fun e w' => (∃ v, e = .returned v) ∧ Came w w' x (tkCells who nx cl p most left f o v0) 106 (axSt (wd 20 P 264 p (8 + v0 % 256)) (qwd g)) (.untold 112) := by
  have c8 := h.cell 8 (v := .int .u64 tl) rfl
  have f8 := h.fro 8
  have hlt := h.lt
  have h' : Blk _ x (tkCells who nx cl p most left f o v0) 106 := h.set 8 (.int .u64 v0)
  have hB : But [x] w (w.setCell ⟨x, 8, none⟩ (.int .u64 v0)) := (But.refl _ w).set (g := x) (.inl (by simp)) 8 _
  have hl' : Lay (w.setCell ⟨x, 8, none⟩ (.int .u64 v0)) cl P T G := (hB.block cl hl.lt (by simpa using hxc)).trans hl
  generalize hV : w.setCell ⟨x, 8, none⟩ (.int .u64 v0) = V at h' hB hl'
  have c2 := h'.cell 2 (v := .pointer (some ⟨cl, 0, none⟩)) rfl
  have c3 := h'.cell 3 (v := .int .i64 p) rfl
  have c7 := h'.cell 7 (v := .pointer o) rfl
  have HR : Hid (∀ Y, Below V.drew.heap.size V.drew Y → Calls Try.prog 48 #[.pointer (some ⟨cl, 0, none⟩), .int .i64 p, .int .u64 v0] Y fun e w' => e = .returned (.int .i64 (wd 20 P 264 p (8 + v0 % 256))) ∧ Below V.drew.heap.size V.drew w') := fun Y k => (layring_any (some ⟨cl, 0, none⟩) P T G p v0 Y (.some cl (Lay.below (w := V.drew) hl' k hl'.lt)) hp hv).mono fun e w' hh => ⟨hh.1, k.trans (hh.2.mono k.size)⟩
  have HG : Hid (∀ Y, Below V.drew.heap.size V.drew Y → Calls Try.prog 12 #[.pointer o] Y fun e w' => e = .returned (.int .i64 g) ∧ Y = w') := fun Y k => hg Y (hB.drew.trans (But.of_below k))
  have HQ : Hid (∀ Y, Calls Try.prog 58 #[.int .i64 g] Y fun e w' => e = .returned (.int .u64 (qwd g)) ∧ Y = w') := fun Y => q_word2 Y g
  have HS : Hid (∀ w4, Below V.drew.heap.size V.drew w4 → Calls Try.prog 59 #[.pointer (some ⟨x, 0, none⟩), .int .i64 (wd 20 P 264 p (8 + v0 % 256)), .int .u64 (qwd g), .func (.func 112) #[.pointer (some ⟨x, 0, none⟩)] #[]] w4 fun e w' => (∃ v, e = .returned v) ∧ Came w w' x (tkCells who nx cl p most left f o v0) 106 (axSt (wd 20 P 264 p (8 + v0 % 256)) (qwd g)) (.untold 112)) := by
    intro w4 k
    have h4 : Blk w4 x (tkCells who nx cl p most left f o v0) 106 := h'.drew.but (But.of_below (l := []) k) (by simp)
    refine (came_store w4 x _ 106 h4 (by simp [tkCells]) _ _ _).mono ?_
    rintro e w5 ⟨hv, hC⟩
    exact ⟨hv, hC.before (hB.drew.trans (But.of_below k))⟩
  generalize wd 20 P 264 p (8 + v0 % 256) = at' at *
  have hD : Hid (Below V.drew.heap.size V.drew V.drew) := Below.refl _ _
  have hH : Hid (V.drew.cell? ⟨x, 2, none⟩ = some (.pointer (some ⟨cl, 0, none⟩)) ∧ V.drew.cell? ⟨x, 3, none⟩ = some (.int .i64 p) ∧ V.drew.cell? ⟨x, 7, none⟩ = some (.pointer o)) := ⟨c2, c3, c7⟩
  have KB : Hid (∀ w4, Below V.drew.heap.size V.drew w4 → w4.cell? ⟨x, 2, none⟩ = some (.pointer (some ⟨cl, 0, none⟩)) ∧ w4.cell? ⟨x, 3, none⟩ = some (.int .i64 p) ∧ w4.cell? ⟨x, 7, none⟩ = some (.pointer o)) := fun w4 k => by
    have h4 : Blk w4 x (tkCells who nx cl p most left f o v0) 106 := h'.drew.but (But.of_below (l := []) k) (by simp)
    exact ⟨h4.cell 2 rfl, h4.cell 3 rfl, h4.cell 7 rfl⟩
  have KC : Hid (∀ w5, Came w w5 x (tkCells who nx cl p most left f o v0) 106 (axSt at' (qwd g)) (.untold 112) → w5.cell? ⟨x, 2, none⟩ = some (.pointer (some ⟨cl, 0, none⟩)) ∧ w5.cell? ⟨x, 3, none⟩ = some (.int .i64 p) ∧ w5.cell? ⟨x, 7, none⟩ = some (.pointer o)) := fun w5 hC => by
    obtain ⟨q, Lc, h1, -⟩ := hC
    exact ⟨h1.cell 2 rfl, h1.cell 3 rfl, h1.cell 7 rfl⟩
  clear h h' hB hl hl' hp hv hg hxc
  go_enter Try.func107, Try.ntmps107
  go_wp2_with fail
  try rw [hV]
  clear hV c8 f8
  go_region_held3 (fun w' => w'.cell? ⟨x, 2, none⟩ = some (.pointer (some ⟨cl, 0, none⟩)) ∧ w'.cell? ⟨x, 3, none⟩ = some (.int .i64 p) ∧ w'.cell? ⟨x, 7, none⟩ = some (.pointer o)) (first | exact hH.out | exact KB.out _ ‹_› | exact KC.out _ ‹_›) (first | (go_at_call 48; refine (HR.out _ hD.out).mono ?_; rintro e w4 ⟨rfl, k⟩) | (go_at_call 12; refine (HG.out _ ‹_›).mono ?_; rintro e w5 ⟨rfl, rfl⟩) | (go_at_call 58; refine (HQ.out _).mono ?_; rintro e w6 ⟨rfl, rfl⟩) | (go_at_call 59; refine (HS.out _ ‹_›).mono ?_; rintro e w7 ⟨⟨v, rfl⟩, hC⟩))
  all_goals
    clear HR HG HQ HS c2 c3 c7 hH KB KC hD
    go_wp2_with fail
    go_end0
    exact ⟨⟨_, rfl⟩, hC⟩
end
end Go.Proofs.Ythhlklfioipmgaa

namespace Go.Proofs.Ythhlklfioipmgaa
open Go Go.RowKit
set_option linter.unusedVariables false
set_option maxRecDepth 100000
set_option linter.unusedSimpArgs false

set_option maxHeartbeats 4000000 in
theorem take_begin (w : World) (x cl : Nat) (who p most left tl P T G v0 : Int) (nx f o : Option Addr) (hp : 1 ≤ P ∧ P ≤ 64) (hlay : Lay w cl P T G) (hv : 0 ≤ v0 ∧ v0 ≤ 18446744073709551615) (hm : -9223372036854775808 ≤ most ∧ most ≤ 9223372036854775807) (hT : 0 ≤ T ∧ T ≤ 65536) (hG : 0 ≤ G ∧ G ≤ 65536) (h : Blk w x (tkCells who nx cl p most left f o tl) 106) (hv0 : v0 ≠ 0) :
    Calls Try.prog 56 #[.pointer (some ⟨x, 0, none⟩), .int .u64 v0] w fun e w' => (∃ v, e = .returned v) ∧ ∃ y L q g, CameBox w w' x (tkCells who nx cl p most (shareOf P most v0) (some ⟨y, 0, none⟩) o tl) 106 (fun v => comCells 0 0 0 0 0 false (.iface 38 (.pointer (some ⟨y, 0, none⟩))) v false false) (.func (.func 73) #[.pointer (some ⟨x, 0, none⟩)] #[]) q g ∧ (plFl who cl).I (plPM (fun y => wd (20 + P * 264 + T * 3) G 2 y 1)) w' y .ld L ∧ (∀ k ∈ L, w.heap.size ≤ k) ∧ q ∉ L ∧ g ∉ L := by
  have HGD : Hid (((plFl who cl).I (plPM (fun y => wd (20 + P * 264 + T * 3) G 2 y 1))).Good (plPM (fun y => wd (20 + P * 264 + T * 3) G 2 y 1))) := Fl.good (pl_laws who P T G cl ⟨by omega, hp.2⟩ hT hG)
  generalize (fun y => wd (20 + P * 264 + T * 3) G 2 y 1) = gl at *
  clear hT hG
  have hSh := take_share w x cl who p most left tl P T G v0 nx f o h hlay hp hv hm
  have hlt := h.lt
  have hd : (v0 == 0) = false := by simpa using hv0
  have HH : Hid (∀ Y, Below w.heap.size w Y → Blk Y x (tkCells who nx cl p most left f o tl) 106) := fun Y k => h.but (But.of_below (l := []) k) (by simp)
  have HQ : Hid (∀ Y, Below w.heap.size w Y → Y.cell? ⟨x, 5, none⟩ = some (.int .u64 left) ∧ Y.frozen? ⟨x, 5, none⟩ = false ∧ x < Y.heap.size) := fun Y k => ⟨(HH.out Y k).cell 5 rfl, (HH.out Y k).fro 5, (HH.out Y k).lt⟩
  generalize shareOf P most v0 = n at *
  clear h hlay hv hm hv0
  go_enter Try.func56, Try.ntmps56
  go_wp2_with fail
  go_at_call 70; refine hSh.mono ?_; rintro e w1 ⟨rfl, k1⟩
  obtain ⟨d5, g5, l5⟩ := HQ.out w1 k1
  have h2' : Blk _ x (tkCells who nx cl p most n f o tl) 106 := (HH.out w1 k1).set 5 (.int .u64 n)
  have hB2 : But [x] w (w1.setCell ⟨x, 5, none⟩ (.int .u64 n)) := (But.of_below k1).set (g := x) (.inl (by simp)) 5 _
  generalize hV2 : w1.setCell ⟨x, 5, none⟩ (.int .u64 n) = V2 at h2' hB2
  have HF : Hid _ := And.intro h2' hB2
  clear h2' hB2 HH HQ hSh k1
  go_wp2_with fail
  clear hV2 d5 g5 l5
  have hWho := who_any V2.drew x who (HF.out.1.drew.cell 0 rfl)
  have hN := pl_new V2.drew cl who gl
  have c2 := HF.out.1.cell 2 (v := .pointer (some ⟨cl, 0, none⟩)) rfl
  have HS : Hid (∀ w4, Below V2.drew.heap.size V2.drew w4 → w4.cell? ⟨x, 6, none⟩ = some (.pointer f) ∧ w4.frozen? ⟨x, 6, none⟩ = false ∧ x < w4.heap.size) := fun w4 k => by
    have h4 := HF.out.1.drew.but (But.of_below (l := []) k) (by simp)
    exact ⟨h4.cell 6 rfl, h4.fro 6, h4.lt⟩
  go_region_with (first | (go_at_call 71; refine hWho.mono ?_; rintro e w3 ⟨rfl, rfl⟩) | (go_at_call 9; refine hN.mono ?_; rintro e w4 ⟨y, L, rfl, i1, i2, i3, i4⟩; obtain ⟨d7, g7, l7⟩ := HS.out w4 i2))
  all_goals
    have h5 : Blk _ x (tkCells who nx cl p most n (some ⟨y, 0, none⟩) o tl) 106 := (HF.out.1.drew.but (But.of_below (l := []) i2) (by simp)).set 6 (.pointer (some ⟨y, 0, none⟩))
    have hB5 : But [x] w (w4.setCell ⟨x, 6, none⟩ (.pointer (some ⟨y, 0, none⟩))) := (HF.out.2.drew.trans (But.of_below i2)).set (g := x) (.inl (by simp)) 6 _
    have hsz : w.heap.size ≤ V2.drew.heap.size := HF.out.2.drew.size
    have hxL : x ∉ L := fun hm => absurd (i3 x hm) (by omega)
    have hi5 : (plFl who cl).I (plPM gl) (w4.setCell ⟨x, 6, none⟩ (.pointer (some ⟨y, 0, none⟩))) y .ld L := HGD.out.keep i1 ((But.refl [x] w4).set (g := x) (.inl (by simp)) 6 _) (fun k hk => by simp; rintro rfl; exact hxL hk)
    have hyx : y ≠ x := by omega
    generalize w4.setCell ⟨x, 6, none⟩ (.pointer (some ⟨y, 0, none⟩)) = W5 at *
    obtain ⟨ny, n1, n2⟩ := HGD.out.next hi5
    obtain ⟨a, rfl⟩ : ∃ a, ny = some a := by cases ny with | none => cases n2 | some a => exact ⟨a, rfl⟩
    have hf := frun_qpull W5.drew x y _ 106 (.func (.func 73) #[.pointer (some ⟨x, 0, none⟩)] #[]) a h5.drew (by simp [tkCells]) (.some _ _ _) hyx n1
    have c7 := h5.cell 6 (v := .pointer (some ⟨y, 0, none⟩)) rfl
    have HE : Hid (But [x] w W5.drew ∧ (plFl who cl).I (plPM gl) W5.drew y .ld L ∧ (∀ k ∈ L, w.heap.size ≤ k) ∧ (∀ k ∈ L, k < W5.drew.heap.size) ∧ x ∉ L) := ⟨hB5.drew, HGD.out.below hi5 (Below.refl _ _).drew, fun k hk => Nat.le_trans hsz (i3 k hk), fun k hk => HGD.out.lt hi5 k hk, hxL⟩
    clear h5 hB5 hi5 n1 n2 i1 i2 i3 i4 d7 g7 l7 HS hN hWho c2 HF hxL hsz
    go_wp2_with fail
    go_region_with (first | (go_at_call 72; refine hf.mono ?_; rintro e w6 ⟨⟨v, rfl⟩, q, g, hC⟩))
    all_goals
      have HZ : Hid (CameBox w w6 x (tkCells who nx cl p most n (some ⟨y, 0, none⟩) o tl) 106 (fun v => comCells 0 0 0 0 0 false (.iface 38 (.pointer (some ⟨y, 0, none⟩))) v false false) (.func (.func 73) #[.pointer (some ⟨x, 0, none⟩)] #[]) q g ∧ (plFl who cl).I (plPM gl) w6 y .ld L ∧ (∀ k ∈ L, w.heap.size ≤ k) ∧ q ∉ L ∧ g ∉ L) := by
        have q1 : W5.drew.heap.size ≤ q := hC.at'.fresh
        have g1 : W5.drew.heap.size ≤ g := hC.fresh
        exact ⟨hC.before HE.out.1, HGD.out.keep HE.out.2.1 hC.at'.but (fun k hk => by simp; rintro rfl; exact HE.out.2.2.2.2 hk), HE.out.2.2.1, fun hm => absurd (HE.out.2.2.2.1 q hm) (by omega), fun hm => absurd (HE.out.2.2.2.1 g hm) (by omega)⟩
      clear hf hC c7 HE
      go_wp2_with fail
      go_end0
      exact ⟨⟨_, rfl⟩, y, L, q, g, HZ.out⟩
end Go.Proofs.Ythhlklfioipmgaa

namespace Go.Proofs.Ythhlklfioipmgaa
open Go Go.RowKit
set_option linter.unusedVariables false
set_option maxRecDepth 100000
set_option linter.unusedSimpArgs false

theorem take_begin_none (w : World) (x : Nat) :
    Calls Try.prog 56 #[.pointer (some ⟨x, 0, none⟩), .int .u64 0] w fun e w' => (∃ v, e = .returned v) ∧ w = w' := by
  go_enter Try.func56, Try.ntmps56
  go_wp2_with fail
  refine bodyPost_ret (results_none rfl _ _ _) rfl ?_
  exact ⟨⟨_, rfl⟩, rfl⟩
theorem take_g (w : World) (x cl : Nat) (who p most left tl g : Int) (nx f o : Option Addr) (h : Blk w x (tkCells who nx cl p most left f o tl) 106) (hg : Calls Try.prog 12 #[.pointer f] w fun e w' => e = .returned (.int .i64 g) ∧ w = w') :
    Calls Try.prog 33 #[.pointer (some ⟨x, 0, none⟩)] w fun e w' => e = .returned (.int .i64 g) ∧ w = w' := by
  have c6 := h.cell 6 (v := .pointer f) rfl
  clear h
  go_enter Try.func33, Try.ntmps33
  go_wp2_with fail
  go_at_call 12; refine hg.mono ?_; rintro e w1 ⟨rfl, rfl⟩
  clear hg c6
  go_wp2_with fail
  go_ret
  exact ⟨rfl, rfl⟩
theorem take_g_nil (w : World) : Calls Try.prog 33 #[.pointer none] w fun e w' => e = .returned (.int .i64 (-1)) ∧ w = w' := by
  go_enter Try.func33, Try.ntmps33
  go_wp2_with fail
  go_ret
  exact ⟨rfl, rfl⟩
theorem take_new (w : World) (cl : Nat) (who p most : Int) :
    Calls Try.prog 29 #[.pointer (some ⟨cl, 0, none⟩), .int .i64 who, .int .i64 p, .int .i64 most] w fun e w' => ∃ x q Lc, e = .returned (.pointer (some ⟨x, 0, none⟩)) ∧ Blk w' x (tkCells who (some ⟨q, 0, none⟩) cl p most 0 none none 0) 106 ∧ Com w' x q (axLd 8) (.told 56) Lc ∧ x ∉ Lc ∧ Below w.heap.size w w' ∧ (∀ k ∈ Lc, w.heap.size ≤ k) ∧ w.heap.size ≤ x := by
  have hB := Blk.new w #[.int .i64 0, .pointer none, .pointer none, .int .i64 p, .int .i64 most, .int .u64 0, .pointer none, .pointer none, .int .u64 0] 106
  have hb : Below w.heap.size w (w.alloc (.cells #[.int .i64 0, .pointer none, .pointer none, .int .i64 p, .int .i64 most, .int .u64 0, .pointer none, .pointer none, .int .u64 0] 106)) := (Below.refl _ _).alloc (Nat.le_refl _) _
  have hO := q_of _ w.heap.size cl who _ (tkCells who none cl p most 0 none none 0) 106 hB (by simp) rfl
  have HH : Hid (Below w.heap.size w (w.alloc (.cells #[.int .i64 0, .pointer none, .pointer none, .int .i64 p, .int .i64 most, .int .u64 0, .pointer none, .pointer none, .int .u64 0] 106))) := hb
  have hsz := World.size_alloc w (.cells #[.int .i64 0, .pointer none, .pointer none, .int .i64 p, .int .i64 most, .int .u64 0, .pointer none, .pointer none, .int .u64 0] 106)
  clear hB hb
  go_enter Try.func29, Try.ntmps29
  go_wp2_with fail
  go_at_call 35; refine hO.mono ?_; rintro e w1 ⟨⟨v, rfl⟩, h1, h2, h3⟩
  have hb1 : Hid (Below w.heap.size w w1) := HH.out.trans (h2.below (by simp) (by rw [hsz]; omega))
  have hL := q_load8 w1 w.heap.size cl 56 _ 106 h1 (by simp [tkCells]) rfl
  have hlt := h1.lt
  clear hO h2 HH
  go_wp2_with fail
  go_at_call 38; refine hL.mono ?_; rintro e w2 ⟨⟨v2, rfl⟩, hC⟩
  obtain ⟨q, Lc, c1, c2, c3, c4⟩ := hC
  have HF : Hid (Blk w2 w.heap.size (tkCells who (some ⟨q, 0, none⟩) cl p most 0 none none 0) 106 ∧ Com w2 w.heap.size q (axLd 8) (.told 56) Lc ∧ w.heap.size ∉ Lc ∧ Below w.heap.size w w2 ∧ ∀ k ∈ Lc, w.heap.size ≤ k) :=
    ⟨c1, c2, fun hm => by have := c4 _ hm; omega, hb1.out.trans (c3.below (by simp) hb1.out.size), fun k hk => by have := c4 k hk; omega⟩
  clear hL c1 c2 c3 c4
  go_wp2_with fail
  go_ret
  exact ⟨w.heap.size, q, Lc, rfl, HF.out.1, HF.out.2.1, HF.out.2.2.1, HF.out.2.2.2.1, HF.out.2.2.2.2, Nat.le_refl _⟩
end Go.Proofs.Ythhlklfioipmgaa

namespace Go.Proofs.Ythhlklfioipmgaa
open Go Go.RowKit
set_option linter.unusedVariables false
set_option maxRecDepth 100000
set_option linter.unusedSimpArgs false

inductive TkT where
  | ld
  | none'
  | fst (l : Int) (p : PlT)
  | oth (l : Int) (f p : PlT) (tl : Int)
  | tl (l : Int) (f o : PlT) (tl : Int)
  | st (l : Int) (f o : PlT) (tl : Int)
  | ln (l : Int) (f o : PlT) (tl : Int)
  | over (l : Int) (f : PlT) (o : Option PlT) (tl : Int)
def tkMore (l : Int) (f : PlT) (tl : Int) : TkT := if l ≤ 1 then .over l f none tl else .oth (l - 1) f .ld tl
def tkPM (gl : Int → Int) (P p most : Int) : PM TkT where
  ax := fun
    | .ld => some (axLd 8)
    | .none' => none
    | .fst _ q => (plPM gl).ax q
    | .oth _ _ q _ => (plPM gl).ax q
    | .tl _ _ _ _ => some (axLd (wd 20 P 264 p 2))
    | .st _ _ o tl => some (axSt (wd 20 P 264 p (8 + tl % 256)) (qwd o.obs))
    | .ln _ _ _ tl => some (axSt (wd 20 P 264 p 2) (IntKind.u64.wrap (tl + 1) % 4294967296))
    | .over _ _ _ _ => none
  nx := fun
    | .ld, v => if v = 0 then .none' else .fst (shareOf P most v) .ld
    | .fst l q, v => if ((plPM gl).ax ((plPM gl).nx q v)).isSome = true then .fst l ((plPM gl).nx q v) else if ((plPM gl).nx q v).obs = -1 then .over l ((plPM gl).nx q v) none 0 else tkMore l ((plPM gl).nx q v) 0
    | .oth l f q tl, v => if ((plPM gl).ax ((plPM gl).nx q v)).isSome = true then .oth l f ((plPM gl).nx q v) tl else if ((plPM gl).nx q v).obs = -1 then .over l f (some ((plPM gl).nx q v)) tl else .tl l f ((plPM gl).nx q v) tl
    | .tl l f o _, v => .st l f o v
    | .st l f o tl, _ => .ln l f o tl
    | .ln l f _ tl, _ => tkMore l f tl
    | t, _ => t
/-- Which one is taken. -/
def TkT.obs : TkT → Int
  | .fst _ q => q.obs
  | .oth _ f _ _ => f.obs
  | .tl _ f _ _ => f.obs
  | .st _ f _ _ => f.obs
  | .ln _ f _ _ => f.obs
  | .over _ f _ _ => f.obs
  | _ => -1
def plSub (who : Int) (gl : Int → Int) (cl : Nat) (P T G : Int) : Sub := ⟨PlT, plPM gl, (plFl who cl).I (plPM gl), Rd.lay cl P T G, 38, 10⟩
def ad (k : Nat) : Option Addr := some ⟨k, 0, none⟩
def tkFl (who p most : Int) (cl : Nat) (t : TkT) (es : List Nat) (nx : Option Addr) : Array Value := match t with
  | .ld => tkCells who nx cl p most 0 none none 0
  | .none' => tkCells who nx cl p most 0 none none 0
  | .fst l _ => tkCells who nx cl p most l (ad (es.getD 0 0)) none 0
  | .oth l _ _ tl => tkCells who nx cl p most l (ad (es.getD 0 0)) (ad (es.getD 1 0)) tl
  | .tl l _ _ tl => tkCells who nx cl p most l (ad (es.getD 0 0)) (ad (es.getD 1 0)) tl
  | .st l _ _ tl => tkCells who nx cl p most l (ad (es.getD 0 0)) (ad (es.getD 1 0)) tl
  | .ln l _ _ tl => tkCells who nx cl p most l (ad (es.getD 0 0)) (ad (es.getD 1 0)) tl
  | .over l _ none tl => tkCells who nx cl p most l (ad (es.getD 0 0)) none tl
  | .over l _ (some _) tl => tkCells who nx cl p most l (ad (es.getD 0 0)) (ad (es.getD 1 0)) tl
def PlT.up (gl : Int → Int) (q : PlT) : Prop := ((plPM gl).ax q).isSome = true
def U64' (v : Int) : Prop := 0 ≤ v ∧ v ≤ 18446744073709551615
/-- What lies in memory beside the machine: the pulls that are over. -/
def tkExt (who : Int) (gl : Int → Int) (cl : Nat) (t : TkT) (es : List Nat) (w : World) (Le : List Nat) : Prop := match t with
  | .ld => Le = []
  | .none' => Le = []
  | .fst _ _ => Le = []
  | .oth _ f _ _ => (plFl who cl).I (plPM gl) w (es.getD 0 0) f Le
  | .over _ f none _ => (plFl who cl).I (plPM gl) w (es.getD 0 0) f Le
  | .tl _ f o _ => ∃ Lf Lo, (plFl who cl).I (plPM gl) w (es.getD 0 0) f Lf ∧ (plFl who cl).I (plPM gl) w (es.getD 1 0) o Lo ∧ Le = Lf ++ Lo
  | .st _ f o _ => ∃ Lf Lo, (plFl who cl).I (plPM gl) w (es.getD 0 0) f Lf ∧ (plFl who cl).I (plPM gl) w (es.getD 1 0) o Lo ∧ Le = Lf ++ Lo
  | .ln _ f o _ => ∃ Lf Lo, (plFl who cl).I (plPM gl) w (es.getD 0 0) f Lf ∧ (plFl who cl).I (plPM gl) w (es.getD 1 0) o Lo ∧ Le = Lf ++ Lo
  | .over _ f (some o) _ => ∃ Lf Lo, (plFl who cl).I (plPM gl) w (es.getD 0 0) f Lf ∧ (plFl who cl).I (plPM gl) w (es.getD 1 0) o Lo ∧ Le = Lf ++ Lo
def tkCp (who : Int) (gl : Int → Int) (P T G p most : Int) (cl : Nat) : Cp TkT where
  T := 106
  cells := tkFl who p most cl
  kind := fun
    | .ld => .acc (axLd 8) (.told 56)
    | .none' => .over
    | .fst _ q => .run (plSub who gl cl P T G) q (.fn 73)
    | .oth _ _ q _ => .run (plSub who gl cl P T G) q (.fn 101)
    | .tl _ _ _ _ => .acc (axLd (wd 20 P 264 p 2)) (.told 107)
    | .st _ _ o tl => .acc (axSt (wd 20 P 264 p (8 + tl % 256)) (qwd o.obs)) (.untold 112)
    | .ln _ _ _ tl => .acc (axSt (wd 20 P 264 p 2) (IntKind.u64.wrap (tl + 1) % 4294967296)) (.untold 90)
    | .over _ _ _ _ => .over
  ok := fun
    | .ld => True
    | .none' => True
    | .fst l q => U64' l ∧ PlT.up gl q ∧ (plFl who cl).ok q
    | .oth l _ q tl => U64' l ∧ PlT.up gl q ∧ (plFl who cl).ok q ∧ U64' tl
    | .tl l _ _ tl => U64' l ∧ U64' tl
    | .st l _ _ tl => U64' l ∧ U64' tl
    | .ln l _ _ tl => U64' l ∧ U64' tl
    | .over _ _ _ _ => True
  ext := tkExt who gl cl
  tie := fun t es y => match t with
    | .fst _ _ => es.getD 0 0 = y
    | .oth _ _ _ _ => es.getD 1 0 = y
    | _ => True
theorem ent_tk1 : Ent 56 := fun args w => by kernel_rfl
theorem ent_tk2 : Ent 90 := fun args w => by kernel_rfl
theorem ent_tk6 : Ent 73 := fun args w => by kernel_rfl
theorem ent_tk3 : Ent 101 := fun args w => by kernel_rfl
theorem ent_tk4 : Ent 107 := fun args w => by kernel_rfl
theorem ent_tk5 : Ent 112 := fun args w => by kernel_rfl
theorem share_bd {P most v : Int} (hv : U64' v) (hm : -9223372036854775808 ≤ most ∧ most ≤ 9223372036854775807) : U64' (shareOf P most v) := by
  obtain ⟨z, hz⟩ : ∃ z, IntKind.u64.wrap (v / P + 1) = z := ⟨_, rfl⟩
  have hzb : 0 ≤ z ∧ z ≤ 18446744073709551615 := by rw [← hz]; generalize v / P + 1 = y; simp [IntKind.wrap, IntKind.bits, IntKind.signed]; omega
  unfold shareOf U64' at *
  rw [hz]
  split <;> (repeat' split) <;> omega
theorem pl_live_ax {gl : Int → Int} {q : PlT} (h : ¬ PlT.up gl q) : (plPM gl).ax q = none := by
  unfold PlT.up at h
  cases hq : (plPM gl).ax q
  · rfl
  · rw [hq] at h; exact absurd rfl h

section
variable {who P T G p most : Int} {gl : Int → Int} {cl : Nat} {W w' : World} {x : Nat} {t t' : TkT} {a : Ax} {f : Fol} {es Le Le' : List Nat}
theorem tk_land_acc (h : Came W w' x (tkFl who p most cl t es none) 106 a f) (hok : (tkCp who gl P T G p most cl).ok t) (hk : (tkCp who gl P T G p most cl).kind t = .acc a f) (hx : x < W.heap.size) (he : tkExt who gl cl t es w' Le') (hxe : x ∉ Le') (hle : ∀ k ∈ Le', k ∈ Le ∧ k < W.heap.size) : (tkCp who gl P T G p most cl).Land W w' x t Le := by
  obtain ⟨q, Lc, c1, c2, c3, c4⟩ := h
  refine ⟨c3, x :: (Lc ++ Le'), ⟨hok, es, Le', he, hxe, ?_⟩, fun k hm => by simp at hm; rcases hm with rfl | hm | hm; exact .inl rfl; exact .inr (.inr (c4 k hm)); exact .inr (.inl (hle k hm).1)⟩
  rw [hk]
  refine ⟨q, Lc, ?_, c2, fun hm => absurd (c4 x hm) (by omega), (fun k hm h => by have := c4 k hm; have := (hle k h).2; omega), rfl⟩
  have e : (tkFl who p most cl t es none).setIfInBounds 1 (.pointer (some ⟨q, 0, none⟩)) = tkFl who p most cl t es (some ⟨q, 0, none⟩) := by cases t <;> first | rfl | (rename_i o _; cases o <;> rfl)
  rw [e] at c1
  exact c1
theorem tk_land_run {y q g : Nat} {L : List Nat} {af : After} {pt : PlT} (hC : CameBox W w' x (tkFl who p most cl t es none) 106 (fun v => comCells 0 0 0 0 0 false (.iface 38 (.pointer (some ⟨y, 0, none⟩))) v false false) (af.fol.box x) q g) (hM : (plFl who cl).I (plPM gl) w' y pt L) (hL : ∀ k ∈ L, W.heap.size ≤ k) (hq : q ∉ L) (hg : g ∉ L) (hok : (tkCp who gl P T G p most cl).ok t) (hk : (tkCp who gl P T G p most cl).kind t = .run (plSub who gl cl P T G) pt af) (htie : (tkCp who gl P T G p most cl).tie t es y) (hx : x < W.heap.size) (he : tkExt who gl cl t es w' Le') (hxe : x ∉ Le') (hle : ∀ k ∈ Le', k ∈ Le ∧ k < W.heap.size) : (tkCp who gl P T G p most cl).Land W w' x t Le := by
  refine ⟨hC.at'.but, ?_⟩
  have hfq := hC.at'.fresh
  have hfb := hC.fresh
  refine ⟨x :: q :: g :: (L ++ Le'), ⟨hok, es, Le', he, hxe, ?_⟩, fun k hm => ?_⟩
  · rw [hk]
    refine ⟨q, y, g, L, RunAt.of hC (fun nx => ?_), hM, htie, ?_, hq, hg, fun k hm h => ?_, rfl⟩
    · cases t <;> first | rfl | (rename_i o _; cases o <;> rfl)
    · simp only [List.mem_cons, not_or]
      exact ⟨by omega, by omega, fun hm => by have := hL x hm; omega⟩
    · have h2 := (hle k h).2
      simp only [List.mem_cons] at hm
      rcases hm with rfl | rfl | hm
      · omega
      · omega
      · have := hL k hm; omega
  · simp only [List.mem_cons, List.mem_append] at hm
    rcases hm with rfl | rfl | rfl | hm | hm
    · exact .inl rfl
    · exact .inr (.inr hfq)
    · exact .inr (.inr hfb)
    · exact .inr (.inr (hL k hm))
    · exact .inr (.inl (hle k hm).1)
end
end Go.Proofs.Ythhlklfioipmgaa

namespace Go.Proofs.Ythhlklfioipmgaa
open Go Go.RowKit
set_option linter.unusedVariables false
set_option maxRecDepth 100000
set_option linter.unusedSimpArgs false

section
variable {who P T G p most : Int} {cl : Nat}
theorem pl_ok_nx {gl : Int → Int} {q : PlT} {v : Int} (hok : (plFl who cl).ok q) (hv : U64' v) : (plFl who cl).ok ((plPM gl).nx q v) := by
  cases q with
  | ld => by_cases h0 : v = 0 <;> simp [plPM, plFl, h0]
  | lnk y => exact hv
  | un y l => by_cases h0 : l = 0 <;> simp [plPM, plFl, h0]
  | tl y => exact trivial
  | ct y l => exact trivial
  | none' => exact trivial
  | over y l => exact trivial
theorem tk_more (W : World) (x : Nat) (l tl : Int) (f : PlT) (o : Option Addr) (es Le Lf : List Nat) (hP : 1 ≤ P ∧ P ≤ 64) (hT : 0 ≤ T ∧ T ≤ 65536) (hG : 0 ≤ G ∧ G ≤ 65536) (hB : Blk W x (tkCells who none cl p most l (ad (es.getD 0 0)) o tl) 106) (hf : (plFl who cl).I (plPM (fun y => wd (20 + P * 264 + T * 3) G 2 y 1)) W (es.getD 0 0) f Lf) (hl : U64' l) (htl : U64' tl) (hxf : x ∉ Lf) (hLf : ∀ k ∈ Lf, k ∈ Le) :
    Calls Try.prog 90 #[.pointer (some ⟨x, 0, none⟩)] W fun e w' => (∃ u, e = .returned u) ∧ (tkCp who (fun y => wd (20 + P * 264 + T * 3) G 2 y 1) P T G p most cl).Land W w' x (tkMore l f tl) Le := by
  have hgd := Fl.good (pl_laws who P T G cl (by omega) hT hG)
  have hlf := hgd.lt hf
  by_cases h1 : l ≤ 1
  · have e : tkMore l f tl = .over l f none tl := if_pos h1
    rw [e]
    refine (take_more_end W x cl who p most l tl none _ o hB h1).mono ?_
    rintro e w' ⟨hu, hb, hbu⟩
    refine ⟨hu, hbu, x :: Lf, ⟨trivial, es, Lf, hgd.keep hf hbu (fun k hk hm => by simp at hm; exact hxf (hm ▸ hk)), hxf, hb, rfl⟩, fun k hm => ?_⟩
    simp only [List.mem_cons] at hm
    rcases hm with rfl | hm
    · exact .inl rfl
    · exact .inr (.inl (hLf k hm))
  · have e : tkMore l f tl = .oth (l - 1) f .ld tl := if_neg h1
    rw [e]
    refine (take_more_on W x cl who p most l tl P T G none _ o (by omega) hT hG hB ⟨by omega, hl.2⟩).mono ?_
    rintro e w' ⟨hu, y, L, q, g, hC, hM, hL, hq, hg⟩
    have hfk := hgd.keep hf hC.at'.but (fun k hk hm => by simp at hm; exact hxf (hm ▸ hk))
    exact ⟨hu, tk_land_run (t := .oth (l - 1) f .ld tl) (es := [es.getD 0 0, y]) (pt := .ld) (af := .fn 101) hC hM hL hq hg ⟨⟨by have := hl.1; omega, by have := hl.2; omega⟩, rfl, trivial, htl⟩ rfl rfl hB.lt hfk hxf (fun k hk => ⟨hLf k hk, hlf k hk⟩)⟩

set_option maxHeartbeats 4000000 in
theorem tk_laws (hP : 1 ≤ P ∧ P ≤ 64) (hT : 0 ≤ T ∧ T ≤ 65536) (hG : 0 ≤ G ∧ G ≤ 65536) (hm : -9223372036854775808 ≤ most ∧ most ≤ 9223372036854775807) :
    (tkCp who (fun y => wd (20 + P * 264 + T * 3) G 2 y 1) P T G p most cl).Laws (tkPM (fun y => wd (20 + P * 264 + T * 3) G 2 y 1) P p most) (Rd.lay cl P T G) who where
  c0 := fun t es nx => by cases t <;> first | rfl | (rename_i o _; cases o <;> rfl)
  c1 := fun t es nx => by cases t <;> first | rfl | (rename_i o _; cases o <;> rfl)
  set := fun t es nx nx' => by cases t <;> first | rfl | (rename_i o _; cases o <;> rfl)
  k0 := fun t hok hk => by cases t <;> first | rfl | cases hk
  k1 := fun t a f hok hk => by
    cases t with
    | ld => cases hk; exact ⟨rfl, axLd_ok _, ent_tk1⟩
    | tl l f o tl => cases hk; exact ⟨rfl, axLd_ok _, ent_tk4⟩
    | st l f o tl => cases hk; exact ⟨rfl, axSt_ok _ _ (qwd_bd _), ent_tk5⟩
    | ln l f o tl => cases hk; exact ⟨rfl, axSt_ok _ _ (by omega), ent_tk2⟩
    | _ => cases hk
  k2 := fun t S q af hok hk => by
    cases t with
    | fst l q => cases hk; exact ⟨rfl, hok.2.1, ent_tk6, fun a ha => (pl_laws who P T G cl (by omega) hT hG).axok _ a hok.2.2 ha⟩
    | oth l f q tl => cases hk; exact ⟨rfl, hok.2.1, ent_tk3, fun a ha => (pl_laws who P T G cl (by omega) hT hG).axok _ a hok.2.2.1 ha⟩
    | _ => cases hk
  sub := fun t S q af hok hk => by
    have hl := pl_laws who P T G cl (by omega) hT hG
    cases t with
    | fst l q => cases hk; exact ⟨Fl.steps hl stepby_qpull, Fl.good hl, act_qpull, fun w h => h, fun k h => h⟩
    | oth l f q tl => cases hk; exact ⟨Fl.steps hl stepby_qpull, Fl.good hl, act_qpull, fun w h => h, fun k h => h⟩
    | _ => cases hk
  on := fun t S q af v hok hk hv hs => by
    cases t with
    | fst l q =>
      cases hk
      have e : (tkPM (fun y => wd (20 + P * 264 + T * 3) G 2 y 1) P p most).nx (.fst l q) v = .fst l ((plPM (fun y => wd (20 + P * 264 + T * 3) G 2 y 1)).nx q v) := if_pos hs
      rw [e]
      exact ⟨⟨hok.1, hs, pl_ok_nx hok.2.2 hv⟩, rfl, fun _ => rfl, fun _ _ _ h => h, fun _ _ h => h⟩
    | oth l f q tl =>
      cases hk
      have e : (tkPM (fun y => wd (20 + P * 264 + T * 3) G 2 y 1) P p most).nx (.oth l f q tl) v = .oth l f ((plPM (fun y => wd (20 + P * 264 + T * 3) G 2 y 1)).nx q v) tl := if_pos hs
      rw [e]
      exact ⟨⟨hok.1, hs, pl_ok_nx hok.2.2.1 hv, hok.2.2.2⟩, rfl, fun _ => rfl, fun _ _ _ h => h, fun _ _ h => h⟩
    | _ => cases hk
  ekeep := fun t es w w' ll Le he hb hk => by
    have hgd := Fl.good (pl_laws who P T G cl (by omega) hT hG)
    have two : ∀ f o, (∃ Lf Lo, (plFl who cl).I (plPM (fun y => wd (20 + P * 264 + T * 3) G 2 y 1)) w (es.getD 0 0) f Lf ∧ (plFl who cl).I (plPM (fun y => wd (20 + P * 264 + T * 3) G 2 y 1)) w (es.getD 1 0) o Lo ∧ Le = Lf ++ Lo) → (∃ Lf Lo, (plFl who cl).I (plPM (fun y => wd (20 + P * 264 + T * 3) G 2 y 1)) w' (es.getD 0 0) f Lf ∧ (plFl who cl).I (plPM (fun y => wd (20 + P * 264 + T * 3) G 2 y 1)) w' (es.getD 1 0) o Lo ∧ Le = Lf ++ Lo) := by
      rintro f o ⟨Lf, Lo, h1, h2, rfl⟩
      exact ⟨Lf, Lo, hgd.keep h1 hb (fun k hm => hk k (List.mem_append_left _ hm)), hgd.keep h2 hb (fun k hm => hk k (List.mem_append_right _ hm)), rfl⟩
    cases t with
    | ld => exact he
    | none' => exact he
    | fst l q => exact he
    | oth l f q tl => exact hgd.keep he hb hk
    | tl l f o tl => exact two f o he
    | st l f o tl => exact two f o he
    | ln l f o tl => exact two f o he
    | over l f o tl =>
      cases o with
      | none => exact hgd.keep he hb hk
      | some o => exact two f o he
  elt := fun t es w Le he k hk => by
    have hgd := Fl.good (pl_laws who P T G cl (by omega) hT hG)
    have two : ∀ f o, (∃ Lf Lo, (plFl who cl).I (plPM (fun y => wd (20 + P * 264 + T * 3) G 2 y 1)) w (es.getD 0 0) f Lf ∧ (plFl who cl).I (plPM (fun y => wd (20 + P * 264 + T * 3) G 2 y 1)) w (es.getD 1 0) o Lo ∧ Le = Lf ++ Lo) → k < w.heap.size := by
      rintro f o ⟨Lf, Lo, h1, h2, rfl⟩
      rcases List.mem_append.1 hk with hm | hm
      · exact hgd.lt h1 k hm
      · exact hgd.lt h2 k hm
    cases t with
    | ld => rw [show Le = [] from he] at hk; cases hk
    | none' => rw [show Le = [] from he] at hk; cases hk
    | fst l q => rw [show Le = [] from he] at hk; cases hk
    | oth l f q tl => exact hgd.lt he k hk
    | tl l f o tl => exact two f o he
    | st l f o tl => exact two f o he
    | ln l f o tl => exact two f o he
    | over l f o tl =>
      cases o with
      | none => exact hgd.lt he k hk
      | some o => exact two f o he
  fol := fun W x t a f v es Le hok hk hv hB he hxe hR hxR => by
    have hlt := hB.lt
    have hcx : cl ≠ x := fun e => hxR (by rw [e]; exact List.mem_singleton.2 rfl)
    have hgd := Fl.good (pl_laws who P T G cl (by omega) hT hG)
    cases t with
    | fst l q => cases hk
    | oth l f q tl => cases hk
    | none' => cases hk
    | over l f o tl => cases hk
    | ld =>
      cases hk
      obtain rfl : Le = [] := he
      by_cases h0 : v = 0
      · subst h0
        refine (take_begin_none W x).mono ?_
        rintro e w' ⟨hu, rfl⟩
        exact ⟨hu, But.refl _ _, x :: [], ⟨trivial, [], [], rfl, by simp, hB, rfl⟩, fun k hm => by simp at hm; exact .inl hm⟩
      · have e : (tkPM (fun y => wd (20 + P * 264 + T * 3) G 2 y 1) P p most).nx .ld v = .fst (shareOf P most v) .ld := if_neg h0
        rw [e]
        refine (take_begin W x cl who p most 0 0 P T G v none none none hP hR hv hm hT hG hB h0).mono ?_
        rintro e w' ⟨hu, y, L, q, g, hC, hM, hL, hq, hg⟩
        have hC2 : CameBox W w' x (tkFl who p most cl (.fst (shareOf P most v) .ld) [y] none) 106 (fun v => comCells 0 0 0 0 0 false (.iface 38 (.pointer (some ⟨y, 0, none⟩))) v false false) ((After.fn 73).fol.box x) q g := hC
        exact ⟨hu, tk_land_run (t := .fst (shareOf P most v) .ld) (es := [y]) (Le' := []) (pt := .ld) (af := .fn 73) hC2 hM hL hq hg ⟨share_bd hv hm, rfl, trivial⟩ rfl rfl hlt rfl (by simp) (fun k hk => by cases hk)⟩
    | tl l f o tl0 =>
      cases hk
      obtain ⟨Lf, Lo, h1, h2, rfl⟩ := he
      have hxf : x ∉ Lf := fun hm => hxe (List.mem_append_left _ hm)
      have hxo : x ∉ Lo := fun hm => hxe (List.mem_append_right _ hm)
      refine (take_lay2 W x cl who p most l tl0 P T G none _ (ad (es.getD 1 0)) hB hR (by omega) v o.obs hv hcx (fun Y hY => pl_g (hgd.keep h2 hY (fun k hk hm => by simp at hm; exact hxo (hm ▸ hk))))).mono ?_
      rintro e w' ⟨hu, hC⟩
      obtain ⟨q, Lc, c1, c2, c3, c4⟩ := hC
      exact ⟨hu, tk_land_acc (t := .st l f o v) (es := es) (Le' := Lf ++ Lo) ⟨q, Lc, c1, c2, c3, c4⟩ ⟨hok.1, hv⟩ rfl hlt ⟨Lf, Lo, hgd.keep h1 c3 (fun k hk hm => by simp at hm; exact hxf (hm ▸ hk)), hgd.keep h2 c3 (fun k hk hm => by simp at hm; exact hxo (hm ▸ hk)), rfl⟩ hxe (fun k hk => ⟨hk, by rcases List.mem_append.1 hk with h | h; exact hgd.lt h1 k h; exact hgd.lt h2 k h⟩)⟩
    | st l f o tl0 =>
      cases hk
      obtain ⟨Lf, Lo, h1, h2, rfl⟩ := he
      have hxf : x ∉ Lf := fun hm => hxe (List.mem_append_left _ hm)
      have hxo : x ∉ Lo := fun hm => hxe (List.mem_append_right _ hm)
      refine (take_lengthen W x cl who p most l tl0 P T G none _ (ad (es.getD 1 0)) hB hR (by omega) hok.2).mono ?_
      rintro e w' ⟨hu, hC⟩
      obtain ⟨q, Lc, c1, c2, c3, c4⟩ := hC
      exact ⟨hu, tk_land_acc (t := .ln l f o tl0) (es := es) (Le' := Lf ++ Lo) ⟨q, Lc, c1, c2, c3, c4⟩ hok rfl hlt ⟨Lf, Lo, hgd.keep h1 c3 (fun k hk hm => by simp at hm; exact hxf (hm ▸ hk)), hgd.keep h2 c3 (fun k hk hm => by simp at hm; exact hxo (hm ▸ hk)), rfl⟩ hxe (fun k hk => ⟨hk, by rcases List.mem_append.1 hk with h | h; exact hgd.lt h1 k h; exact hgd.lt h2 k h⟩)⟩
    | ln l f o tl0 =>
      cases hk
      obtain ⟨Lf, Lo, h1, h2, rfl⟩ := he
      exact tk_more W x l tl0 f (ad (es.getD 1 0)) es (Lf ++ Lo) Lf hP hT hG hB h1 hok.1 hok.2 (fun hm => hxe (List.mem_append_left _ hm)) (fun k hk => List.mem_append_left _ hk)
  aft := fun W x y t S q af v es Le Li hok hk hv hn hB hin hty he hxe hxi hd hR hxR => by
    have hlt := hB.lt
    have hgd := Fl.good (pl_laws who P T G cl (by omega) hT hG)
    cases t with
    | fst l q =>
      cases hk
      obtain rfl : Le = [] := he
      have hty' : es.getD 0 0 = y := hty
      have hsn : ¬ ((plPM (fun y => wd (20 + P * 264 + T * 3) G 2 y 1)).ax ((plPM (fun y => wd (20 + P * 264 + T * 3) G 2 y 1)).nx q v)).isSome = true := fun h => by rw [show (plPM (fun y => wd (20 + P * 264 + T * 3) G 2 y 1)).ax ((plPM (fun y => wd (20 + P * 264 + T * 3) G 2 y 1)).nx q v) = none from hn] at h; cases h
      have hin' : (plFl who cl).I (plPM (fun y => wd (20 + P * 264 + T * 3) G 2 y 1)) W (es.getD 0 0) ((plPM (fun y => wd (20 + P * 264 + T * 3) G 2 y 1)).nx q v) Li := by rw [hty']; exact hin
      by_cases ho : ((plPM (fun y => wd (20 + P * 264 + T * 3) G 2 y 1)).nx q v).obs = -1
      · have e : (tkPM (fun y => wd (20 + P * 264 + T * 3) G 2 y 1) P p most).nx (.fst l q) v = .over l ((plPM (fun y => wd (20 + P * 264 + T * 3) G 2 y 1)).nx q v) none 0 := (if_neg hsn).trans (if_pos ho)
        rw [e]
        refine (take_others_none W x cl who p most l 0 none _ none hB (fun Y hY => by have := pl_g (hgd.below hin' hY); rw [ho] at this; exact this)).mono ?_
        rintro e w' ⟨hu, rfl⟩
        refine ⟨hu, But.refl _ _, x :: Li, ⟨trivial, es, Li, hin', hxi, hB, rfl⟩, fun k hm => ?_⟩
        simp only [List.mem_cons, List.mem_append] at hm ⊢
        rcases hm with rfl | hm
        · exact .inl rfl
        · exact .inr (.inl (.inl hm))
      · have e : (tkPM (fun y => wd (20 + P * 264 + T * 3) G 2 y 1) P p most).nx (.fst l q) v = tkMore l ((plPM (fun y => wd (20 + P * 264 + T * 3) G 2 y 1)).nx q v) 0 := (if_neg hsn).trans (if_neg ho)
        rw [e]
        exact take_others_some W x cl who p most l 0 _ none _ none hB ho (fun Y hY => pl_g (hgd.below hin' hY)) _ (tk_more W x l 0 _ none es (Li ++ []) Li hP hT hG hB hin' hok.1 ⟨by omega, by omega⟩ hxi (fun k hk => List.mem_append_left _ hk))
    | oth l f q tl0 =>
      cases hk
      have hty' : es.getD 1 0 = y := hty
      have hxo : x ∉ Li := hxi
      have hin' : (plFl who cl).I (plPM (fun y => wd (20 + P * 264 + T * 3) G 2 y 1)) W (es.getD 1 0) ((plPM (fun y => wd (20 + P * 264 + T * 3) G 2 y 1)).nx q v) Li := by rw [hty']; exact hin
      have hef : (plFl who cl).I (plPM (fun y => wd (20 + P * 264 + T * 3) G 2 y 1)) W (es.getD 0 0) f Le := he
      have hsn : ¬ ((plPM (fun y => wd (20 + P * 264 + T * 3) G 2 y 1)).ax ((plPM (fun y => wd (20 + P * 264 + T * 3) G 2 y 1)).nx q v)).isSome = true := fun h => by rw [show (plPM (fun y => wd (20 + P * 264 + T * 3) G 2 y 1)).ax ((plPM (fun y => wd (20 + P * 264 + T * 3) G 2 y 1)).nx q v) = none from hn] at h; cases h
      by_cases ho : ((plPM (fun y => wd (20 + P * 264 + T * 3) G 2 y 1)).nx q v).obs = -1
      · have e : (tkPM (fun y => wd (20 + P * 264 + T * 3) G 2 y 1) P p most).nx (.oth l f q tl0) v = .over l f (some ((plPM (fun y => wd (20 + P * 264 + T * 3) G 2 y 1)).nx q v)) tl0 := (if_neg hsn).trans (if_pos ho)
        rw [e]
        refine (take_look_none W x cl who p most l tl0 none _ (ad (es.getD 1 0)) hB (fun Y hY => by have := pl_g (hgd.below hin' hY); rw [ho] at this; exact this)).mono ?_
        rintro e w' ⟨hu, rfl⟩
        refine ⟨hu, But.refl _ _, x :: (Le ++ Li), ⟨trivial, es, Le ++ Li, ⟨Le, Li, hef, hin', rfl⟩, fun hm => by rcases List.mem_append.1 hm with h | h; exact hxe h; exact hxi h, hB, rfl⟩, fun k hm => ?_⟩
        simp only [List.mem_cons, List.mem_append] at hm ⊢
        rcases hm with rfl | hm | hm
        · exact .inl rfl
        · exact .inr (.inl (.inr hm))
        · exact .inr (.inl (.inl hm))
      · have e : (tkPM (fun y => wd (20 + P * 264 + T * 3) G 2 y 1) P p most).nx (.oth l f q tl0) v = .tl l f ((plPM (fun y => wd (20 + P * 264 + T * 3) G 2 y 1)).nx q v) tl0 := (if_neg hsn).trans (if_neg ho)
        rw [e]
        refine (take_look_some W x cl who p most l tl0 P T G none _ (ad (es.getD 1 0)) hB hR (by omega) _ ho (fun Y hY => pl_g (hgd.below hin' hY))).mono ?_
        rintro e w' ⟨hu, hC⟩
        obtain ⟨qq, Lc, c1, c2, c3, c4⟩ := hC
        exact ⟨hu, tk_land_acc (t := .tl l f _ tl0) (es := es) (Le' := Le ++ Li) ⟨qq, Lc, c1, c2, c3, c4⟩ ⟨hok.1, hok.2.2.2⟩ rfl hlt ⟨Le, Li, hgd.keep hef c3 (fun k hk hm => by simp at hm; exact hxe (hm ▸ hk)), hgd.keep hin' c3 (fun k hk hm => by simp at hm; exact hxo (hm ▸ hk)), rfl⟩ (fun hm => by rcases List.mem_append.1 hm with h | h; exact hxe h; exact hxi h) (fun k hk => by
          rcases List.mem_append.1 hk with h | h
          · exact ⟨List.mem_append_right _ h, hgd.lt hef k h⟩
          · exact ⟨List.mem_append_left _ h, hgd.lt hin' k h⟩)⟩
    | _ => cases hk

theorem tk_fresh (w : World) (gl : Int → Int) :
    Calls Try.prog 29 #[.pointer (some ⟨cl, 0, none⟩), .int .i64 who, .int .i64 p, .int .i64 most] w fun e w' => ∃ x L, e = .returned (.pointer (some ⟨x, 0, none⟩)) ∧ (tkCp who gl P T G p most cl).I w' x .ld L ∧ Below w.heap.size w w' ∧ (∀ k ∈ L, w.heap.size ≤ k) := by
  refine (take_new w cl who p most).mono ?_
  rintro e w' ⟨x, q, Lc, rfl, h1, h2, h3, h4, h5, h6⟩
  refine ⟨x, x :: (Lc ++ []), rfl, ⟨trivial, [], [], rfl, by simp, q, Lc, h1, h2, h3, (fun k _ h => by cases h), rfl⟩, h4, fun k hk => ?_⟩
  simp at hk
  rcases hk with rfl | hk
  · exact h6
  · exact h5 k hk
/-- Which one is taken, of a machine that is over. -/
theorem tk_g {gl : Int → Int} {w : World} {x : Nat} {L : List Nat} {l tl : Int} {f : PlT} {o : Option PlT} (h : (tkCp who gl P T G p most cl).I w x (.over l f o tl) L) :
    Calls Try.prog 33 #[.pointer (some ⟨x, 0, none⟩)] w fun e w' => e = .returned (.int .i64 f.obs) ∧ w = w' := by
  obtain ⟨hok, es, Le, he, hxe, h⟩ := h
  obtain ⟨hb, -⟩ := h
  cases o with
  | none => exact take_g w x cl who p most l tl f.obs none _ none hb (pl_g he)
  | some o =>
    obtain ⟨Lf, Lo, h1, h2, -⟩ := he
    exact take_g w x cl who p most l tl f.obs none _ _ hb (pl_g h1)
end
end Go.Proofs.Ythhlklfioipmgaa

namespace Go.Proofs.Ythhlklfioipmgaa
open Go Go.RowKit
set_option linter.unusedVariables false
set_option maxRecDepth 100000
set_option linter.unusedSimpArgs false

theorem row_mono2 {w : World} {base base' : Nat} {e : TypeId} {size : Nat} {v : Value} {n : Nat} {xs : List Value} (h : w.ownsRow base e size v n xs) (hb : base' ≤ base) : w.ownsRow base' e size v n xs := by
  refine ⟨h.1, ?_⟩
  rcases h.2 with h0 | ⟨gb, cp, cur, e0, hb0, rest⟩
  · exact .inl h0
  · exact .inr ⟨gb, cp, cur, e0, Nat.le_trans hb hb0, rest⟩
theorem qlist_link (w : World) (bx cl : Nat) (P T G : Int) (hp : 0 ≤ P ∧ P ≤ 64) (hT : 0 ≤ T ∧ T ≤ 65536) (hG : G ≤ 65536) (hb : Blk w bx #[.pointer (some ⟨cl, 0, none⟩)] 23) (hl : Lay w cl P T G) (g : Int) :
    Calls Try.prog 44 #[.int .i64 g, .pointer (some ⟨bx, 0, none⟩)] w fun e w' => e = .returned (.int .i64 (wd (20 + P * 264 + T * 3) G 2 g 1)) ∧ Below w.heap.size w w' := by
  have c0 := hb.cell 0 (v := .pointer (some ⟨cl, 0, none⟩)) rfl
  have hW := g_word cl P T G g 1 w hl hp hT hG
  clear hb hl hp hT hG
  go_enter Try.func44, Try.ntmps44
  go_wp2_with fail
  go_at_call 45; refine hW.mono ?_; rintro e w1 ⟨rfl, h1⟩
  go_wp2_with fail
  go_ret
  exact ⟨rfl, h1⟩

set_option maxHeartbeats 4000000 in
theorem qlist_any (w : World) (A : Option Addr) (cap c b n cl : Nat) (s : St) (P T G : Int) (hI : Is w 92 A cap c b n s) (hn : n ≤ 1000000) (hl : Lay w cl P T G) (hp : 0 ≤ P ∧ P ≤ 64) (hT : 0 ≤ T ∧ T ≤ 65536) (hG : 0 ≤ G ∧ G ≤ 65536) :
    Calls Try.prog 13 #[.pointer (some ⟨cl, 0, none⟩), .pointer (some ⟨c, 0, none⟩)] w fun e w' => ∃ v, e = .returned (.tuple #[v, .bool (lsOf (fun g => peekT n s (wd (20 + P * 264 + T * 3) G 2 g 1)) G (peekT n s 6)).2]) ∧ IntsOn w' w.heap.size v (lsOf (fun g => peekT n s (wd (20 + P * 264 + T * 3) G 2 g 1)) G (peekT n s 6)).1 ∧ Below w.heap.size w w' := by
  have hbx : Hid (Blk (w.alloc (.cells #[.pointer (some ⟨cl, 0, none⟩)] 23)) w.heap.size #[.pointer (some ⟨cl, 0, none⟩)] 23) := Blk.new _ _ _
  have HB : Hid (Below w.heap.size w (w.alloc (.cells #[.pointer (some ⟨cl, 0, none⟩)] 23))) := (Below.refl _ _).alloc (Nat.le_refl _) _
  have hfc := field_c2
  have hW : ∀ Y, Calls Try.prog 42 #[.pointer (some ⟨cl, 0, none⟩), .int .i64 6] Y fun e w' => e = .returned (.int .i64 6) ∧ Y = w' := fun Y => glob_word_6 Y cl
  have HC : Hid (∀ Y, Below w.heap.size w Y → Calls Try.prog 43 #[.pointer (some ⟨cl, 0, none⟩)] Y fun e w' => e = .returned (.agg #[.int .i64 P, .int .i64 T, .int .i64 G]) ∧ Below Y.heap.size Y w') := fun Y hY => config_any _ P T G Y (.some cl (hl.below hY hl.lt))
  have hent : Ent 44 := fun args w => by kernel_rfl
  have HL : Hid (∀ Y, Below w.heap.size w Y → Blk Y w.heap.size #[.pointer (some ⟨cl, 0, none⟩)] 23 → Calls Try.prog 41 #[.pointer (some ⟨c, 0, none⟩), .int .i64 6, .int .i64 G, .func (.func 44) #[] #[.pointer (some ⟨w.heap.size, 0, none⟩)]] Y fun e w' => ∃ v, e = .returned (.tuple #[v, .bool (lsOf (fun g => peekT n s (wd (20 + P * 264 + T * 3) G 2 g 1)) G (peekT n s 6)).2]) ∧ IntsOn w' w.heap.size v (lsOf (fun g => peekT n s (wd (20 + P * 264 + T * 3) G 2 g 1)) G (peekT n s 6)).1 ∧ Below Y.heap.size Y w') := fun Y hY hB => by
    refine (links_any Y A cap c b n s 6 G 44 w.heap.size (fun g => wd (20 + P * 264 + T * 3) G 2 g 1) (hI.below hY) hn hG hent (fun W hW g => qlist_link W w.heap.size cl P T G hp hT hG.2 (hB.but (But.of_below (l := []) hW) (by simp)) (hl.below (seq hY hW) hl.lt) g)).mono ?_
    rintro e w' ⟨v, rfl, h1, h2⟩
    exact ⟨v, rfl, ⟨row_mono2 h1.own (by have := hY.size; omega)⟩, h2⟩
  generalize lsOf (fun g => peekT n s (wd (20 + P * 264 + T * 3) G 2 g 1)) G (peekT n s 6) = r at *
  clear hI hl hn hp hT hG hent
  go_enter Try.func13, Try.ntmps13
  go_wp2_with fail
  have hsz : (w.alloc (.cells #[.pointer (some ⟨cl, 0, none⟩)] 23)).heap.size = w.heap.size + 1 := World.size_alloc _ _
  generalize hY0 : w.alloc (.cells #[.pointer (some ⟨cl, 0, none⟩)] 23) = Y at *
  have k0 := hbx.out.cell 0 (v := .pointer (some ⟨cl, 0, none⟩)) rfl
  have hC := HC.out Y.drew HB.out.drew
  have HS : Hid (∀ w4, Below Y.drew.heap.size Y.drew w4 → w4.cell? ⟨w.heap.size, 0, none⟩ = some (.pointer (some ⟨cl, 0, none⟩)) ∧ Calls Try.prog 41 #[.pointer (some ⟨c, 0, none⟩), .int .i64 6, .int .i64 G, .func (.func 44) #[] #[.pointer (some ⟨w.heap.size, 0, none⟩)]] w4 fun e w' => ∃ v, e = .returned (.tuple #[v, .bool r.2]) ∧ IntsOn w' w.heap.size v r.1 ∧ Below w.heap.size w w') := fun w4 k => by
    have h1 : Below w.heap.size w w4 := HB.out.trans ((show Below Y.heap.size Y w4 from (Below.refl _ Y).drew.trans k).mono (by omega))
    have h2 : Blk w4 w.heap.size #[.pointer (some ⟨cl, 0, none⟩)] 23 := hbx.out.drew.but (But.of_below (l := []) k) (by simp)
    refine ⟨h2.cell 0 rfl, (HL.out w4 h1 h2).mono ?_⟩
    rintro e w' ⟨v, rfl, h3, h4⟩
    exact ⟨v, rfl, h3, seq h1 h4⟩
  clear HC HL hbx HB hY0
  go_region_with (first | (go_at_call 42; refine (hW _).mono ?_; rintro e w3 ⟨rfl, rfl⟩) | (go_at_call 43; refine hC.mono ?_; rintro e w4 ⟨rfl, k⟩; obtain ⟨k4, hS⟩ := HS.out _ k) | (go_at_call 41; refine hS.mono ?_; rintro e w5 ⟨v, rfl, h3, h4⟩))
  all_goals
    clear hW hC HS hS k0
    go_wp2_with fail
    go_returns
    exact ⟨v, rfl, h3, h4⟩
end Go.Proofs.Ythhlklfioipmgaa

namespace Go.Proofs.Ythhlklfioipmgaa
open Go Go.RowKit
set_option linter.unusedVariables false
set_option maxRecDepth 100000
set_option linter.unusedSimpArgs false

theorem mny_any (h t : Int) (w : World) (hh : 0 ≤ h ∧ h ≤ 18446744073709551615) (ht : 0 ≤ t ∧ t ≤ 18446744073709551615) :
    Calls Try.prog 66 #[.int .u64 h, .int .u64 t] w fun e w' => e = .returned (.int .u64 ((t - h) % 4294967296)) ∧ w = w' := by
  have e1 : IntKind.u64.wrap (t - h) = (t - h) % 18446744073709551616 := by simp [IntKind.wrap, IntKind.bits, IntKind.signed]
  have hb : 0 ≤ (t - h) % 18446744073709551616 := Int.emod_nonneg _ (by omega)
  have e2 : Int.tmod ((t - h) % 18446744073709551616) 4294967296 = (t - h) % 4294967296 := by
    rw [Int.tmod_eq_emod_of_nonneg hb]
    omega
  have e3 : IntKind.u64.wrap ((t - h) % 4294967296) = (t - h) % 4294967296 := wrap_u64 (by omega)
  go_enter Try.func66, Try.ntmps66
  go_wp2_with fail
  go_ret
  first
    | exact ⟨rfl, rfl⟩
    | exact ⟨by rw [e1, e2, e3], rfl⟩
    | exact ⟨by rw [e1, e2], rfl⟩

theorem lprc_any (o : Option Addr) (P T G n f : Int) (w : World) (h : LayO w P T G o) (hp : 0 ≤ P ∧ P ≤ 64) (hf : 0 ≤ f ∧ f < 8) : Calls Try.prog 51 #[.pointer o, .int .i64 n, .int .i64 f] w fun e w' => e = .returned (.int .i64 (wd 20 P 264 n f)) ∧ Below w.heap.size w w' := by
  have HL : Hid _ := h
  have d1 : decide (8 ≤ f) = false := decide_eq_false (by omega)
  clear h
  go_enter Try.func51, Try.ntmps51
  go_wp2_with fail
  go_at_call 67; refine (procs_any o P T G _ HL.out).mono ?_; rintro e w1 ⟨rfl, h1⟩
  go_wp2_with fail
  go_at_call 64; refine (word_any 20 P 264 n f _ (by omega) (by omega) (by omega)).mono ?_; rintro e w2 ⟨rfl, h2⟩
  have hb := seq h1 h2
  go_wp2_with fail
  go_ret
  exact ⟨rfl, hb⟩

theorem lrng_any (o : Option Addr) (P T G n i : Int) (w : World) (h : LayO w P T G o) (hp : 0 ≤ P ∧ P ≤ 64) (hi : 0 ≤ i ∧ i ≤ 18446744073709551615) : Calls Try.prog 48 #[.pointer o, .int .i64 n, .int .u64 i] w fun e w' => e = .returned (.int .i64 (wd 20 P 264 n (8 + i % 256))) ∧ Below w.heap.size w w' := by
  have HL : Hid _ := h
  have e1 : i.tmod 256 = i % 256 := Int.tmod_eq_emod_of_nonneg (by omega)
  generalize hz : i % 256 = z at *
  have e2 : IntKind.i64.wrap z = z := by simp [IntKind.wrap, IntKind.bits, IntKind.signed]; omega
  have e3 : IntKind.i64.wrap (8 + z) = 8 + z := by simp [IntKind.wrap, IntKind.bits, IntKind.signed]; omega
  have hzb : 0 ≤ z ∧ z < 256 := by omega
  clear h hz hi
  go_enter Try.func48, Try.ntmps48
  go_wp2_with fail
  go_at_call 67; refine (procs_any o P T G _ HL.out).mono ?_; rintro e w1 ⟨rfl, h1⟩
  go_wp2_with fail
  go_at_call 64; refine (word_any 20 P 264 n (8 + z) _ (by omega) (by omega) (by omega)).mono ?_; rintro e w2 ⟨rfl, h2⟩
  have hb := seq h1 h2
  go_wp2_with fail
  go_ret
  exact ⟨rfl, hb⟩


end Go.Proofs.Ythhlklfioipmgaa

namespace Go.Proofs.Ythhlklfioipmgaa
open Go Go.RowKit Go.Maps
set_option linter.unusedVariables false
set_option maxRecDepth 100000
set_option linter.unusedSimpArgs false

theorem rsf_bd {w : World} {T : TypeId} {A : Option Addr} {cap c b n : Nat} {s : St} (h : Is w T A cap c b n s) (i : Int) : 0 ≤ peekT n s i ∧ peekT n s i ≤ 18446744073709551615 := by
  unfold peekT
  split
  · exact h.bd _ (by omega)
  · omega
theorem rsee_any (w : World) (cl : Nat) (P T G p : Int) (A : Option Addr) (cap c b n : Nat) (s : St) (hL : Lay w cl P T G) (hp : 0 ≤ P ∧ P ≤ 64) (hI : Is w 92 A cap c b n s) (hn : n ≤ 1000000) :
    Calls Try.prog 47 #[.pointer (some ⟨cl, 0, none⟩), .pointer (some ⟨c, 0, none⟩), .int .i64 p] w fun e w' => e = .returned (.tuple #[.int .u64 (peekT n s (wd 20 P 264 p 1)), .int .u64 ((peekT n s (wd 20 P 264 p 2) - peekT n s (wd 20 P 264 p 1)) % 4294967296), .int .u64 (peekT n s (wd 20 P 264 p 3))]) ∧ Below w.heap.size w w' := by
  have h1 := fun Y (hY : Lay Y cl P T G) => lprc_any (some ⟨cl, 0, none⟩) P T G p 1 Y (.some cl hY) hp (by omega)
  have h2 := fun Y (hY : Lay Y cl P T G) => lprc_any (some ⟨cl, 0, none⟩) P T G p 2 Y (.some cl hY) hp (by omega)
  have h3 := fun Y (hY : Lay Y cl P T G) => lprc_any (some ⟨cl, 0, none⟩) P T G p 3 Y (.some cl hY) hp (by omega)
  have HL : Hid (∀ Y, Below w.heap.size w Y → Lay Y cl P T G) := fun Y hY => hL.below hY hL.lt
  have HI : Hid (∀ Y, Below w.heap.size w Y → Is Y 92 A cap c b n s) := fun Y hY => hI.below hY
  have b1 := rsf_bd hI (wd 20 P 264 p 1)
  have b2 := rsf_bd hI (wd 20 P 264 p 2)
  generalize wd 20 P 264 p 1 = i1 at *
  generalize wd 20 P 264 p 2 = i2 at *
  generalize wd 20 P 264 p 3 = i3 at *
  have hM := fun w => mny_any (peekT n s i1) (peekT n s i2) w b1 b2
  have P1 := fun Y (h : Is Y 92 A cap c b n s) => peek_any Y A cap c b n s i1 h hn
  have P2 := fun Y (h : Is Y 92 A cap c b n s) => peek_any Y A cap c b n s i2 h hn
  have P3 := fun Y (h : Is Y 92 A cap c b n s) => peek_any Y A cap c b n s i3 h hn
  clear hL hI b1 b2
  generalize peekT n s i1 = v1 at *
  generalize peekT n s i2 = v2 at *
  generalize peekT n s i3 = v3 at *
  go_enter Try.func47, Try.ntmps47
  go_wp2_with fail
  go_at_call 51; refine (h1 w (HL.out w (Below.refl _ _))).mono ?_; rintro e w1 ⟨rfl, k1⟩
  go_wp2_with fail
  go_at_call 14; refine (P1 w1 (HI.out w1 k1)).mono ?_; rintro e w2 ⟨rfl, rfl⟩
  go_wp2_with fail
  go_at_call 51; refine (h2 w1 (HL.out w1 k1)).mono ?_; rintro e w3 ⟨rfl, k3⟩
  have k3' := seq k1 k3
  go_wp2_with fail
  go_at_call 14; refine (P2 w3 (HI.out w3 k3')).mono ?_; rintro e w4 ⟨rfl, rfl⟩
  go_wp2_with fail
  go_at_call 51; refine (h3 w3 (HL.out w3 k3')).mono ?_; rintro e w5 ⟨rfl, k5⟩
  have k5' := seq k3' k5
  go_wp2_with fail
  go_at_call 14; refine (P3 w5 (HI.out w5 k5')).mono ?_; rintro e w6 ⟨rfl, rfl⟩
  go_wp2_with fail
  go_at_call 66; refine (hM w5).mono ?_; rintro e w7 ⟨rfl, rfl⟩
  clear h1 h2 h3 P1 P2 P3 hM
  go_wp2_with fail
  go_returns
  exact ⟨rfl, k5'⟩

/-- A list of words that the call made. -/
structure WordsOn (w : World) (base : Nat) (v : Value) (l : List Int) : Prop where
  own : w.ownsRow base 43 1 v l.length (l.map (Value.int .u64))
theorem WordsOn.below {w w' : World} {base : Nat} {v : Value} {l : List Int} (h : WordsOn w base v l) (hB : Below w.heap.size w w') : WordsOn w' base v l := by
  refine ⟨h.own.1, ?_⟩
  rcases h.own.2 with h0 | ⟨gb, cp, cur, e0, hb, hh, rest⟩
  · exact .inl h0
  · exact .inr ⟨gb, cp, cur, e0, hb, ((But.of_below (l := []) hB).block gb (block_lt hh) (by simp)).trans hh, rest⟩
theorem make_cap (k : Nat) (hk : k ≤ 1000000) (w : World) : (Instr.makeSlice 53 (.int .i64 0) (.int .u64 k)).run Try.prog w = .ok (.slice (some ⟨w.heap.size, 0, none⟩) 0 k) (w.alloc (.cells (zs k) 43)) := by
  obtain ⟨i0, hi, hz0, hz1, hz2⟩ := info_parts info43
  have := run_make (P := Try.prog) w 53 43 i0 (.int .u64 0) Try.underlying53 hi hz0 .i64 .u64 0 k (by omega) (by omega) (by rw [hz2]; omega) (by omega)
  rw [hz1] at this
  simpa [zs, Value.cells] using this
/-- The word at one place of a ring. -/
def rwAt (P p : Int) (n : Nat) (s : St) (h : Int) (i : Nat) : Int := peekT n s (wd 20 P 264 p (8 + IntKind.u64.wrap (h + i) % 256))
def rwL (P p : Int) (n : Nat) (s : St) (h : Int) (k : Nat) : List Int := (List.range k).map (rwAt P p n s h)
theorem rwL_succ (P p : Int) (n : Nat) (s : St) (h : Int) (k : Nat) : rwL P p n s h (k + 1) = rwL P p n s h k ++ [rwAt P p n s h k] := by unfold rwL; rw [List.range_succ, List.map_append]; rfl
theorem rwL_len (P p : Int) (n : Nat) (s : St) (h : Int) (k : Nat) : (rwL P p n s h k).length = k := by unfold rwL; simp
def rMany (P p : Int) (n : Nat) (s : St) : Int := (peekT n s (wd 20 P 264 p 2) - peekT n s (wd 20 P 264 p 1)) % 4294967296
def rK (P p : Int) (n : Nat) (s : St) : Nat := if rMany P p n s ≤ 256 then (rMany P p n s).toNat else 256
set_option maxHeartbeats 4000000 in
theorem rwords_any (w : World) (cl : Nat) (P T G p : Int) (A : Option Addr) (cap c b n : Nat) (s : St) (hL : Lay w cl P T G) (hp : 0 ≤ P ∧ P ≤ 64) (hI : Is w 92 A cap c b n s) (hn : n ≤ 1000000) :
    Calls Try.prog 17 #[.pointer (some ⟨cl, 0, none⟩), .pointer (some ⟨c, 0, none⟩), .int .i64 p] w fun e w' => ∃ v, e = .returned (.tuple #[v, .int .u64 (peekT n s (wd 20 P 264 p 3))]) ∧ WordsOn w' w.heap.size v (rwL P p n s (peekT n s (wd 20 P 264 p 1)) (rK P p n s)) ∧ Below w.heap.size w w' := by
  obtain ⟨i0, hi, hz0, hz1, hz2⟩ := info_parts info43
  have hS := rsee_any w cl P T G p A cap c b n s hL hp hI hn
  have HL : Hid (∀ Y, Below w.heap.size w Y → Lay Y cl P T G) := fun Y hY => hL.below hY hL.lt
  have HI : Hid (∀ Y, Below w.heap.size w Y → Is Y 92 A cap c b n s) := fun Y hY => hI.below hY
  have HRG : Hid (∀ Y, Below w.heap.size w Y → ∀ i, 0 ≤ i ∧ i ≤ 18446744073709551615 → Calls Try.prog 48 #[.pointer (some ⟨cl, 0, none⟩), .int .i64 p, .int .u64 i] Y fun e w' => e = .returned (.int .i64 (wd 20 P 264 p (8 + i % 256))) ∧ Below Y.heap.size Y w') := fun Y hY i hi => lrng_any (some ⟨cl, 0, none⟩) P T G p i Y (.some cl (HL.out Y hY)) hp hi
  have HPK : Hid (∀ Y, Below w.heap.size w Y → ∀ i, Calls Try.prog 14 #[.pointer (some ⟨c, 0, none⟩), .int .i64 i] Y fun e w' => e = .returned (.tuple #[.int .u64 (peekT n s i), .bool (decide (0 ≤ i ∧ i < n))]) ∧ Y = w') := fun Y hY i => peek_any Y A cap c b n s i (HI.out Y hY) hn
  have hmk := fun k (hk : k ≤ 256) w => make_cap k (by omega) w
  have HK : Hid ((rK P p n s : Int) = if rMany P p n s ≤ 256 then rMany P p n s else 256) := by
    have h0 : 0 ≤ rMany P p n s := Int.emod_nonneg _ (by omega)
    show ((rK P p n s : Nat) : Int) = _
    unfold rK
    split <;> omega
  have HKB : Hid (rK P p n s ≤ 256) := by
    have h0 : 0 ≤ rMany P p n s := Int.emod_nonneg _ (by omega)
    show rK P p n s ≤ 256
    unfold rK
    split <;> omega
  rw [show (peekT n s (wd 20 P 264 p 2) - peekT n s (wd 20 P 264 p 1)) % 4294967296 = rMany P p n s from rfl] at hS
  generalize peekT n s (wd 20 P 264 p 1) = hh at *
  generalize peekT n s (wd 20 P 264 p 3) = nn at *
  generalize rMany P p n s = mm at *
  generalize rK P p n s = k at *
  clear hL hI
  go_enter Try.func17, Try.ntmps17
  go_wp2_with fail
  go_at_call 47; refine hS.mono ?_; rintro e w1 ⟨rfl, h1⟩
  have HB1 : Hid (Below w.heap.size w w1) := h1
  clear hS h1
  by_cases hm : mm ≤ 256
  · obtain rfl : mm = (k : Int) := by have := HK.out; rw [if_pos hm] at this; exact this.symm
    have hd : decide (256 < (k : Int)) = false := decide_eq_false (by omega)
    have hmk2 := hmk k HKB.out w1
    go_wp2_with fail
    have hB2 : Below w.heap.size w (w1.alloc (.cells (zs k) 43)) := HB1.out.trans (((Below.refl _ _).alloc (Nat.le_refl _) _).mono HB1.out.size)
    have HR0 : Hid (WordsOn (w1.alloc (.cells (zs k) 43)) w.heap.size (.slice (some ⟨w1.heap.size, 0, none⟩) 0 k) (rwL P p n s hh 0)) := ⟨World.ownsRow_made w1 (zs k) k HB1.out.size (by unfold maxLen; omega) (by rw [Nat.mul_one]; exact size_madeCells _ _)⟩
    have HB2 : Hid (Below w.heap.size w (w1.alloc (.cells (zs k) 43))) := hB2
    generalize w1.alloc (.cells (zs k) 43) = w2 at *
    clear hmk2 hB2 HB1
    go_loopw [11, 28] (fun vv i wr => ∃ (j : Nat) (v : Value), v = vv ∧ j ≤ k ∧ i = .int .u64 j ∧ Hid (WordsOn wr w.heap.size v (rwL P p n s hh j)) ∧ Hid (Below w.heap.size w wr)) (fun vv i _ => k - (intOf i).toNat)
    case atStart => exact ⟨0, _, rfl, Nat.zero_le _, rfl, HR0, HB2⟩
    case round =>
      clear HR0 HB2
      obtain ⟨j, v, rfl, hj, rfl, HV, HB⟩ := hrel
      by_cases hlt : j < k
      · have hk1 : (j : Int) < (k : Int) := by omega
        have hk2 : decide ((j : Int) < (k : Int)) = true := decide_eq_true (by omega)
        obtain ⟨z, hz⟩ : ∃ z, IntKind.u64.wrap (hh + j) = z := ⟨_, rfl⟩
        have hzb : 0 ≤ z ∧ z ≤ 18446744073709551615 := by rw [← hz]; generalize hh + (j : Int) = y; simp [IntKind.wrap, IntKind.bits, IntKind.signed]; omega
        have hR := HRG.out wr HB.out z hzb
        have HX : Hid (rwAt P p n s hh j = peekT n s (wd 20 P 264 p (8 + z % 256))) := by
          show rwAt P p n s hh j = _
          unfold rwAt
          rw [hz]
        go_wp2_with fail
        go_at_call 48; refine hR.mono ?_; rintro e w3 ⟨rfl, h3⟩
        have HB3 : Hid (Below w.heap.size w w3) := seq HB.out h3
        have hP := HPK.out w3 HB3.out (wd 20 P 264 p (8 + z % 256))
        have HV3 : Hid (WordsOn w3 w.heap.size v (rwL P p n s hh j)) := HV.out.below h3
        generalize decide (0 ≤ wd 20 P 264 p (8 + z % 256) ∧ wd 20 P 264 p (8 + z % 256) < n) = zz at *
        rw [← HX.out] at hP
        generalize wd 20 P 264 p (8 + z % 256) = at' at *
        generalize hgw : rwAt P p n s hh j = gv at *
        have HGW : Hid (rwAt P p n s hh j = gv) := hgw
        clear hR h3 HB HV hgw
        go_wp2_with fail
        go_at_call 14; refine hP.mono ?_; rintro e w4 ⟨rfl, rfl⟩
        have hOO := HV3.out.own
        rw [rwL_len] at hOO
        have hsz := HB3.out.size
        clear hP
        go_wp2_with (at_builtin; refine wpList_append_own _ rfl _ _ 53 rfl w.heap.size 43 i0 (.int .u64 0) 1 8 Try.underlying53 hi hz0 hz1 hz2 rfl (by decide) _ _ _ rfl (hOO.alloc _) ⟨w3.heap.size, 0, none⟩ 1 1 [.int .u64 gv] rfl rfl (cell_one_new _ _ _) (ints_oneCell .u64 [gv]) (by unfold maxLen; omega) (by omega) (by simp; omega) ?_; intro v' w5 hown' hgrow2 hnil2)
        have HB5 : Hid (Below w.heap.size w w5) := (HB3.out.alloc HB3.out.size _).grown hgrow2 (by simp; omega) (fun k hk => (hOO.lt k hk).1)
        have HV5 : Hid (WordsOn w5 w.heap.size v' (rwL P p n s hh (j + 1))) := ⟨by
          rw [rwL_len, rwL_succ, List.map_append, HGW.out]
          exact hown'⟩
        have e1 : IntKind.u64.wrap ((j : Int) + 1) = (j : Int) + 1 := wrap_u64 (by omega)
        clear hown' hgrow2 hnil2 hOO
        go_wp2_with fail
        go_roundw
        case rel => exact ⟨j + 1, v', rfl, by omega, by go_num, HV5, HB5⟩
        case measure => simp [intOf]; omega
      · obtain rfl : j = k := by omega
        have hk2 : decide ((j : Int) < (j : Int)) = false := by simp
        have HF : Hid (WordsOn wr w.heap.size v (rwL P p n s hh j)) := HV.out
        have HBF : Hid _ := HB.out
        clear HV HB
        go_wp2_with fail
        go_returns
        exact ⟨v, rfl, HF.out, HBF.out⟩
  · obtain rfl : k = 256 := by have := HK.out; rw [if_neg hm] at this; omega
    have hd : decide (256 < mm) = true := decide_eq_true (by omega)
    have hmk2 : (Instr.makeSlice 53 (.int .i64 0) (.int .u64 256)).run Try.prog w1 = .ok (.slice (some ⟨w1.heap.size, 0, none⟩) 0 256) (w1.alloc (.cells (zs 256) 43)) := hmk 256 HKB.out w1
    go_wp2_with fail
    have hB2 : Below w.heap.size w (w1.alloc (.cells (zs 256) 43)) := HB1.out.trans (((Below.refl _ _).alloc (Nat.le_refl _) _).mono HB1.out.size)
    have HR0 : Hid (WordsOn (w1.alloc (.cells (zs 256) 43)) w.heap.size (.slice (some ⟨w1.heap.size, 0, none⟩) 0 256) (rwL P p n s hh 0)) := ⟨World.ownsRow_made w1 (zs 256) 256 HB1.out.size (by unfold maxLen; omega) (by rw [Nat.mul_one]; exact size_madeCells _ _)⟩
    have HB2 : Hid (Below w.heap.size w (w1.alloc (.cells (zs 256) 43))) := hB2
    generalize w1.alloc (.cells (zs 256) 43) = w2 at *
    clear hmk2 hB2 HB1
    go_loopw [11, 28] (fun vv i wr => ∃ (j : Nat) (v : Value), v = vv ∧ j ≤ 256 ∧ i = .int .u64 j ∧ Hid (WordsOn wr w.heap.size v (rwL P p n s hh j)) ∧ Hid (Below w.heap.size w wr)) (fun vv i _ => 256 - (intOf i).toNat)
    case atStart => exact ⟨0, _, rfl, Nat.zero_le _, rfl, HR0, HB2⟩
    case round =>
      clear HR0 HB2
      obtain ⟨j, v, rfl, hj, rfl, HV, HB⟩ := hrel
      by_cases hlt : j < 256
      · have hk1 : (j : Int) < (256 : Int) := by omega
        have hk2 : decide ((j : Int) < 256) = true := decide_eq_true (by omega)
        obtain ⟨z, hz⟩ : ∃ z, IntKind.u64.wrap (hh + j) = z := ⟨_, rfl⟩
        have hzb : 0 ≤ z ∧ z ≤ 18446744073709551615 := by rw [← hz]; generalize hh + (j : Int) = y; simp [IntKind.wrap, IntKind.bits, IntKind.signed]; omega
        have hR := HRG.out wr HB.out z hzb
        have HX : Hid (rwAt P p n s hh j = peekT n s (wd 20 P 264 p (8 + z % 256))) := by
          show rwAt P p n s hh j = _
          unfold rwAt
          rw [hz]
        go_wp2_with fail
        go_at_call 48; refine hR.mono ?_; rintro e w3 ⟨rfl, h3⟩
        have HB3 : Hid (Below w.heap.size w w3) := seq HB.out h3
        have hP := HPK.out w3 HB3.out (wd 20 P 264 p (8 + z % 256))
        have HV3 : Hid (WordsOn w3 w.heap.size v (rwL P p n s hh j)) := HV.out.below h3
        generalize decide (0 ≤ wd 20 P 264 p (8 + z % 256) ∧ wd 20 P 264 p (8 + z % 256) < n) = zz at *
        rw [← HX.out] at hP
        generalize wd 20 P 264 p (8 + z % 256) = at' at *
        generalize hgw : rwAt P p n s hh j = gv at *
        have HGW : Hid (rwAt P p n s hh j = gv) := hgw
        clear hR h3 HB HV hgw
        go_wp2_with fail
        go_at_call 14; refine hP.mono ?_; rintro e w4 ⟨rfl, rfl⟩
        have hOO := HV3.out.own
        rw [rwL_len] at hOO
        have hsz := HB3.out.size
        clear hP
        go_wp2_with (at_builtin; refine wpList_append_own _ rfl _ _ 53 rfl w.heap.size 43 i0 (.int .u64 0) 1 8 Try.underlying53 hi hz0 hz1 hz2 rfl (by decide) _ _ _ rfl (hOO.alloc _) ⟨w3.heap.size, 0, none⟩ 1 1 [.int .u64 gv] rfl rfl (cell_one_new _ _ _) (ints_oneCell .u64 [gv]) (by unfold maxLen; omega) (by omega) (by simp; omega) ?_; intro v' w5 hown' hgrow2 hnil2)
        have HB5 : Hid (Below w.heap.size w w5) := (HB3.out.alloc HB3.out.size _).grown hgrow2 (by simp; omega) (fun k hk => (hOO.lt k hk).1)
        have HV5 : Hid (WordsOn w5 w.heap.size v' (rwL P p n s hh (j + 1))) := ⟨by
          rw [rwL_len, rwL_succ, List.map_append, HGW.out]
          exact hown'⟩
        have e1 : IntKind.u64.wrap ((j : Int) + 1) = (j : Int) + 1 := wrap_u64 (by omega)
        clear hown' hgrow2 hnil2 hOO
        go_wp2_with fail
        go_roundw
        case rel => exact ⟨j + 1, v', rfl, by omega, by go_num, HV5, HB5⟩
        case measure => simp [intOf]; omega
      · obtain rfl : j = 256 := by omega
        have hk2 : decide (((256 : Nat) : Int) < 256) = false := by decide
        have HF : Hid (WordsOn wr w.heap.size v (rwL P p n s hh 256)) := HV.out
        have HBF : Hid _ := HB.out
        clear HV HB
        go_wp2_with fail
        go_returns
        exact ⟨v, rfl, HF.out, HBF.out⟩
end Go.Proofs.Ythhlklfioipmgaa

namespace Go.Proofs.Ythhlklfioipmgaa
open Go Go.RowKit Go.Maps
set_option linter.unusedVariables false
set_option maxRecDepth 100000
set_option linter.unusedSimpArgs false

def gsOk (G w : Int) : Bool := decide (w ≠ 0 ∧ w ≤ G)
def gsL (G : Int) (l : List Int) : List Int := (l.filter (gsOk G)).map gw
def rwN (nx : Int) (l : List Int) : List Int := if nx = 0 then l else l ++ [nx]
theorem gsL_snoc (G : Int) (l : List Int) (x : Int) : gsL G (l ++ [x]) = if gsOk G x = true then gsL G l ++ [gw x] else gsL G l := by
  unfold gsL
  rw [List.filter_append]
  cases h : gsOk G x
  · simp [List.filter, h]
  · simp [List.filter, h]
theorem WordsOn.cell {w : World} {base : Nat} {v : Value} {l : List Int} (h : WordsOn w base v l) {j : Nat} (hj : j < l.length) : ∃ gb cap, v = .slice (some ⟨gb, 0, none⟩) l.length cap ∧ gb < w.heap.size ∧ w.cell? ⟨gb, j, none⟩ = some (.int .u64 (l.getD j 0)) := by
  rcases h.own.2 with ⟨e, h0⟩ | ⟨gb, cp, cur, e, hb, hh, hnc, hcm, hcs, htk⟩
  · omega
  · subst e
    refine ⟨gb, cp, rfl, block_lt hh, ?_⟩
    have hc := h.own.cellAt j (by omega)
    rw [List.getElem?_map, List.getElem?_eq_getElem hj] at hc
    rw [List.getD_eq_getElem?_getD, List.getElem?_eq_getElem hj]
    exact hc
theorem WordsOn.slice {w : World} {base : Nat} {v : Value} {l : List Int} (h : WordsOn w base v l) : ∃ A cap, v = .slice A l.length cap := by
  rcases h.own.2 with ⟨e0, h0⟩ | ⟨gb, cp, cur, e0, hb, hh, rest⟩
  · exact ⟨none, 0, by rw [e0, h0]⟩
  · exact ⟨_, _, e0⟩
theorem RI.IntsOn.mono {w : World} {base base' : Nat} {v : Value} {l : List Int} (h : RI.IntsOn w base v l) (hb : base' ≤ base) : RI.IntsOn w base' v l := by
  refine ⟨h.own.1, ?_⟩
  rcases h.own.2 with h0 | ⟨gb, cp, cur, e0, hb0, rest⟩
  · exact .inl h0
  · exact .inr ⟨gb, cp, cur, e0, Nat.le_trans hb hb0, rest⟩
/-- All goroutines that are seen, and whether all are some. -/
def rgsL (P G p : Int) (n : Nat) (s : St) : List Int := rwN (peekT n s (wd 20 P 264 p 3)) (rwL P p n s (peekT n s (wd 20 P 264 p 1)) (rK P p n s))
theorem rgsL_bd {w : World} {T : TypeId} {A : Option Addr} {cap c b n : Nat} {s : St} (hI : Is w T A cap c b n s) (P G p : Int) : ∀ x ∈ rgsL P G p n s, 0 ≤ x ∧ x ≤ 18446744073709551615 := by
  intro x hx
  unfold rgsL rwN at hx
  have h1 : ∀ x ∈ rwL P p n s (peekT n s (wd 20 P 264 p 1)) (rK P p n s), 0 ≤ x ∧ x ≤ 18446744073709551615 := by
    intro x hx
    unfold rwL at hx
    obtain ⟨i, -, rfl⟩ := List.mem_map.1 hx
    exact rsf_bd hI _
  split at hx
  · exact h1 x hx
  · rcases List.mem_append.1 hx with h | h
    · exact h1 x h
    · rw [List.mem_singleton.1 h]; exact rsf_bd hI _
theorem rK_le (P p : Int) (n : Nat) (s : St) : rK P p n s ≤ 256 := by
  have h0 : 0 ≤ rMany P p n s := Int.emod_nonneg _ (by omega)
  unfold rK
  split <;> omega

set_option maxHeartbeats 4000000 in
theorem rgs_any (w : World) (cl : Nat) (P T G p : Int) (A : Option Addr) (cap c b n : Nat) (s : St) (hL : Lay w cl P T G) (hp : 0 ≤ P ∧ P ≤ 64) (hG : 0 ≤ G ∧ G ≤ 65536) (hI : Is w 92 A cap c b n s) (hn : n ≤ 1000000) :
    Calls Try.prog 31 #[.pointer (some ⟨cl, 0, none⟩), .pointer (some ⟨c, 0, none⟩), .int .i64 p] w fun e w' => ∃ v, e = .returned (.tuple #[v, .bool (decide (rMany P p n s ≤ 256) && (rgsL P G p n s).all (gsOk G))]) ∧ RI.IntsOn w' w.heap.size v (gsL G (rgsL P G p n s)) ∧ Below w.heap.size w w' := by
  obtain ⟨i0, hi, hz0, hz1, hz2⟩ := info_parts info43
  obtain ⟨i3, hi3, hz03, hz13, hz23⟩ := info_parts RI.lists_info3
  have hS := rsee_any w cl P T G p A cap c b n s hL hp hI hn
  have HW : Hid (∀ Y, Below w.heap.size w Y → Calls Try.prog 17 #[.pointer (some ⟨cl, 0, none⟩), .pointer (some ⟨c, 0, none⟩), .int .i64 p] Y fun e w' => ∃ v, e = .returned (.tuple #[v, .int .u64 (peekT n s (wd 20 P 264 p 3))]) ∧ WordsOn w' Y.heap.size v (rwL P p n s (peekT n s (wd 20 P 264 p 1)) (rK P p n s)) ∧ Below Y.heap.size Y w') := fun Y hY => rwords_any Y cl P T G p A cap c b n s (hL.below hY hL.lt) hp (hI.below hY) hn
  have HC : Hid (∀ Y, Below w.heap.size w Y → Calls Try.prog 43 #[.pointer (some ⟨cl, 0, none⟩)] Y fun e w' => e = .returned (.agg #[.int .i64 P, .int .i64 T, .int .i64 G]) ∧ Below Y.heap.size Y w') := fun Y hY => config_any _ P T G Y (.some cl (hL.below hY hL.lt))
  have hfc := field_c2
  have HBD : Hid (∀ x ∈ rgsL P G p n s, 0 ≤ x ∧ x ≤ 18446744073709551615) := rgsL_bd hI P G p
  have hkl := rK_le P p n s
  have hll : (rwL P p n s (peekT n s (wd 20 P 264 p 1)) (rK P p n s)).length = rK P p n s := rwL_len _ _ _ _ _ _
  have hRL : rgsL P G p n s = rwN (peekT n s (wd 20 P 264 p 3)) (rwL P p n s (peekT n s (wd 20 P 264 p 1)) (rK P p n s)) := rfl
  rw [show (peekT n s (wd 20 P 264 p 2) - peekT n s (wd 20 P 264 p 1)) % 4294967296 = rMany P p n s from rfl] at hS
  generalize rwL P p n s (peekT n s (wd 20 P 264 p 1)) (rK P p n s) = l0 at *
  generalize peekT n s (wd 20 P 264 p 1) = hh at *
  generalize peekT n s (wd 20 P 264 p 3) = nn at *
  generalize rMany P p n s = mm at *
  generalize rgsL P G p n s = ll at *
  have e3 : IntKind.u64.wrap G = G := wrap_u64 (by omega)
  have HLL : Hid (l0.length ≤ 256 ∧ ll = rwN nn l0) := ⟨by omega, hRL⟩
  clear hL hI hkl hll hRL
  go_enter Try.func31, Try.ntmps31
  go_wp2_with fail
  go_at_call 47; refine hS.mono ?_; rintro e w1 ⟨rfl, h1⟩
  have HB1 : Hid (Below w.heap.size w w1) := h1
  have hW := HW.out w1 h1
  clear hS h1
  generalize hdm : decide (mm ≤ 256) = dm at *
  go_wp2_with fail
  go_at_call 17; refine hW.mono ?_; rintro e w2 ⟨v0, rfl, hv0, h2⟩
  have HV0 : Hid (WordsOn w2 w1.heap.size v0 l0) := hv0
  have HB2 : Hid (Below w.heap.size w w2) := seq HB1.out h2
  have hs12 : Hid (w.heap.size ≤ w1.heap.size ∧ w1.heap.size ≤ w2.heap.size) := ⟨HB1.out.size, h2.size⟩
  clear hW hv0 h2
  by_cases hn0 : nn = 0
  · subst hn0
    have HLE : Hid (ll = l0) := HLL.out.2.trans (if_pos rfl)
    obtain ⟨A0, cp0, rfl⟩ := HV0.out.slice
    have HVX : Hid (WordsOn w2 w1.heap.size (.slice A0 ll.length cp0) ll) := by rw [HLE.out]; exact HV0.out
    have hsX : Hid (w.heap.size ≤ w2.heap.size) := HB2.out.size
    have HBX : Hid (Below w.heap.size w w2) := HB2.out
    have HLN : Hid (ll.length ≤ 257) := (by rw [HLE.out]; have := HLL.out.1; omega : ll.length ≤ 257)
    have hll : (l0.length : Int) = (ll.length : Int) := by rw [HLE.out]
    rw [← HLE.out]
    go_wp2_with fail
    go_loopw [11, 14, 42] (fun rr gg i wr => ∃ (j : Nat) (g : Value), g = gg ∧ j ≤ ll.length ∧ i = .int .i64 j ∧ rr = .bool (dm && (ll.take j).all (gsOk G)) ∧ Hid (RI.IntsOn wr w2.heap.size g (gsL G (ll.take j))) ∧ Hid (Below w2.heap.size w2 wr)) (fun _ _ i _ => ll.length - (intOf i).toNat)
    case atStart => exact ⟨0, _, rfl, Nat.zero_le _, rfl, by simp, ⟨World.ownsRow_nil _ _ _ _⟩, Below.refl _ _⟩
    case round =>
      obtain ⟨j, g, rfl, hj, rfl, rfl, HV, HB⟩ := hrel
      have hln9 : ll.length ≤ 257 := HLN.out
      by_cases hlt : j < ll.length
      · obtain ⟨gb, cp, ea, hgb, hcell⟩ := HVX.out.cell hlt
        injection ea with ea1 ea2 ea3
        subst ea1
        have hk1 : (j : Int) < (ll.length : Int) := by omega
        have hk0 : (0 : Int) ≤ (j : Int) := by omega
        have hc := (HB.out.cell (p := ⟨gb, j, none⟩) hgb).trans hcell
        have HTK : Hid (ll.take (j + 1) = ll.take j ++ [ll.getD j 0]) := by
          show ll.take (j + 1) = _
          rw [List.take_add_one, List.getD_eq_getElem?_getD, List.getElem?_eq_getElem hlt]
          rfl
        have hxb := HBD.out (ll.getD j 0) (by rw [List.getD_eq_getElem?_getD, List.getElem?_eq_getElem hlt]; exact List.getElem_mem hlt)
        generalize ll.getD j 0 = x at *
        generalize hdq : (dm && (ll.take j).all (gsOk G)) = dq
        have HDQ : Hid ((dm && (ll.take j).all (gsOk G)) = dq) := hdq
        clear hcell hdq ea2 ea3
        by_cases h0 : x = 0
        · subst h0
          have HF : Hid ((dm && (ll.take (j + 1)).all (gsOk G)) = false ∧ gsL G (ll.take (j + 1)) = gsL G (ll.take j)) := by
            rw [HTK.out]
            have hk : gsOk G 0 = false := by simp [gsOk]
            exact ⟨by simp [hk], by rw [gsL_snoc, hk]; rfl⟩
          go_wp2_with fail
          go_roundw
          case rel => exact ⟨j + 1, g, rfl, by omega, by go_num, by rw [HF.out.1], (by rw [HF.out.2]; exact HV.out : RI.IntsOn _ _ _ _), HB⟩
          case measure => simp [intOf]; omega
        · have hd0 : (x == 0) = false := by simpa using h0
          have hC := HC.out wr (HBX.out.trans (HB.out.mono hsX.out))
          go_wp2_with fail
          go_at_call 43; refine hC.mono ?_; rintro e w7 ⟨rfl, h7⟩
          have HB7 : Hid (Below w2.heap.size w2 w7) := seq HB.out h7
          have HV7 : Hid (RI.IntsOn w7 w2.heap.size g (gsL G (ll.take j))) := HV.out.keep (But.of_below (l := []) h7) (fun k _ => by simp)
          clear hC h7 hc HV HB
          by_cases hgt : G < x
          · have hdg : decide (G < x) = true := decide_eq_true hgt
            have HF : Hid ((dm && (ll.take (j + 1)).all (gsOk G)) = false ∧ gsL G (ll.take (j + 1)) = gsL G (ll.take j)) := by
              rw [HTK.out]
              have hk : gsOk G x = false := by simp [gsOk]; omega
              exact ⟨by simp [hk], by rw [gsL_snoc, hk]; rfl⟩
            go_wp2_with fail
            go_roundw
            case rel => exact ⟨j + 1, g, rfl, by omega, by go_num, by rw [HF.out.1], (by rw [HF.out.2]; exact HV7.out : RI.IntsOn _ _ _ _), HB7⟩
            case measure => simp [intOf]; omega
          · have hdg : decide (G < x) = false := decide_eq_false hgt
            have HF : Hid ((dm && (ll.take (j + 1)).all (gsOk G)) = dq ∧ gsL G (ll.take (j + 1)) = gsL G (ll.take j) ++ [gw x]) := by
              rw [HTK.out]
              have hk : gsOk G x = true := by simp [gsOk]; omega
              exact ⟨by rw [← HDQ.out]; simp [hk], by rw [gsL_snoc, hk]; rfl⟩
            obtain ⟨y, hy⟩ : ∃ y, IntKind.u64.wrap (x - 1) = y := ⟨_, rfl⟩
            obtain ⟨gx, hgx⟩ : ∃ gx, IntKind.i64.wrap y = gx := ⟨_, rfl⟩
            have HGX : Hid (gw x = gx) := by
              show gw x = gx
              unfold gw; rw [hy, hgx]
            have hOO := HV7.out.own
            have hlj : (gsL G (ll.take j)).length ≤ 257 := by
              unfold gsL
              rw [List.length_map]
              refine Nat.le_trans (List.length_filter_le _ _) ?_
              rw [List.length_take]; have := HLN.out; omega
            have hsz7 := HB7.out.size
            generalize hln : (gsL G (ll.take j)).length = ln at *
            have HLJ : Hid ((gsL G (ll.take j)).length = ln) := hln
            clear hln
            go_wp2_with (at_builtin; refine wpList_append_own _ rfl _ _ 34 rfl w2.heap.size 3 i3 (.int .i64 0) 1 8 Try.underlying34 hi3 hz03 hz13 hz23 rfl (by decide) _ _ _ rfl (hOO.alloc _) ⟨w7.heap.size, 0, none⟩ 1 1 [.int .i64 gx] rfl rfl (cell_one_new _ _ _) (ints_oneCell .i64 [gx]) (by unfold maxLen; omega) (by omega) (by simp; omega) ?_; intro v' w9 hown' hgrow2 hnil2)
            have HB9 : Hid (Below w2.heap.size w2 w9) := (HB7.out.alloc HB7.out.size _).grown hgrow2 (by simp; omega) (fun k hk => (hOO.lt k hk).1)
            have HV9 : Hid (RI.IntsOn w9 w2.heap.size v' (gsL G (ll.take (j + 1)))) := ⟨by
              rw [HF.out.2, List.map_append, List.length_append, HLJ.out, HGX.out]
              exact hown'⟩
            clear hown' hgrow2 hnil2 hOO
            go_wp2_with fail
            go_roundw
            case rel => exact ⟨j + 1, v', rfl, by omega, by go_num, by rw [HF.out.1], HV9, HB9⟩
            case measure => simp [intOf]; omega
      · obtain rfl : j = ll.length := by omega
        have HF : Hid (RI.IntsOn wr w.heap.size g (gsL G ll)) := by
          have := HV.out
          rw [List.take_length] at this
          exact this.mono hsX.out
        have HD : Hid ((dm && (ll.take ll.length).all (gsOk G)) = (dm && ll.all (gsOk G))) := by
          show _ = _
          rw [List.take_length]
        have HBF : Hid (Below w.heap.size w wr) := HBX.out.trans (HB.out.mono hsX.out)
        have hgd : decide ((ll.length : Int) < (ll.length : Int)) = false := by simp
        rw [HD.out]
        clear HV HB
        go_wp2_with fail
        go_returns
        exact ⟨g, by rw [hdm]; rfl, HF.out, HBF.out⟩
  · have hd0 : (nn == 0) = false := by simpa using hn0
    have hd1 : (nn != 0) = true := by simpa using hn0
    have HLE : Hid (ll = l0 ++ [nn]) := HLL.out.2.trans (if_neg hn0)
    have hOO := HV0.out.own
    have hlen := HLL.out.1
    have h12 := hs12.out
    go_wp2_with (at_builtin; refine wpList_append_own _ rfl _ _ 53 rfl w1.heap.size 43 i0 (.int .u64 0) 1 8 Try.underlying53 hi hz0 hz1 hz2 rfl (by decide) _ _ _ rfl (hOO.alloc _) ⟨w2.heap.size, 0, none⟩ 1 1 [.int .u64 nn] rfl rfl (cell_one_new _ _ _) (ints_oneCell .u64 [nn]) (by unfold maxLen; omega) (by omega) (by simp; omega) ?_; intro v' w5 hown' hgrow2 hnil2; generalize hq : l0.length + 1 = q at hown' ⊢; obtain rfl : q = ll.length := (by rw [← hq, HLE.out, List.length_append]; rfl); clear hq; obtain ⟨A0, cp0, rfl⟩ := RI.lists_slice hown')
    have HVX0 : Hid (WordsOn w5 w1.heap.size (.slice A0 ll.length cp0) ll) := ⟨by
      have := hown'
      rw [show ll.map (Value.int .u64) = l0.map (Value.int .u64) ++ [Value.int .u64 nn] by rw [HLE.out, List.map_append]; rfl]
      exact this⟩
    have hbx : Below w.heap.size w w5 := (HB2.out.alloc HB2.out.size _).grown hgrow2 (by simp; omega) (fun k hk => by have := (hOO.lt k hk).1; omega)
    have hsX : Hid (w.heap.size ≤ w5.heap.size) := hbx.size
    have HBX : Hid (Below w.heap.size w w5) := hbx
    have HLN : Hid (ll.length ≤ 257) := (by rw [HLE.out, List.length_append]; have := HLL.out.1; simp; omega : ll.length ≤ 257)
    have HVX : Hid (WordsOn w5 w1.heap.size (.slice A0 ll.length cp0) ll) := HVX0.out
    clear hown' hgrow2 hnil2 hOO hbx HVX0 h12 hlen
    go_loopw [11, 14, 42] (fun rr gg i wr => ∃ (j : Nat) (g : Value), g = gg ∧ j ≤ ll.length ∧ i = .int .i64 j ∧ rr = .bool (dm && (ll.take j).all (gsOk G)) ∧ Hid (RI.IntsOn wr w5.heap.size g (gsL G (ll.take j))) ∧ Hid (Below w5.heap.size w5 wr)) (fun _ _ i _ => ll.length - (intOf i).toNat)
    case atStart => exact ⟨0, _, rfl, Nat.zero_le _, rfl, by simp, ⟨World.ownsRow_nil _ _ _ _⟩, Below.refl _ _⟩
    case round =>
      obtain ⟨j, g, rfl, hj, rfl, rfl, HV, HB⟩ := hrel
      have hln9 : ll.length ≤ 257 := HLN.out
      by_cases hlt : j < ll.length
      · obtain ⟨gb, cp, ea, hgb, hcell⟩ := HVX.out.cell hlt
        injection ea with ea1 ea2 ea3
        subst ea1
        have hk1 : (j : Int) < (ll.length : Int) := by omega
        have hk0 : (0 : Int) ≤ (j : Int) := by omega
        have hc := (HB.out.cell (p := ⟨gb, j, none⟩) hgb).trans hcell
        have HTK : Hid (ll.take (j + 1) = ll.take j ++ [ll.getD j 0]) := by
          show ll.take (j + 1) = _
          rw [List.take_add_one, List.getD_eq_getElem?_getD, List.getElem?_eq_getElem hlt]
          rfl
        have hxb := HBD.out (ll.getD j 0) (by rw [List.getD_eq_getElem?_getD, List.getElem?_eq_getElem hlt]; exact List.getElem_mem hlt)
        generalize ll.getD j 0 = x at *
        generalize hdq : (dm && (ll.take j).all (gsOk G)) = dq
        have HDQ : Hid ((dm && (ll.take j).all (gsOk G)) = dq) := hdq
        clear hcell hdq ea2 ea3
        by_cases h0 : x = 0
        · subst h0
          have HF : Hid ((dm && (ll.take (j + 1)).all (gsOk G)) = false ∧ gsL G (ll.take (j + 1)) = gsL G (ll.take j)) := by
            rw [HTK.out]
            have hk : gsOk G 0 = false := by simp [gsOk]
            exact ⟨by simp [hk], by rw [gsL_snoc, hk]; rfl⟩
          go_wp2_with fail
          go_roundw
          case rel => exact ⟨j + 1, g, rfl, by omega, by go_num, by rw [HF.out.1], (by rw [HF.out.2]; exact HV.out : RI.IntsOn _ _ _ _), HB⟩
          case measure => simp [intOf]; omega
        · have hd0 : (x == 0) = false := by simpa using h0
          have hC := HC.out wr (HBX.out.trans (HB.out.mono hsX.out))
          go_wp2_with fail
          go_at_call 43; refine hC.mono ?_; rintro e w7 ⟨rfl, h7⟩
          have HB7 : Hid (Below w5.heap.size w5 w7) := seq HB.out h7
          have HV7 : Hid (RI.IntsOn w7 w5.heap.size g (gsL G (ll.take j))) := HV.out.keep (But.of_below (l := []) h7) (fun k _ => by simp)
          clear hC h7 hc HV HB
          by_cases hgt : G < x
          · have hdg : decide (G < x) = true := decide_eq_true hgt
            have HF : Hid ((dm && (ll.take (j + 1)).all (gsOk G)) = false ∧ gsL G (ll.take (j + 1)) = gsL G (ll.take j)) := by
              rw [HTK.out]
              have hk : gsOk G x = false := by simp [gsOk]; omega
              exact ⟨by simp [hk], by rw [gsL_snoc, hk]; rfl⟩
            go_wp2_with fail
            go_roundw
            case rel => exact ⟨j + 1, g, rfl, by omega, by go_num, by rw [HF.out.1], (by rw [HF.out.2]; exact HV7.out : RI.IntsOn _ _ _ _), HB7⟩
            case measure => simp [intOf]; omega
          · have hdg : decide (G < x) = false := decide_eq_false hgt
            have HF : Hid ((dm && (ll.take (j + 1)).all (gsOk G)) = dq ∧ gsL G (ll.take (j + 1)) = gsL G (ll.take j) ++ [gw x]) := by
              rw [HTK.out]
              have hk : gsOk G x = true := by simp [gsOk]; omega
              exact ⟨by rw [← HDQ.out]; simp [hk], by rw [gsL_snoc, hk]; rfl⟩
            obtain ⟨y, hy⟩ : ∃ y, IntKind.u64.wrap (x - 1) = y := ⟨_, rfl⟩
            obtain ⟨gx, hgx⟩ : ∃ gx, IntKind.i64.wrap y = gx := ⟨_, rfl⟩
            have HGX : Hid (gw x = gx) := by
              show gw x = gx
              unfold gw; rw [hy, hgx]
            have hOO := HV7.out.own
            have hlj : (gsL G (ll.take j)).length ≤ 257 := by
              unfold gsL
              rw [List.length_map]
              refine Nat.le_trans (List.length_filter_le _ _) ?_
              rw [List.length_take]; have := HLN.out; omega
            have hsz7 := HB7.out.size
            generalize hln : (gsL G (ll.take j)).length = ln at *
            have HLJ : Hid ((gsL G (ll.take j)).length = ln) := hln
            clear hln
            go_wp2_with (at_builtin; refine wpList_append_own _ rfl _ _ 34 rfl w5.heap.size 3 i3 (.int .i64 0) 1 8 Try.underlying34 hi3 hz03 hz13 hz23 rfl (by decide) _ _ _ rfl (hOO.alloc _) ⟨w7.heap.size, 0, none⟩ 1 1 [.int .i64 gx] rfl rfl (cell_one_new _ _ _) (ints_oneCell .i64 [gx]) (by unfold maxLen; omega) (by omega) (by simp; omega) ?_; intro v' w9 hown' hgrow2 hnil2)
            have HB9 : Hid (Below w5.heap.size w5 w9) := (HB7.out.alloc HB7.out.size _).grown hgrow2 (by simp; omega) (fun k hk => (hOO.lt k hk).1)
            have HV9 : Hid (RI.IntsOn w9 w5.heap.size v' (gsL G (ll.take (j + 1)))) := ⟨by
              rw [HF.out.2, List.map_append, List.length_append, HLJ.out, HGX.out]
              exact hown'⟩
            clear hown' hgrow2 hnil2 hOO
            go_wp2_with fail
            go_roundw
            case rel => exact ⟨j + 1, v', rfl, by omega, by go_num, by rw [HF.out.1], HV9, HB9⟩
            case measure => simp [intOf]; omega
      · obtain rfl : j = ll.length := by omega
        have HF : Hid (RI.IntsOn wr w.heap.size g (gsL G ll)) := by
          have := HV.out
          rw [List.take_length] at this
          exact this.mono hsX.out
        have HD : Hid ((dm && (ll.take ll.length).all (gsOk G)) = (dm && ll.all (gsOk G))) := by
          show _ = _
          rw [List.take_length]
        have HBF : Hid (Below w.heap.size w wr) := HBX.out.trans (HB.out.mono hsX.out)
        have hgd : decide ((ll.length : Int) < (ll.length : Int)) = false := by simp
        rw [HD.out]
        clear HV HB
        go_wp2_with fail
        go_returns
        exact ⟨g, by rw [hdm]; rfl, HF.out, HBF.out⟩
end Go.Proofs.Ythhlklfioipmgaa
