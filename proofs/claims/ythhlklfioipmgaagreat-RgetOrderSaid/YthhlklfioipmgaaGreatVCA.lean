/- Machines in one memory that take their turns; lists that are spelled out. -/
import Derived.Test.YthhlklfioipmgaaGreatLaw
import Derived.Test.YthhlklfioipmgaaGreatLinks
import Derived.Test.YthhlklfioipmgaaGreatRp1
import Derived.BigRegion
import Derived.Test.YthhlklfioipmgaaGreatRM3
import Derived.Test.YthhlklfioipmgaaGreatLock2
import Derived.Test.YthhlklfioipmgaaGreatRun_qput
import Derived.Test.YthhlklfioipmgaaGreatRun_rel
import Derived.Test.YthhlklfioipmgaaGreatRun_acq
import Derived.Test.YthhlklfioipmgaaGreatInts
import Derived.Deep.RegionHeldLaw
import Derived.Deep.RegionLawGrows
import Derived.Maps.AppendAt
import Derived.OwnWalk
import Derived.Test.YthhlklfioipmgaaGreatGq3
import Derived.Test.YthhlklfioipmgaaGreatCp
import Derived.Test.YthhlklfioipmgaaGreatLkFl
import Derived.Deep.RegionHeld3
import Derived.Test.YthhlklfioipmgaaGreatRg0
import Derived.Test.YthhlklfioipmgaaGreatGg0
import Derived.Test.YthhlklfioipmgaaGreatRunD
import Derived.Test.YthhlklfioipmgaaGreatLock1
import Derived.Maps.OwnSet
import Derived.ChangeShapes
import Derived.Test.YthhlklfioipmgaaGreatOpen
import Derived.ArgAppend
namespace Go.Proofs.YthhlklfioipmgaaGreat
open Go Go.RowKit
set_option linter.unusedVariables false
set_option maxRecDepth 100000
set_option linter.unusedSimpArgs false

/-- So many steps of a machine. -/
def PM.steps {σ : Type} (M : PM σ) (who : Int) (n : Nat) : Nat → σ × St → σ × St
  | 0, p => p
  | k + 1, p => PM.steps M who n k (M.goT n p.1 p.2, M.goS who n p.1 p.2)
theorem PM.steps_succ {σ : Type} (M : PM σ) (who : Int) (n : Nat) : ∀ (k : Nat) (p : σ × St), M.steps who n (k + 1) p = (M.goT n (M.steps who n k p).1 (M.steps who n k p).2, M.goS who n (M.steps who n k p).1 (M.steps who n k p).2)
  | 0, p => rfl
  | k + 1, p => PM.steps_succ M who n k (M.goT n p.1 p.2, M.goS who n p.1 p.2)
theorem PM.steps_low {σ : Type} (M : PM σ) (who : Int) (n : Nat) {m : Int} : ∀ (k : Nat) (p : σ × St), Low p.2 m → Low (M.steps who n k p).2 (m + k)
  | 0, p, h => h.more (by omega)
  | k + 1, p, h => (PM.steps_low M who n k (M.goT n p.1 p.2, M.goS who n p.1 p.2) (PM.goS_low h)).more (by omega)

/-- A machine over a memory, apart, with what is only read. -/
structure Solo {σ : Type} (I : MI σ) (R : Rd) (W0 w : World) (A : Option Addr) (cap c b n : Nat) (s : St) (x : Nat) (t : σ) (L : List Nat) : Prop where
  mem : Is w 136 A cap c b n s
  mach : I w x t L
  rd : R.P w
  far : ∀ k ∈ L, k ≠ c ∧ k ≠ b ∧ k ∉ R.B
  rfar : c ∉ R.B ∧ b ∉ R.B
  up : W0.heap.size ≤ c ∧ W0.heap.size ≤ b ∧ ∀ k ∈ L, W0.heap.size ≤ k
  rlt : ∀ k ∈ R.B, k < w.heap.size
  below : Below W0.heap.size W0 w
section
variable {σ : Type} {I : MI σ} {M : PM σ} {R Rm : Rd} {W0 w w' : World} {A : Option Addr} {cap c b n : Nat} {s : St} {x : Nat} {t : σ} {L : List Nat}
theorem Solo.still (hG : I.Good M) (h : Solo I R W0 w A cap c b n s x t L) (hb : Below w.heap.size w w') : Solo I R W0 w' A cap c b n s x t L :=
  ⟨h.mem.below hb, hG.below h.mach hb, R.below h.rd hb, h.far, h.rfar, h.up, fun k hk => Nat.lt_of_lt_of_le (h.rlt k hk) hb.size, h.below.trans (hb.mono h.below.size)⟩
theorem Solo.step (hG : I.Good M) {F : Nat} {who : Int} (hS : Steps M I Rm F who) (hRm : ∀ w, R.P w → Rm.P w) (hRb : ∀ k ∈ Rm.B, k ∈ R.B) (h : Solo I R W0 w A cap c b n s x t L) (hn : n ≤ 1000000) (hl : Low s 1000000) :
    Calls Tryz.prog F #[.pointer (some ⟨x, 0, none⟩), .pointer (some ⟨c, 0, none⟩)] w fun e w' => (e = .returned (.bool (M.ax (M.goT n t s)).isNone)) ∧ ∃ L', Solo I R W0 w' A cap c b n (M.goS who n t s) x (M.goT n t s) L' := by
  refine (hS w A cap c b n s x t L h.mach (hRm w h.rd) h.mem hn hl (fun k hk => ⟨(h.far k hk).1, (h.far k hk).2.1, fun hr => (h.far k hk).2.2 (hRb k hr)⟩) ⟨fun hr => h.rfar.1 (hRb c hr), fun hr => h.rfar.2 (hRb b hr)⟩).mono ?_
  rintro e w' ⟨rfl, L', a1, a2, a3, a4⟩
  have hsz := h.below.size
  have k1 := h.mem.lt
  have k2 := h.mem.bl
  refine ⟨rfl, L', a2, a1, R.keep _ _ _ h.rd a3 (fun k hk => ?_), fun k hk => ?_, h.rfar, ⟨h.up.1, h.up.2.1, fun k hk => ?_⟩, fun k hk => Nat.lt_of_lt_of_le (h.rlt k hk) a3.size, h.below.trans (a3.below ?_ hsz)⟩
  · simp only [List.mem_cons, not_or]
    exact ⟨fun e => h.rfar.1 (e ▸ hk), fun e => h.rfar.2 (e ▸ hk), fun hm => (h.far k hm).2.2 hk⟩
  · rcases a4 k hk with h1 | h1
    · exact h.far k h1
    · exact ⟨by omega, by omega, fun hr => by have := h.rlt k hr; omega⟩
  · rcases a4 k hk with h1 | h1
    · exact h.up.2.2 k h1
    · omega
  · intro k hk
    simp only [List.mem_cons] at hk
    rcases hk with rfl | rfl | hk
    · exact h.up.1
    · exact h.up.2.1
    · exact h.up.2.2 k hk
/-- How it begins. -/
theorem Solo.begin {w2 w3 : World} (hm : Is w2 136 A cap c b n s) (hb : Below w2.heap.size w2 w3) (hB2 : Below W0.heap.size W0 w2) (hup : W0.heap.size ≤ c ∧ W0.heap.size ≤ b) (hi : I w3 x t L) (hL : ∀ k ∈ L, w2.heap.size ≤ k) (hr : R.P w2) (hrl : ∀ k ∈ R.B, k < w2.heap.size) (hrf : c ∉ R.B ∧ b ∉ R.B) : Solo I R W0 w3 A cap c b n s x t L := by
  have k1 := hm.lt
  have k2 := hm.bl
  have hsz := hB2.size
  refine ⟨hm.below hb, hi, R.below hr hb, fun k hk => ?_, hrf, ⟨hup.1, hup.2, fun k hk => Nat.le_trans hsz (hL k hk)⟩, fun k hk => Nat.lt_of_lt_of_le (hrl k hk) hb.size, hB2.trans (hb.mono hsz)⟩
  have h1 := hL k hk
  exact ⟨by omega, by omega, fun hr => by have := hrl k hr; omega⟩
end
end Go.Proofs.YthhlklfioipmgaaGreat

namespace Go.Proofs.YthhlklfioipmgaaGreat
open Go Go.RowKit
set_option linter.unusedVariables false
set_option maxRecDepth 100000
set_option linter.unusedSimpArgs false

section
variable {σ : Type} {M : PM σ} {who : Int} {n k : Nat} {t : σ} {s : St} {i v : Int}
theorem steps_no (ha : M.ax t = none) : ∀ k, M.steps who n k (t, s) = (t, s)
  | 0 => rfl
  | k + 1 => by
    show M.steps who n k (M.goT n t s, M.goS who n t s) = _
    have e1 : M.goT n t s = t := by unfold PM.goT; rw [ha]
    have e2 : M.goS who n t s = s := by unfold PM.goS; rw [ha]
    rw [e1, e2]
    exact steps_no ha k
theorem steps_ld (ha : M.ax t = some (axLd i)) (hi : 0 ≤ i ∧ i < n) : ∃ s', M.steps who n (k + 1) (t, s) = M.steps who n k (M.nx t (s.f i.toNat), s') ∧ s'.f = s.f ∧ s'.bad = s.bad := by
  have e1 : M.goT n t s = M.nx t (s.f i.toNat) := by
    unfold PM.goT; rw [ha]
    simp [PM.ans, PM.asl, axLd, actA, Go.Proofs.YthhlklfioipmgaaGreat.ans, hi]
  refine ⟨M.goS who n t s, by show M.steps who n k (M.goT n t s, M.goS who n t s) = _; rw [e1], ?_⟩
  unfold PM.goS; rw [ha]
  simp [PM.asl, axLd, actS, stp, hi]
theorem steps_st (ha : M.ax t = some (axSt i v)) (hi : 0 ≤ i ∧ i < n) : ∃ s', M.steps who n (k + 1) (t, s) = M.steps who n k (M.nx t 0, s') ∧ s'.f = upd s.f i.toNat v ∧ s'.bad = s.bad := by
  have e1 : M.goT n t s = M.nx t 0 := by
    unfold PM.goT; rw [ha]
    simp [PM.ans, PM.asl, axSt, actA]
  refine ⟨M.goS who n t s, by show M.steps who n k (M.goT n t s, M.goS who n t s) = _; rw [e1], ?_⟩
  unfold PM.goS; rw [ha]
  simp [PM.asl, axSt, actS, stp, hi]
theorem steps_ad (ha : M.ax t = some (axAd i v)) (hi : 0 ≤ i ∧ i < n) : ∃ s', M.steps who n (k + 1) (t, s) = M.steps who n k (M.nx t ((s.f i.toNat + v) % 4294967296), s') ∧ s'.f = upd s.f i.toNat ((s.f i.toNat + v) % 4294967296) ∧ s'.bad = s.bad := by
  have e1 : M.goT n t s = M.nx t ((s.f i.toNat + v) % 4294967296) := by
    unfold PM.goT; rw [ha]
    simp [PM.ans, PM.asl, axAd, actA, Go.Proofs.YthhlklfioipmgaaGreat.ans, hi]
  refine ⟨M.goS who n t s, by show M.steps who n k (M.goT n t s, M.goS who n t s) = _; rw [e1], ?_⟩
  unfold PM.goS; rw [ha]
  simp [PM.asl, axAd, actS, stp, hi]
end
theorem upd_at {f : Nat → Int} {i : Nat} {v : Int} : upd f i v i = v := if_pos rfl
theorem upd_ne {f : Nat → Int} {i j : Nat} {v : Int} (h : j ≠ i) : upd f i v j = f j := if_neg h
/-- A list that goes from word to word. -/
def Lnk (lk : Int → Int) : Int → List Int → Prop
  | w, [] => w = 0
  | w, y :: r => w = y + 1 ∧ Lnk lk (lk y) r
theorem Lnk.congr {lk lk' : Int → Int} : ∀ {r : List Int} {w : Int}, (∀ y ∈ r, lk' y = lk y) → Lnk lk w r → Lnk lk' w r
  | [], _, _, h => h
  | y :: r, w, e, h => ⟨h.1, by rw [e y (by simp)]; exact Lnk.congr (fun z hz => e z (by simp [hz])) h.2⟩
theorem lnk_go (nx : Int → Int) (many : Int) : ∀ (r acc : List Int) (w : Int) (f : Nat), Lnk nx w r → (acc ++ r).Nodup → (∀ y ∈ r, 0 ≤ y ∧ y < many) → r.length < f → lsGo nx many f acc w = (acc ++ r, true)
  | [], acc, w, f + 1, h, _, _, _ => by
    have h : w = 0 := h
    rw [lsGo, if_pos h]
    simp
  | y :: r, acc, w, f + 1, h, hnd, hr, hf => by
    obtain ⟨rfl, h2⟩ := h
    have h0 := hr y (by simp)
    have hin : y ∉ acc := fun hm => (List.nodup_append.1 hnd).2.2 y hm y (by simp) rfl
    rw [lsGo, if_neg (by omega), if_neg (by
      rintro (h | h)
      · rw [show y + 1 - 1 = y by omega] at h; exact hin h
      · omega), show y + 1 - 1 = y by omega]
    have := lnk_go nx many r (acc ++ [y]) (nx y) f h2 (by simpa using hnd) (fun z hz => hr z (by simp [hz])) (by simp at hf; omega)
    rw [this]
    simp
theorem lnk_of (nx : Int → Int) (many w : Int) (r : List Int) (h : Lnk nx w r) (hnd : r.Nodup) (hr : ∀ y ∈ r, 0 ≤ y ∧ y < many) : lsOf nx many w = (r, true) := by
  have hlen := nodup_room many.toNat r hnd (fun x hx => by have := hr x hx; omega)
  exact lnk_go nx many r [] w (many.toNat + 1) h (by simpa using hnd) hr (by omega)

section
variable {σ : Type} {M : PM σ} {who : Int} {n k : Nat} {t : σ} {s : St} {i v : Int}
theorem steps_sw {old : Int} (ha : M.ax t = some (axSw i old v)) (hi : 0 ≤ i ∧ i < n) (hold : s.f i.toNat = old) : ∃ s', M.steps who n (k + 1) (t, s) = M.steps who n k (M.nx t 1, s') ∧ s'.f = upd s.f i.toNat v ∧ s'.bad = s.bad := by
  have e1 : M.goT n t s = M.nx t 1 := by
    unfold PM.goT; rw [ha]
    simp [PM.ans, PM.asl, axSw, actA, Go.Proofs.YthhlklfioipmgaaGreat.ans, hi, hold]
  refine ⟨M.goS who n t s, by show M.steps who n k (M.goT n t s, M.goS who n t s) = _; rw [e1], ?_⟩
  unfold PM.goS; rw [ha]
  simp [PM.asl, axSw, actS, stp, hi, hold]
end
theorem steps_add {σ : Type} (M : PM σ) (who : Int) (n : Nat) : ∀ (k m : Nat) (p : σ × St), M.steps who n (k + m) p = M.steps who n m (M.steps who n k p)
  | 0, m, p => by rw [Nat.zero_add]; rfl
  | k + 1, m, p => by
    rw [show k + 1 + m = (k + m) + 1 by omega]
    show M.steps who n (k + m) _ = M.steps who n m (M.steps who n k _)
    exact steps_add M who n k m _
end Go.Proofs.YthhlklfioipmgaaGreat

namespace Go.Proofs.YthhlklfioipmgaaGreat
open Go Go.RowKit
set_option linter.unusedVariables false
set_option maxRecDepth 100000
set_option linter.unusedSimpArgs false

/-- The cells behind Tail: what is given, how many are loaded, what puts them. -/
def rpRest (gv : List Int) (ld : Int) (qu : Option Addr) : List Value := gv.map (Value.int .i64) ++ [.int .i64 ld, .pointer qu]
section
variable {who : Int} {nx : Option Addr} {cl : Nat} {p g : Int} {has : Bool} {nt hd tl : Int} {gv : List Int} {ld : Int} {qu : Option Addr} (h : gv.length = 128)
include h
theorem rp_c137 : (rpCells who nx cl p g has nt hd tl (rpRest gv ld qu))[137]? = some (.int .i64 ld) := by
  unfold rpCells
  rw [List.getElem?_toArray]
  show (rpRest gv ld qu)[128]? = _
  unfold rpRest
  rw [List.getElem?_append_right (by simp [h])]
  simp [h]
theorem rp_c138 : (rpCells who nx cl p g has nt hd tl (rpRest gv ld qu))[138]? = some (.pointer qu) := by
  unfold rpCells
  rw [List.getElem?_toArray]
  show (rpRest gv ld qu)[129]? = _
  unfold rpRest
  rw [List.getElem?_append_right (by simp [h])]
  simp [h]
theorem rp_given (k : Nat) (hk : k < 128) : (rpCells who nx cl p g has nt hd tl (rpRest gv ld qu))[9 + k]? = some (.int .i64 (gv.getD k 0)) := by
  unfold rpCells
  rw [List.getElem?_toArray, Nat.add_comm]
  show (rpRest gv ld qu)[k]? = _
  unfold rpRest
  rw [List.getElem?_append_left (by simp [h]; omega), List.getElem?_map, List.getElem?_eq_getElem (by omega), List.getD_eq_getElem?_getD, List.getElem?_eq_getElem (by omega)]
  rfl
theorem rp_s137 (l' : Int) : (rpCells who nx cl p g has nt hd tl (rpRest gv ld qu)).setIfInBounds 137 (.int .i64 l') = (rpCells who nx cl p g has nt hd tl (rpRest gv l' qu)) := by
  unfold rpCells
  rw [List.setIfInBounds_toArray]
  congr 1
  show _ :: _ :: _ :: _ :: _ :: _ :: _ :: _ :: _ :: (rpRest gv ld qu).set 128 _ = _
  unfold rpRest
  rw [List.set_append_right _ _ (by simp [h])]
  simp [h]
theorem rp_s138 (q' : Option Addr) : (rpCells who nx cl p g has nt hd tl (rpRest gv ld qu)).setIfInBounds 138 (.pointer q') = (rpCells who nx cl p g has nt hd tl (rpRest gv ld q')) := by
  unfold rpCells
  rw [List.setIfInBounds_toArray]
  congr 1
  show _ :: _ :: _ :: _ :: _ :: _ :: _ :: _ :: _ :: (rpRest gv ld qu).set 129 _ = _
  unfold rpRest
  rw [List.set_append_right _ _ (by simp [h])]
  simp [h]
theorem rp_sgiven (k : Nat) (hk : k < 128) (v : Int) : (rpCells who nx cl p g has nt hd tl (rpRest gv ld qu)).setIfInBounds (9 + k) (.int .i64 v) = (rpCells who nx cl p g has nt hd tl (rpRest (gv.set k v) ld qu)) := by
  unfold rpCells
  rw [List.setIfInBounds_toArray, Nat.add_comm 9 k]
  congr 1
  show _ :: _ :: _ :: _ :: _ :: _ :: _ :: _ :: _ :: (rpRest gv ld qu).set k _ = _
  unfold rpRest
  rw [List.set_append_left _ _ (by simp [h]; omega), List.map_set]
end
section
variable (w : World) (x cl : Nat) (who p g P T G nt hd tl : Int) (has : Bool) (gv : List Int) (ld : Int) (qu nx : Option Addr) (hB : Blk w x (rpCells who nx cl p g has nt hd tl (rpRest gv ld qu)) 149) (hl : Lay w cl P T G) (hp : 0 ≤ P ∧ P ≤ 64)
include hB hl hp
set_option maxHeartbeats 2000000 in
theorem rp_lengthen (htb : 0 ≤ tl ∧ tl ≤ 18446744073709551615) : Calls Tryz.prog 183 #[.pointer (some ⟨x, 0, none⟩)] w fun e w' => (∃ v, e = .returned v) ∧ Came w w' x (rpCells who nx cl p g has nt hd tl (rpRest gv ld qu)) 149 (axSt (wd 20 P 264 p 2) ((tl + 1) % 4294967296)) (.untold 199) := by
  have c8 := hB.cell 8 rp_c8
  obtain ⟨a, ha⟩ : ∃ a, IntKind.u64.wrap (tl + 1) = a := ⟨_, rfl⟩
  have ha0 : 0 ≤ a ∧ a ≤ 18446744073709551615 := by rw [← ha]; simp [IntKind.wrap, IntKind.bits, IntKind.signed] <;> omega
  have e1 : a.tmod 4294967296 = (tl + 1) % 4294967296 := by
    rw [Int.tmod_eq_emod_of_nonneg ha0.1, ← ha]; simp [IntKind.wrap, IntKind.bits, IntKind.signed] <;> omega
  have e2 : IntKind.u64.wrap ((tl + 1) % 4294967296) = (tl + 1) % 4294967296 := wrap_u64 (by omega)
  have hPr := rp_proc w.drew x cl who p g P T G nt hd tl has (rpRest gv ld qu) nx hB.drew (hl.below ((Below.refl _ _).drew) hl.lt) hp 2 (by omega)
  generalize hh1 : (tl + 1) % 4294967296 = h1 at *
  have HS : Hid (∀ w4, Below w.drew.heap.size w.drew w4 → Calls Tryz.prog 127 #[.pointer (some ⟨x, 0, none⟩), .int .i64 (wd 20 P 264 p 2), .int .u64 h1, .func (.func 199) #[.pointer (some ⟨x, 0, none⟩)] #[]] w4 fun e w' => (∃ v, e = .returned v) ∧ Came w w' x (rpCells who nx cl p g has nt hd tl (rpRest gv ld qu)) 149 (axSt (wd 20 P 264 p 2) h1) (.untold 199)) := by
    intro w4 k
    have h4 : Blk w4 x (rpCells who nx cl p g has nt hd tl (rpRest gv ld qu)) 149 := hB.drew.but (But.of_below (l := []) k) (by simp)
    refine (came_store w4 x _ 149 h4 rp_size _ _ _).mono ?_
    rintro e w5 ⟨hv, hC⟩
    exact ⟨hv, hC.before ((But.refl [x] w).drew.trans (But.of_below k))⟩
  have hH : Hid (w.drew.cell? ⟨x, 8, none⟩ = some (.int .u64 tl)) := c8
  have KB : Hid (∀ w4, Below w.drew.heap.size w.drew w4 → w4.cell? ⟨x, 8, none⟩ = some (.int .u64 tl)) := fun w4 k => (hB.drew.but (But.of_below (l := []) k) (by simp)).cell 8 rp_c8
  generalize wd 20 P 264 p 2 = at' at *
  have KC : Hid (∀ w5, Came w w5 x (rpCells who nx cl p g has nt hd tl (rpRest gv ld qu)) 149 (axSt at' h1) (.untold 199) → w5.cell? ⟨x, 8, none⟩ = some (.int .u64 tl)) := fun w5 hC => by
    obtain ⟨q, Lc, g1, -⟩ := hC
    rw [rp_s1] at g1
    exact g1.cell 8 rp_c8
  clear hB hl hp hh1 ha0 htb
  go_enter Tryz.func183, Tryz.ntmps183
  go_wp2_with fail
  go_region_held3 (fun w' => w'.cell? ⟨x, 8, none⟩ = some (.int .u64 tl)) (first | exact hH.out | exact KB.out _ ‹_› | exact KC.out _ ‹_›) (first | (go_at_call 140; refine hPr.mono ?_; rintro e w4 ⟨rfl, k⟩) | (go_at_call 127; refine (HS.out _ ‹_›).mono ?_; rintro e w5 ⟨⟨v, rfl⟩, hC⟩))
  all_goals
    clear hPr k HS hH KB KC c8
    go_wp2_with fail
    go_end0
    exact ⟨⟨_, rfl⟩, hC⟩
set_option maxHeartbeats 4000000 in
theorem rp_choose_room (t : Int) (hxc : cl ≠ x) (ht : 0 ≤ t ∧ t ≤ 18446744073709551615) (hh : 0 ≤ hd ∧ hd ≤ 18446744073709551615) (hm : (t - hd) % 4294967296 < 256) : Calls Tryz.prog 168 #[.pointer (some ⟨x, 0, none⟩), .int .u64 t] w fun e w' => (∃ v, e = .returned v) ∧ Came w w' x (rpCells who nx cl p g has nt hd t (rpRest gv ld qu)) 149 (axSt (wd 20 P 264 p (8 + t % 256)) (rpw g)) (.untold 183) := by
  have c8 := hB.cell 8 rp_c8
  have hlt := hB.lt
  have f8 := hB.fro 8
  have hB' : Blk (w.setCell ⟨x, 8, none⟩ (.int .u64 t)) x (rpCells who nx cl p g has nt hd t (rpRest gv ld qu)) 149 := by
    have := hB.set 8 (.int .u64 t)
    rw [rp_s8] at this
    exact this
  have hU : But [x] w (w.setCell ⟨x, 8, none⟩ (.int .u64 t)) := (But.refl _ w).set (g := x) (.inl (by simp)) 8 _
  have hl' : Lay (w.setCell ⟨x, 8, none⟩ (.int .u64 t)) cl P T G := (hU.block cl hl.lt (by simpa using hxc)).trans hl
  generalize hV : w.setCell ⟨x, 8, none⟩ (.int .u64 t) = V at hB' hU hl'
  have c2 := hB'.cell 2 rp_c2
  have c3 := hB'.cell 3 rp_c3
  have c7 := hB'.cell 7 rp_c7
  have hM := fun w => mny_any hd t w hh ht
  have hd1 : decide ((t - hd) % 4294967296 < 256) = true := decide_eq_true hm
  have HRG : Hid (∀ Y, Below V.drew.heap.size V.drew Y → Calls Tryz.prog 95 #[.pointer (some ⟨cl, 0, none⟩), .int .i64 p, .int .u64 t] Y fun e w' => e = .returned (.int .i64 (wd 20 P 264 p (8 + t % 256))) ∧ Below V.drew.heap.size V.drew w') := fun Y k => (lrng_any (some ⟨cl, 0, none⟩) P T G p t Y (.some cl (Lay.below (w := V.drew) hl' k hl'.lt)) hp ht).mono fun e w' hh => ⟨hh.1, k.trans (hh.2.mono k.size)⟩
  have HW : Hid (∀ Y, Below V.drew.heap.size V.drew Y → Calls Tryz.prog 166 #[.pointer (some ⟨x, 0, none⟩)] Y fun e w' => e = .returned (.int .u64 (rpw g)) ∧ Y = w') := fun Y k => rp_word Y x cl who p g nt hd t has (rpRest gv ld qu) nx (hB'.drew.but (But.of_below (l := []) k) (by simp))
  have HS : Hid (∀ w4, Below V.drew.heap.size V.drew w4 → Calls Tryz.prog 127 #[.pointer (some ⟨x, 0, none⟩), .int .i64 (wd 20 P 264 p (8 + t % 256)), .int .u64 (rpw g), .func (.func 183) #[.pointer (some ⟨x, 0, none⟩)] #[]] w4 fun e w' => (∃ v, e = .returned v) ∧ Came w w' x (rpCells who nx cl p g has nt hd t (rpRest gv ld qu)) 149 (axSt (wd 20 P 264 p (8 + t % 256)) (rpw g)) (.untold 183)) := by
    intro w4 k
    have h4 : Blk w4 x (rpCells who nx cl p g has nt hd t (rpRest gv ld qu)) 149 := hB'.drew.but (But.of_below (l := []) k) (by simp)
    refine (came_store w4 x _ 149 h4 rp_size _ _ _).mono ?_
    rintro e w5 ⟨hv, hC⟩
    exact ⟨hv, hC.before (hU.drew.trans (But.of_below k))⟩
  generalize wd 20 P 264 p (8 + t % 256) = at' at *
  generalize (t - hd) % 4294967296 = mm at *
  generalize rpw g = gw' at *
  have hD : Hid (Below V.drew.heap.size V.drew V.drew) := Below.refl _ _
  have hH : Hid (V.drew.cell? ⟨x, 2, none⟩ = some (.pointer (some ⟨cl, 0, none⟩)) ∧ V.drew.cell? ⟨x, 3, none⟩ = some (.int .i64 p)) := ⟨c2, c3⟩
  have KB : Hid (∀ w4, Below V.drew.heap.size V.drew w4 → w4.cell? ⟨x, 2, none⟩ = some (.pointer (some ⟨cl, 0, none⟩)) ∧ w4.cell? ⟨x, 3, none⟩ = some (.int .i64 p)) := fun w4 k => by
    have h4 : Blk w4 x (rpCells who nx cl p g has nt hd t (rpRest gv ld qu)) 149 := hB'.drew.but (But.of_below (l := []) k) (by simp)
    exact ⟨h4.cell 2 rp_c2, h4.cell 3 rp_c3⟩
  have KC : Hid (∀ w5, Came w w5 x (rpCells who nx cl p g has nt hd t (rpRest gv ld qu)) 149 (axSt at' gw') (.untold 183) → w5.cell? ⟨x, 2, none⟩ = some (.pointer (some ⟨cl, 0, none⟩)) ∧ w5.cell? ⟨x, 3, none⟩ = some (.int .i64 p)) := fun w5 hC => by
    obtain ⟨q, Lc, h1, -⟩ := hC
    rw [rp_s1] at h1
    exact ⟨h1.cell 2 rp_c2, h1.cell 3 rp_c3⟩
  clear hB hB' hU hl' hl hp hxc ht hh hm
  go_enter Tryz.func168, Tryz.ntmps168
  go_wp2_with fail
  try rw [hV]
  clear hV c8 f8
  go_at_call 138; refine (hM _).mono ?_; rintro e w1 ⟨rfl, rfl⟩
  clear hM c7
  go_wp2_with fail
  go_region_held3 (fun w' => w'.cell? ⟨x, 2, none⟩ = some (.pointer (some ⟨cl, 0, none⟩)) ∧ w'.cell? ⟨x, 3, none⟩ = some (.int .i64 p)) (first | exact hH.out | exact KB.out _ ‹_› | exact KC.out _ ‹_›) (first | (go_at_call 95; refine (HRG.out _ hD.out).mono ?_; rintro e w4 ⟨rfl, k⟩) | (go_at_call 166; refine (HW.out _ ‹_›).mono ?_; rintro e w6 ⟨rfl, rfl⟩) | (go_at_call 127; refine (HS.out _ ‹_›).mono ?_; rintro e w7 ⟨⟨v, rfl⟩, hC⟩))
  all_goals
    clear HRG HW HS c2 c3 hH KB KC hD
    go_wp2_with fail
    refine bodyPost_ret (results_none rfl _ _ _) rfl ?_
    exact ⟨⟨_, rfl⟩, hC⟩
set_option maxHeartbeats 4000000 in
theorem rp_gather_swap (h128 : ld = 128) (hg : gv.length = 128) (hh : 0 ≤ hd ∧ hd ≤ 18446744073709551615) : Calls Tryz.prog 184 #[.pointer (some ⟨x, 0, none⟩)] w fun e w' => (∃ v, e = .returned v) ∧ Came w w' x (rpCells who nx cl p g has nt hd tl (rpRest gv ld qu)) 149 (axSw (wd 20 P 264 p 1) hd ((hd + 128) % 4294967296)) (.swap 200) := by
  have c137 := hB.cell 137 (rp_c137 hg)
  rw [h128] at c137
  have c7 := hB.cell 7 rp_c7
  obtain ⟨a, ha⟩ : ∃ a, IntKind.u64.wrap (hd + 128) = a := ⟨_, rfl⟩
  have ha0 : 0 ≤ a ∧ a ≤ 18446744073709551615 := by rw [← ha]; simp [IntKind.wrap, IntKind.bits, IntKind.signed] <;> omega
  have e1 : a.tmod 4294967296 = (hd + 128) % 4294967296 := by
    rw [Int.tmod_eq_emod_of_nonneg ha0.1, ← ha]; simp [IntKind.wrap, IntKind.bits, IntKind.signed] <;> omega
  have e2 : IntKind.u64.wrap ((hd + 128) % 4294967296) = (hd + 128) % 4294967296 := wrap_u64 (by omega)
  have hPr := rp_proc w.drew x cl who p g P T G nt hd tl has (rpRest gv ld qu) nx hB.drew (hl.below ((Below.refl _ _).drew) hl.lt) hp 1 (by omega)
  generalize hh1 : (hd + 128) % 4294967296 = h1 at *
  have HS : Hid (∀ w4, Below w.drew.heap.size w.drew w4 → Calls Tryz.prog 150 #[.pointer (some ⟨x, 0, none⟩), .int .i64 (wd 20 P 264 p 1), .int .u64 hd, .int .u64 h1, .func (.func 200) #[.pointer (some ⟨x, 0, none⟩)] #[]] w4 fun e w' => (∃ v, e = .returned v) ∧ Came w w' x (rpCells who nx cl p g has nt hd tl (rpRest gv ld qu)) 149 (axSw (wd 20 P 264 p 1) hd h1) (.swap 200)) := by
    intro w4 k
    have h4 : Blk w4 x (rpCells who nx cl p g has nt hd tl (rpRest gv ld qu)) 149 := hB.drew.but (But.of_below (l := []) k) (by simp)
    refine (came_swap w4 x _ 149 h4 rp_size _ _ _ _).mono ?_
    rintro e w5 ⟨hv, hC⟩
    exact ⟨hv, hC.before ((But.refl [x] w).drew.trans (But.of_below k))⟩
  have hH : Hid (w.drew.cell? ⟨x, 7, none⟩ = some (.int .u64 hd)) := c7
  have KB : Hid (∀ w4, Below w.drew.heap.size w.drew w4 → w4.cell? ⟨x, 7, none⟩ = some (.int .u64 hd)) := fun w4 k => (hB.drew.but (But.of_below (l := []) k) (by simp)).cell 7 rp_c7
  generalize wd 20 P 264 p 1 = at' at *
  have KC : Hid (∀ w5, Came w w5 x (rpCells who nx cl p g has nt hd tl (rpRest gv ld qu)) 149 (axSw at' hd h1) (.swap 200) → w5.cell? ⟨x, 7, none⟩ = some (.int .u64 hd)) := fun w5 hC => by
    obtain ⟨q, Lc, g1, -⟩ := hC
    rw [rp_s1] at g1
    exact g1.cell 7 rp_c7
  clear hB hl hp hh1 ha0 hh h128 hg
  go_enter Tryz.func184, Tryz.ntmps184
  go_wp2_with fail
  go_region_held3 (fun w' => w'.cell? ⟨x, 7, none⟩ = some (.int .u64 hd)) (first | exact hH.out | exact KB.out _ ‹_› | exact KC.out _ ‹_›) (first | (go_at_call 140; refine hPr.mono ?_; rintro e w4 ⟨rfl, k⟩) | (go_at_call 150; refine (HS.out _ ‹_›).mono ?_; rintro e w5 ⟨⟨v, rfl⟩, hC⟩))
  all_goals
    clear hPr k HS hH KB KC c7 c137
    go_wp2_with fail
    refine bodyPost_ret (results_none rfl _ _ _) rfl ?_
    exact ⟨⟨_, rfl⟩, hC⟩
set_option maxHeartbeats 4000000 in
theorem rp_gather_load (k : Nat) (hk : k < 128) (hld : ld = k) (hg : gv.length = 128) : Calls Tryz.prog 184 #[.pointer (some ⟨x, 0, none⟩)] w fun e w' => (∃ v, e = .returned v) ∧ Came w w' x (rpCells who nx cl p g has nt hd tl (rpRest gv ld qu)) 149 (axLd (wd 20 P 264 p (8 + IntKind.u64.wrap (hd + k) % 256))) (.told 201) := by
  have c137 := hB.cell 137 (rp_c137 hg)
  subst hld
  have c2 := hB.cell 2 rp_c2
  have c3 := hB.cell 3 rp_c3
  have c7 := hB.cell 7 rp_c7
  obtain ⟨z, hz⟩ : ∃ z, IntKind.u64.wrap (hd + k) = z := ⟨_, rfl⟩
  have hzb : 0 ≤ z ∧ z ≤ 18446744073709551615 := by rw [← hz]; generalize hd + (k : Int) = y; simp [IntKind.wrap, IntKind.bits, IntKind.signed]; omega
  rw [hz]
  have e0 : IntKind.u64.wrap (k : Int) = (k : Int) := wrap_u64 (by omega)
  have hk1 : decide ((k : Int) = 128) = false := decide_eq_false (by omega)
  have hk2 : ((k : Int) == 128) = false := by rw [beq_eq_false_iff_ne]; omega
  have hPr := lrng_any (some ⟨cl, 0, none⟩) P T G p z w.drew (.some cl (hl.below ((Below.refl _ _).drew) hl.lt)) hp hzb
  have HS : Hid (∀ w4, Below w.drew.heap.size w.drew w4 → Calls Tryz.prog 114 #[.pointer (some ⟨x, 0, none⟩), .int .i64 (wd 20 P 264 p (8 + z % 256)), .func (.func 201) #[.pointer (some ⟨x, 0, none⟩)] #[]] w4 fun e w' => (∃ v, e = .returned v) ∧ Came w w' x (rpCells who nx cl p g has nt hd tl (rpRest gv k qu)) 149 (axLd (wd 20 P 264 p (8 + z % 256))) (.told 201)) := by
    intro w4 k
    have h4 := hB.drew.but (But.of_below (l := []) k) (by simp)
    refine (came_load w4 x _ 149 h4 rp_size _ _).mono ?_
    rintro e w5 ⟨hv, hC⟩
    exact ⟨hv, hC.before ((But.refl [x] w).drew.trans (But.of_below k))⟩
  generalize wd 20 P 264 p (8 + z % 256) = at' at *
  have hH : Hid (w.drew.cell? ⟨x, 2, none⟩ = some (.pointer (some ⟨cl, 0, none⟩)) ∧ w.drew.cell? ⟨x, 3, none⟩ = some (.int .i64 p) ∧ w.drew.cell? ⟨x, 7, none⟩ = some (.int .u64 hd) ∧ w.drew.cell? ⟨x, 137, none⟩ = some (.int .i64 k)) := ⟨c2, c3, c7, c137⟩
  have KB : Hid (∀ w4, Below w.drew.heap.size w.drew w4 → (w4.cell? ⟨x, 2, none⟩ = some (.pointer (some ⟨cl, 0, none⟩)) ∧ w4.cell? ⟨x, 3, none⟩ = some (.int .i64 p) ∧ w4.cell? ⟨x, 7, none⟩ = some (.int .u64 hd) ∧ w4.cell? ⟨x, 137, none⟩ = some (.int .i64 k))) := fun w4 k4 => by
    have h4 := hB.drew.but (But.of_below (l := []) k4) (by simp)
    exact ⟨h4.cell 2 rp_c2, h4.cell 3 rp_c3, h4.cell 7 rp_c7, h4.cell 137 (rp_c137 hg)⟩
  have KC : Hid (∀ w5, Came w w5 x (rpCells who nx cl p g has nt hd tl (rpRest gv k qu)) 149 (axLd at') (.told 201) → (w5.cell? ⟨x, 2, none⟩ = some (.pointer (some ⟨cl, 0, none⟩)) ∧ w5.cell? ⟨x, 3, none⟩ = some (.int .i64 p) ∧ w5.cell? ⟨x, 7, none⟩ = some (.int .u64 hd) ∧ w5.cell? ⟨x, 137, none⟩ = some (.int .i64 k))) := fun w5 hC => by
    obtain ⟨q, Lc, h1, -⟩ := hC
    rw [rp_s1] at h1
    exact ⟨h1.cell 2 rp_c2, h1.cell 3 rp_c3, h1.cell 7 rp_c7, h1.cell 137 (rp_c137 hg)⟩
  clear hB hl hp hg hzb
  go_enter Tryz.func184, Tryz.ntmps184
  go_wp2_with fail
  go_region_held3 (fun w' => w'.cell? ⟨x, 2, none⟩ = some (.pointer (some ⟨cl, 0, none⟩)) ∧ w'.cell? ⟨x, 3, none⟩ = some (.int .i64 p) ∧ w'.cell? ⟨x, 7, none⟩ = some (.int .u64 hd) ∧ w'.cell? ⟨x, 137, none⟩ = some (.int .i64 k)) (first | exact hH.out | exact KB.out _ ‹_› | exact KC.out _ ‹_›) (first | (go_at_call 95; refine hPr.mono ?_; rintro e w4 ⟨rfl, k4⟩) | (go_at_call 114; refine (HS.out _ ‹_›).mono ?_; rintro e w5 ⟨⟨v, rfl⟩, hC⟩))
  all_goals
    clear hPr k4 HS hH KB KC c2 c3 c7 c137
    go_wp2_with fail
    go_end0
    exact ⟨⟨_, rfl⟩, hC⟩
end
end Go.Proofs.YthhlklfioipmgaaGreat

namespace Go.Proofs.YthhlklfioipmgaaGreat
open Go Go.RowKit
set_option linter.unusedVariables false
set_option maxRecDepth 100000
set_option linter.unusedSimpArgs false

section
variable (w : World) (x cl : Nat) (who p g P T G nt hd tl : Int) (has : Bool) (gv : List Int) (ld : Int) (qu nx : Option Addr) (hB : Blk w x (rpCells who nx cl p g has nt hd tl (rpRest gv ld qu)) 149) (hl : Lay w cl P T G) (hp : 0 ≤ P ∧ P ≤ 64)
include hB hl hp
set_option maxHeartbeats 4000000 in
theorem rp_choose_full (t : Int) (hxc : cl ≠ x) (hg : gv.length = 128) (ht : 0 ≤ t ∧ t ≤ 18446744073709551615) (hh : 0 ≤ hd ∧ hd ≤ 18446744073709551615) (hm : ¬ (t - hd) % 4294967296 < 256) : Calls Tryz.prog 168 #[.pointer (some ⟨x, 0, none⟩), .int .u64 t] w fun e w' => (∃ v, e = .returned v) ∧ Came w w' x (rpCells who nx cl p g has nt hd t (rpRest gv 0 qu)) 149 (axLd (wd 20 P 264 p (8 + IntKind.u64.wrap (hd + 0) % 256))) (.told 201) := by
  have c8 := hB.cell 8 rp_c8
  have f8 := hB.fro 8
  have hlt := hB.lt
  have hB1 : Blk (w.setCell ⟨x, 8, none⟩ (.int .u64 t)) x (rpCells who nx cl p g has nt hd t (rpRest gv ld qu)) 149 := by
    have := hB.set 8 (.int .u64 t)
    rw [rp_s8] at this
    exact this
  have c7 := hB1.cell 7 rp_c7
  have c137 := hB1.cell 137 (rp_c137 hg)
  have f137 := hB1.fro 137
  have hB2 : Blk ((w.setCell ⟨x, 8, none⟩ (.int .u64 t)).setCell ⟨x, 137, none⟩ (.int .i64 0)) x (rpCells who nx cl p g has nt hd t (rpRest gv 0 qu)) 149 := by
    have := hB1.set 137 (.int .i64 0)
    rw [rp_s137 hg] at this
    exact this
  have hU : But [x] w ((w.setCell ⟨x, 8, none⟩ (.int .u64 t)).setCell ⟨x, 137, none⟩ (.int .i64 0)) := ((But.refl _ w).set (g := x) (.inl (by simp)) 8 _).set (g := x) (.inl (by simp)) 137 _
  have hl2 := (hU.block cl hl.lt (by simpa using hxc)).trans hl
  have H := rp_gather_load _ x cl who p g P T G nt hd t has gv 0 qu nx hB2 hl2 hp 0 (by omega) rfl hg
  have HU : Hid (But [x] w ((w.setCell ⟨x, 8, none⟩ (.int .u64 t)).setCell ⟨x, 137, none⟩ (.int .i64 0))) := hU
  have hM := fun w => mny_any hd t w hh ht
  have hd1 : decide ((t - hd) % 4294967296 < 256) = false := decide_eq_false hm
  generalize (t - hd) % 4294967296 = mm at *
  generalize hV : w.setCell ⟨x, 8, none⟩ (.int .u64 t) = V at *
  generalize hV2 : V.setCell ⟨x, 137, none⟩ (.int .i64 0) = V2 at *
  have hltV : x < V.heap.size := hB1.lt
  clear hB hB1 hB2 hU hl hl2 hp hxc ht hh hm
  go_enter Tryz.func168, Tryz.ntmps168
  go_wp2_with fail
  try rw [hV]
  go_at_call 138; refine (hM _).mono ?_; rintro e w1 ⟨rfl, rfl⟩
  clear hM
  go_wp2_with fail
  try rw [hV2]
  go_at_call 184; refine H.mono ?_; rintro e w1 ⟨⟨v, rfl⟩, hC⟩
  have hCb := hC.before HU.out
  clear H hC hV hV2 c7 c8 f8 c137 f137
  go_wp2_with fail
  go_end0
  exact ⟨⟨_, rfl⟩, hCb⟩
end
section
variable (w : World) (x cl : Nat) (who p g P T G nt hd tl : Int) (has : Bool) (gv : List Int) (k : Nat) (qu nx : Option Addr) (hB : Blk w x (rpCells who nx cl p g has nt hd tl (rpRest gv k qu)) 149) (hl : Lay w cl P T G) (hp : 0 ≤ P ∧ P ≤ 64) (hk : k < 128) (hg : gv.length = 128) (hxc : cl ≠ x)
include hB hl hp hk hg hxc
omit hp in
/-- The world in which one more is kept. -/
theorem rp_kept (v : Int) : Blk (((w.setCell ⟨x, 9 + k, none⟩ (.int .i64 (gw v))).drew).setCell ⟨x, 137, none⟩ (.int .i64 ((k + 1 : Nat) : Int))) x (rpCells who nx cl p g has nt hd tl (rpRest (gv.set k (gw v)) ((k + 1 : Nat) : Int) qu)) 149 ∧ But [x] w (((w.setCell ⟨x, 9 + k, none⟩ (.int .i64 (gw v))).drew).setCell ⟨x, 137, none⟩ (.int .i64 ((k + 1 : Nat) : Int))) ∧ Lay (((w.setCell ⟨x, 9 + k, none⟩ (.int .i64 (gw v))).drew).setCell ⟨x, 137, none⟩ (.int .i64 ((k + 1 : Nat) : Int))) cl P T G := by
  have hU : But [x] w (((w.setCell ⟨x, 9 + k, none⟩ (.int .i64 (gw v))).drew).setCell ⟨x, 137, none⟩ (.int .i64 ((k + 1 : Nat) : Int))) := ((But.refl _ w).set (g := x) (.inl (by simp)) (9 + k) _).drew.set (g := x) (.inl (by simp)) 137 _
  refine ⟨?_, hU, (hU.block cl hl.lt (by simpa using hxc)).trans hl⟩
  have h1 := hB.set (9 + k) (.int .i64 (gw v))
  rw [rp_sgiven hg k hk] at h1
  have h2 := h1.drew.set 137 (.int .i64 ((k + 1 : Nat) : Int))
  rw [rp_s137 (by rw [List.length_set]; exact hg)] at h2
  exact h2
set_option maxHeartbeats 4000000 in
theorem rp_keep_on (v : Int) (hk2 : k + 1 < 128) : Calls Tryz.prog 201 #[.pointer (some ⟨x, 0, none⟩), .int .u64 v] w fun e w' => (∃ v, e = .returned v) ∧ Came w w' x (rpCells who nx cl p g has nt hd tl (rpRest (gv.set k (gw v)) ((k + 1 : Nat) : Int) qu)) 149 (axLd (wd 20 P 264 p (8 + IntKind.u64.wrap (hd + ((k + 1 : Nat) : Int)) % 256))) (.told 201) := by
  obtain ⟨h1, h2, h3⟩ := rp_kept w x cl who p g P T G nt hd tl has gv k qu nx hB hl hk hg hxc v
  have H := rp_gather_load _ x cl who p g P T G nt hd tl has (gv.set k (gw v)) _ qu nx h1 h3 hp (k + 1) hk2 rfl (by rw [List.length_set]; exact hg)
  have HU : Hid (But [x] w (((w.setCell ⟨x, 9 + k, none⟩ (.int .i64 (gw v))).drew).setCell ⟨x, 137, none⟩ (.int .i64 ((k + 1 : Nat) : Int)))) := h2
  have c137 := hB.cell 137 (rp_c137 hg)
  have ck := hB.cell (9 + k) (rp_given hg k hk)
  have fk := hB.fro (9 + k)
  have hlt := hB.lt
  obtain ⟨y, hy⟩ : ∃ y, IntKind.u64.wrap (v - 1) = y := ⟨_, rfl⟩
  obtain ⟨gx, hgx⟩ : ∃ gx, IntKind.i64.wrap y = gx := ⟨_, rfl⟩
  have hgw : gw v = gx := by unfold gw; rw [hy, hgx]
  rw [hgw] at h1 h2 h3 H HU ⊢
  have hk0 : (0 : Int) ≤ (k : Int) := by omega
  have hk1 : (k : Int) < 128 := by omega
  have e5 : wrap64 ((k : Int) + 1) = (k : Int) + 1 := by unfold wrap64; omega
  have HB1 : Hid (Blk ((w.setCell ⟨x, 9 + k, none⟩ (.int .i64 gx)).drew) x (rpCells who nx cl p g has nt hd tl (rpRest (gv.set k gx) k qu)) 149) := by
    have h4 := hB.set (9 + k) (.int .i64 gx)
    rw [rp_sgiven hg k hk] at h4
    exact h4.drew
  have hg2 : Hid ((gv.set k gx).length = 128) := (by rw [List.length_set]; exact hg : (gv.set k gx).length = 128)
  have hcast : ((k + 1 : Nat) : Int) = (k : Int) + 1 := by omega
  rw [hcast] at H HU ⊢
  clear hB hl hp hg h1 h2 h3 hgw hxc
  go_enter Tryz.func201, Tryz.ntmps201
  go_wp2_with fail
  go_region
  generalize (w.setCell ⟨x, 9 + k, none⟩ (.int .i64 gx)).drew = V at *
  have d137 := HB1.out.cell 137 (rp_c137 hg2.out)
  have f137 := HB1.out.fro 137
  have hltV := HB1.out.lt
  clear c137 ck fk HB1 hlt
  go_wp2_with fail
  generalize V.setCell ⟨x, 137, none⟩ (.int .i64 ((k : Int) + 1)) = V2 at *
  go_at_call 184; refine H.mono ?_; rintro e w1 ⟨⟨v, rfl⟩, hC⟩
  have hCb := hC.before HU.out
  clear H hC d137 f137
  go_wp2_with fail
  go_end0
  exact ⟨⟨_, rfl⟩, hCb⟩
set_option maxHeartbeats 4000000 in
theorem rp_keep_all (v : Int) (hh : 0 ≤ hd ∧ hd ≤ 18446744073709551615) (hk2 : k + 1 = 128) : Calls Tryz.prog 201 #[.pointer (some ⟨x, 0, none⟩), .int .u64 v] w fun e w' => (∃ v, e = .returned v) ∧ Came w w' x (rpCells who nx cl p g has nt hd tl (rpRest (gv.set k (gw v)) ((k + 1 : Nat) : Int) qu)) 149 (axSw (wd 20 P 264 p 1) hd ((hd + 128) % 4294967296)) (.swap 200) := by
  obtain ⟨h1, h2, h3⟩ := rp_kept w x cl who p g P T G nt hd tl has gv k qu nx hB hl hk hg hxc v
  have H := rp_gather_swap _ x cl who p g P T G nt hd tl has (gv.set k (gw v)) _ qu nx h1 h3 hp (by omega) (by rw [List.length_set]; exact hg) hh
  have HU : Hid (But [x] w (((w.setCell ⟨x, 9 + k, none⟩ (.int .i64 (gw v))).drew).setCell ⟨x, 137, none⟩ (.int .i64 ((k + 1 : Nat) : Int)))) := h2
  have c137 := hB.cell 137 (rp_c137 hg)
  have ck := hB.cell (9 + k) (rp_given hg k hk)
  have fk := hB.fro (9 + k)
  have hlt := hB.lt
  obtain ⟨y, hy⟩ : ∃ y, IntKind.u64.wrap (v - 1) = y := ⟨_, rfl⟩
  obtain ⟨gx, hgx⟩ : ∃ gx, IntKind.i64.wrap y = gx := ⟨_, rfl⟩
  have hgw : gw v = gx := by unfold gw; rw [hy, hgx]
  rw [hgw] at h1 h2 h3 H HU ⊢
  have hk0 : (0 : Int) ≤ (k : Int) := by omega
  have hk1 : (k : Int) < 128 := by omega
  have e5 : wrap64 ((k : Int) + 1) = (k : Int) + 1 := by unfold wrap64; omega
  have HB1 : Hid (Blk ((w.setCell ⟨x, 9 + k, none⟩ (.int .i64 gx)).drew) x (rpCells who nx cl p g has nt hd tl (rpRest (gv.set k gx) k qu)) 149) := by
    have h4 := hB.set (9 + k) (.int .i64 gx)
    rw [rp_sgiven hg k hk] at h4
    exact h4.drew
  have hg2 : Hid ((gv.set k gx).length = 128) := (by rw [List.length_set]; exact hg : (gv.set k gx).length = 128)
  have hcast : ((k + 1 : Nat) : Int) = (k : Int) + 1 := by omega
  rw [hcast] at H HU ⊢
  clear hB hl hp hg h1 h2 h3 hgw hxc
  go_enter Tryz.func201, Tryz.ntmps201
  go_wp2_with fail
  go_region
  generalize (w.setCell ⟨x, 9 + k, none⟩ (.int .i64 gx)).drew = V at *
  have d137 := HB1.out.cell 137 (rp_c137 hg2.out)
  have f137 := HB1.out.fro 137
  have hltV := HB1.out.lt
  clear c137 ck fk HB1 hlt
  go_wp2_with fail
  generalize V.setCell ⟨x, 137, none⟩ (.int .i64 ((k : Int) + 1)) = V2 at *
  go_at_call 184; refine H.mono ?_; rintro e w1 ⟨⟨v, rfl⟩, hC⟩
  have hCb := hC.before HU.out
  clear H hC d137 f137
  go_wp2_with fail
  go_end0
  exact ⟨⟨_, rfl⟩, hCb⟩
end
end Go.Proofs.YthhlklfioipmgaaGreat

namespace Go.Proofs.YthhlklfioipmgaaGreat
open Go Go.RowKit
set_option linter.unusedVariables false
set_option maxRecDepth 100000
set_option linter.unusedSimpArgs false

/-- The cells of a machine that begins. -/
def rpZ (nx : Option Addr) (who p g : Int) (cl : Nat) : Array Value := rpCells who nx cl p g true 0 0 0 (rpRest (List.replicate 128 0) 0 none)
def RpNew (w : World) (cl : Nat) (who p g P : Int) (nxt : Bool) (e : Ending) (w' : World) : Prop := ∃ (x q : Nat) (Lc : List Nat), e = .returned (.pointer (some ⟨x, 0, none⟩)) ∧ Blk w' x (rpZ (some ⟨q, 0, none⟩) who p g cl) 149 ∧ Com w' x q (axLd (wd 20 P 264 p (if nxt = true then 3 else 1))) (if nxt = true then .told 141 else .told 142) Lc ∧ x ∉ Lc ∧ Below w.heap.size w w' ∧ (∀ k ∈ Lc, w.heap.size ≤ k) ∧ w.heap.size ≤ x
theorem rp_zero (who p g : Int) (cl : Nat) : (((Tryz.zeroCells149.setIfInBounds 2 (.pointer (some ⟨cl, 0, none⟩))).setIfInBounds 3 (.int .i64 p)).setIfInBounds 4 (.int .i64 g)).setIfInBounds 5 (.bool true) = rpZ none 0 p g cl := by kernel_rfl
theorem rp_zset (who p g : Int) (cl : Nat) (nx : Option Addr) (v : Value) : (rpZ nx 0 p g cl).setIfInBounds 0 (.int .i64 who) = rpZ nx who p g cl := by simp [rpZ, rpCells]
theorem rp_new_step (w : World) (cl : Nat) (who p g P T G : Int) (nxt : Bool) (hl : Lay w cl P T G) (hP : 0 ≤ P ∧ P ≤ 64) :
    Calls Tryz.prog 36 #[.pointer (some ⟨cl, 0, none⟩), .int .i64 who, .int .i64 p, .int .i64 g, .bool nxt] w fun e w' => RpNew w cl who p g P nxt e w' := by
  have hB : Blk (w.alloc (.cells (rpZ none 0 p g cl) 149)) w.heap.size (rpZ none 0 p g cl) 149 := Blk.new _ _ _
  have hb : Below w.heap.size w (w.alloc (.cells (rpZ none 0 p g cl) 149)) := (Below.refl _ _).alloc (Nat.le_refl _) _
  have hF := fof_any _ w.heap.size _ 149 who hB (by simp [rpZ, rpCells])
  have HH : Hid (Blk _ w.heap.size _ 149 ∧ Below w.heap.size w _) := ⟨hB, hb⟩
  have hsz := World.size_alloc w (.cells (rpZ none 0 p g cl) 149)
  have HLY : Hid (Lay w cl P T G) := hl
  clear hB hb hl
  go_enter Tryz.func36, Tryz.ntmps36
  go_wp2_with fail
  rw [rp_zero who p g cl]
  generalize w.alloc (.cells (rpZ none 0 p g cl) 149) = W at *
  go_at_call 96; refine hF.mono ?_; rintro e w3 ⟨⟨v, rfl⟩, hw3⟩
  have h3 : Blk w3 w.heap.size (rpZ none who p g cl) 149 := by
    rw [hw3]
    have := HH.out.1.set 0 (.int .i64 who)
    rw [rp_zset who p g cl none (.int .i64 0)] at this
    exact this
  have hb3 : Hid (Below w.heap.size w w3) := by rw [hw3]; exact HH.out.2.trans (((But.refl [w.heap.size] W).set (g := w.heap.size) (.inl (by simp)) 0 _).below (by simp) (by rw [hsz]; omega))
  have hlt := h3.lt
  cases nxt with
  | true =>
    have hL := rp_lookNext w3 w.heap.size cl who p g P T G 0 0 0 true (rpRest (List.replicate 128 0) 0 none) none h3 (HLY.out.below hb3.out HLY.out.lt) hP
    clear hF hw3 HH h3 HLY
    go_wp2_with fail
    go_at_call 97; refine hL.mono ?_; rintro e w2 ⟨⟨v2, rfl⟩, hC⟩
    obtain ⟨q, Lc, c1, c2, c3, c4⟩ := hC
    rw [rp_s1] at c1
    have hF : Hid (Below w.heap.size w w2 ∧ (∀ k ∈ Lc, w.heap.size ≤ k) ∧ w.heap.size ∉ Lc) := ⟨hb3.out.trans (c3.below (by simp) hb3.out.size), fun k hk => by have := c4 k hk; omega, fun hm => by have := c4 _ hm; omega⟩
    have HC : Hid (Blk w2 w.heap.size (rpZ (some ⟨q, 0, none⟩) who p g cl) 149 ∧ Com w2 w.heap.size q (axLd (wd 20 P 264 p 3)) (.told 141) Lc) := ⟨c1, c2⟩
    clear hL c1 c2 c3 c4
    go_wp2_with fail
    go_ret
    exact ⟨w.heap.size, q, Lc, rfl, HC.out.1, HC.out.2, hF.out.2.2, hF.out.1, hF.out.2.1, Nat.le_refl _⟩
  | false =>
    have hL := rp_lookHead w3 w.heap.size cl who p g P T G 0 0 0 true (rpRest (List.replicate 128 0) 0 none) none h3 (HLY.out.below hb3.out HLY.out.lt) hP
    clear hF hw3 HH h3 HLY
    go_wp2_with fail
    go_at_call 98; refine hL.mono ?_; rintro e w2 ⟨⟨v2, rfl⟩, hC⟩
    obtain ⟨q, Lc, c1, c2, c3, c4⟩ := hC
    rw [rp_s1] at c1
    have hF : Hid (Below w.heap.size w w2 ∧ (∀ k ∈ Lc, w.heap.size ≤ k) ∧ w.heap.size ∉ Lc) := ⟨hb3.out.trans (c3.below (by simp) hb3.out.size), fun k hk => by have := c4 k hk; omega, fun hm => by have := c4 _ hm; omega⟩
    have HC : Hid (Blk w2 w.heap.size (rpZ (some ⟨q, 0, none⟩) who p g cl) 149 ∧ Com w2 w.heap.size q (axLd (wd 20 P 264 p 1)) (.told 142) Lc) := ⟨c1, c2⟩
    clear hL c1 c2 c3 c4
    go_wp2_with fail
    go_ret
    exact ⟨w.heap.size, q, Lc, rfl, HC.out.1, HC.out.2, hF.out.2.2, hF.out.1, hF.out.2.1, Nat.le_refl _⟩
theorem rp_take_no (w : World) (x cl : Nat) (who p g P T G nt hd tl : Int) (has : Bool) (rest : List Value) (nx : Option Addr) (hB : Blk w x (rpCells who nx cl p g has nt hd tl rest) 149) (hl : Lay w cl P T G) (hp : 0 ≤ P ∧ P ≤ 64) :
    Calls Tryz.prog 200 #[.pointer (some ⟨x, 0, none⟩), .bool false] w fun e w' => (∃ v, e = .returned v) ∧ Came w w' x (rpCells who nx cl p g has nt hd tl rest) 149 (axLd (wd 20 P 264 p 1)) (.told 142) := by
  have H := rp_lookHead w x cl who p g P T G nt hd tl has rest nx hB hl hp
  clear hB hl hp
  go_enter Tryz.func200, Tryz.ntmps200
  go_wp2_with fail
  go_at_call 98; refine H.mono ?_; rintro e w1 ⟨⟨v, rfl⟩, hC⟩
  clear H
  go_wp2_with fail
  refine bodyPost_ret (results_none rfl _ _ _) rfl ?_
  exact ⟨⟨_, rfl⟩, hC⟩
theorem rp_moved (w : World) (x cl : Nat) (who p g nt hd tl : Int) (has : Bool) (gv : List Int) (ld : Int) (qu nx : Option Addr) (hB : Blk w x (rpCells who nx cl p g has nt hd tl (rpRest gv ld qu)) 149) (hg : gv.length = 128) :
    Calls Tryz.prog 40 #[.pointer (some ⟨x, 0, none⟩)] w fun e w' => e = .returned (.int .i64 (if qu.isNone = true then 0 else 129)) ∧ w = w' := by
  have c138 := hB.cell 138 (rp_c138 hg)
  clear hB
  cases qu with
  | none =>
    go_enter Tryz.func40, Tryz.ntmps40
    go_wp2_with fail
    go_ret
    exact ⟨rfl, rfl⟩
  | some a =>
    go_enter Tryz.func40, Tryz.ntmps40
    go_wp2_with fail
    go_ret
    exact ⟨rfl, rfl⟩
theorem rp_moved_nil (w : World) : Calls Tryz.prog 40 #[.pointer none] w fun e w' => e = .returned (.int .i64 0) ∧ w = w' := by
  go_enter Tryz.func40, Tryz.ntmps40
  go_wp2_with fail
  go_ret
  exact ⟨rfl, rfl⟩
theorem rp_holds_nil (w : World) : Calls Tryz.prog 100 #[.pointer none] w fun e w' => e = .returned (.slice none 0 0) ∧ w = w' := by
  go_enter Tryz.func100, Tryz.ntmps100
  go_wp2_with fail
  go_ret
  exact ⟨rfl, rfl⟩
end Go.Proofs.YthhlklfioipmgaaGreat

namespace Go.Proofs.YthhlklfioipmgaaGreat
open Go Go.RowKit
set_option linter.unusedVariables false
set_option maxRecDepth 100000
set_option linter.unusedSimpArgs false


/-- A release that is to be run. -/
structure RelM (w : World) (x q g : Nat) (who sv ow : Int) : Prop where
  m : Blk w x (relCells who (some ⟨q, 0, none⟩) sv) 236
  com : Blk w q (comCells 2 0 ow 0 0 false .nilIface (.func (.func 180) #[] #[.pointer (some ⟨g, 0, none⟩)]) false false) 183
  box : Blk w g #[.func (.func 248) #[.pointer (some ⟨x, 0, none⟩)] #[]] 1
  o1 : x < q
  o2 : x < g
  ne : g ≠ q
/-- An acquire that is to be run. -/
structure AcqM (w : World) (x q : Nat) (who tk sv ow : Int) : Prop where
  m : Blk w x (acqCells who (some ⟨q, 0, none⟩) sv ow 0 false) 211
  com : Blk w q (comCells 4 0 tk 0 1 false .nilIface (.func (.func 192) #[.pointer (some ⟨x, 0, none⟩)] #[]) false false) 183
  o1 : x < q
theorem RelM.but {w w' : World} {x q g c : Nat} {who sv ow : Int} (h : RelM w x q g who sv ow) (hb : But [c] w w') (h1 : c < x) : RelM w' x q g who sv ow :=
  ⟨h.m.but hb (by simp; omega), h.com.but hb (by have := h.o1; simp; omega), h.box.but hb (by have := h.o2; simp; omega), h.o1, h.o2, h.ne⟩
theorem AcqM.but {w w' : World} {x q c : Nat} {who tk sv ow : Int} (h : AcqM w x q who tk sv ow) (hb : But [c] w w') (h1 : c < x) : AcqM w' x q who tk sv ow :=
  ⟨h.m.but hb (by simp; omega), h.com.but hb (by have := h.o1; simp; omega), h.o1⟩
theorem CameBox.before {a w w' : World} {c q g : Nat} {cs : Array Value} {com : Value → Array Value} {fv : Value} {T : TypeId} (h : CameBox w w' c cs T com fv q g) (hb : But [c] a w) : CameBox a w' c cs T com fv q g :=
  ⟨⟨Nat.le_trans hb.size h.at'.fresh, h.at'.own, h.at'.com, hb.trans h.at'.but⟩, Nat.le_trans hb.size h.fresh, h.box, h.ne⟩

end Go.Proofs.YthhlklfioipmgaaGreat

namespace Go.Proofs.YthhlklfioipmgaaGreat
open Go Go.RowKit
set_option linter.unusedVariables false
set_option maxRecDepth 100000
set_option linter.unusedSimpArgs false

section
variable (w : World) (x cl : Nat) (who p g nt hd tl : Int) (has : Bool) (gv : List Int) (ld : Int)
set_option maxHeartbeats 2000000 in
theorem rp_move (y : Nat) (nx : Option Addr) (a : Addr) (hB : Blk w x (rpCells who nx cl p g has nt hd tl (rpRest gv ld (some ⟨y, 0, none⟩))) 149) (hg : gv.length = 128) (hyx : y ≠ x) (hny : w.cell? ⟨y, 1, none⟩ = some (.pointer (some a))) :
    Calls Tryz.prog 213 #[.pointer (some ⟨x, 0, none⟩)] w fun e w' => (∃ v, e = .returned v) ∧ ∃ q b, CameBox w w' x (rpCells who nx cl p g has nt hd tl (rpRest gv ld (some ⟨y, 0, none⟩))) 149 (fun v => comCells 0 0 0 0 0 false (.iface 36 (.pointer (some ⟨y, 0, none⟩))) v false false) (.func (.func 224) #[.pointer (some ⟨x, 0, none⟩)] #[]) q b := by
  have c138 := hB.cell 138 (rp_c138 hg)
  have hf := frun_qput w.drew x y _ 149 (.func (.func 224) #[.pointer (some ⟨x, 0, none⟩)] #[]) a hB.drew rp_size (.some _ _ _) hyx hny
  have HU : Hid (But [x] w w.drew) := (But.refl [x] w).drew
  clear hB hny
  go_enter Tryz.func213, Tryz.ntmps213
  go_wp2_with fail
  go_region_with (first | (go_at_call 157; refine hf.mono ?_; rintro e w6 ⟨⟨v, rfl⟩, q, b, hC⟩))
  all_goals
    have HZ : Hid (CameBox w w6 x _ 149 _ _ q b) := hC.before HU.out
    clear hf hC c138 HU
    go_wp2_with fail
    go_end0
    exact ⟨⟨_, rfl⟩, q, b, HZ.out⟩
set_option maxHeartbeats 2000000 in
theorem rp_release (nx qu : Option Addr) (hB : Blk w x (rpCells who nx cl p g has nt hd tl (rpRest gv ld qu)) 149) (hg : gv.length = 128) :
    Calls Tryz.prog 224 #[.pointer (some ⟨x, 0, none⟩)] w fun e w' => (∃ v, e = .returned v) ∧ ∃ x2 q2 g2 q b, CameBox w w' x (rpCells who nx cl p g has nt hd tl (rpRest gv ld qu)) 149 (fun v => comCells 0 0 0 0 0 false (.iface 232 (.pointer (some ⟨x2, 0, none⟩))) v false false) .nilFunc q b ∧ RelM w' x2 q2 g2 who (wd 0 2 3 0 1) (wd 0 2 3 0 2) ∧ w.heap.size ≤ x2 ∧ q2 < q ∧ q2 < b ∧ g2 < q ∧ g2 < b := by
  have hlt := hB.lt
  have c2 := hB.cell 2 rp_c2
  have hO := who_any w.drew x who (hB.drew.cell 0 rp_c0)
  have hR := rel_new w.drew cl 0 who
  generalize wd 0 2 3 0 1 = sv at *
  generalize wd 0 2 3 0 2 = ow at *
  have HH : Hid (Blk w x (rpCells who nx cl p g has nt hd tl (rpRest gv ld qu)) 149) := hB
  clear hB hg
  go_enter Tryz.func224, Tryz.ntmps224
  go_wp2_with fail
  go_region_with (first | (go_at_call 156; refine hO.mono ?_; rintro e w3 ⟨rfl, rfl⟩) | (go_at_call 236; refine hR.mono ?_; rintro e w4 ⟨x2, q2, g2, rfl, k1, k2, k3, k4, k5, k6, k7, k8, k9⟩; have hB4 : But [x] w w4 := ((But.refl [x] w).drew).trans (But.of_below k4); have hf := frun_rel w4 x x2 _ 149 .nilFunc ⟨q2, 0, none⟩ (HH.out.but (But.of_below (l := []) (show Below w.heap.size w w4 from (Below.refl _ _).drew.trans k4)) (by simp)) rp_size .none (by have : w.heap.size ≤ x2 := k5; omega) (k1.cell 1 rfl)) | (go_at_call 157; refine hf.mono ?_; rintro e w5 ⟨⟨v, rfl⟩, q, b, hC⟩))
  all_goals
    have k5' : w.heap.size ≤ x2 := k5
    have hM : RelM w4 x2 q2 g2 who sv ow := ⟨k1, k2, k3, k7, k8, k9⟩
    have hM5 := hM.but hC.at'.but (by omega)
    have hq2 := hM.com.lt
    have hg2 := hM.box.lt
    have hC5 := hC.before hB4
    have f1 := hC.at'.fresh
    have f2 := hC.fresh
    clear hO hR c2 hf k1 k2 k3 k4 k5 k6 k7 k8 k9 hC hB4 hM HH
    go_wp2_with fail
    go_end0
    exact ⟨⟨_, rfl⟩, x2, q2, g2, q, b, hC5, hM5, k5', by omega, by omega, by omega, by omega⟩
end
end Go.Proofs.YthhlklfioipmgaaGreat

namespace Go.Proofs.YthhlklfioipmgaaGreat
open Go Go.RowKit Go.Maps
set_option linter.unusedVariables false
set_option maxRecDepth 100000
set_option linter.unusedSimpArgs false

/-- What take leaves: the queue's machine, and the lock's, which is run. -/
def RpTook (w : World) (x cl : Nat) (who p g nt hd tl : Int) (has : Bool) (gv : List Int) (ld : Int) (nx : Option Addr) (QP : World → Nat → List Nat → Prop) (e : Ending) (w' : World) : Prop := (∃ v, e = .returned v) ∧ ∃ (y : Nat) (L : List Nat) (x2 q2 q b : Nat), CameBox w w' x (rpCells who nx cl p g has nt hd tl (rpRest gv ld (some ⟨y, 0, none⟩))) 149 (fun v => comCells 0 0 0 0 0 false (.iface 200 (.pointer (some ⟨x2, 0, none⟩))) v false false) (.func (.func 213) #[.pointer (some ⟨x, 0, none⟩)] #[]) q b ∧ QP w' y L ∧ AcqM w' x2 q2 who (wd 0 2 3 0 0) (wd 0 2 3 0 1) (wd 0 2 3 0 2) ∧ (∀ k ∈ L, w.heap.size ≤ k ∧ k < x2) ∧ w.heap.size ≤ x2 ∧ q2 < q ∧ q2 < b ∧ w.heap.size ≤ y
set_option maxHeartbeats 4000000 in
theorem rp_take_yes (w : World) (x cl : Nat) (who p g P T G nt hd tl : Int) (has : Bool) (gv : List Int) (ld : Int) (qu nx : Option Addr) (QP : World → Nat → List Nat → Prop)
    (hB : Blk w x (rpCells who nx cl p g has nt hd tl (rpRest gv ld qu)) 149) (hg : gv.length = 128) (hl : Lay w cl P T G) (hxc : cl ≠ x)
    (hK : ∀ (a b : World) (y : Nat) (L : List Nat), QP a y L → But [x] a b → x ∉ L → QP b y L)
    (hN : ∀ (Y : World) (v : Value), Lay Y cl P T G → SeesL Y v (gv ++ [g]) → Calls Tryz.prog 12 #[.pointer (some ⟨cl, 0, none⟩), .int .i64 who, v] Y fun e w' => ∃ y L, e = .returned (.pointer (some ⟨y, 0, none⟩)) ∧ QP w' y L ∧ Below Y.heap.size Y w' ∧ (∀ k ∈ L, Y.heap.size ≤ k) ∧ (∀ k ∈ L, k < w'.heap.size) ∧ Y.heap.size ≤ y) :
    Calls Tryz.prog 200 #[.pointer (some ⟨x, 0, none⟩), .bool true] w fun e w' => RpTook w x cl who p g nt hd tl has gv ld nx QP e w' := by
  obtain ⟨i3, hi3, hz03, hz13, hz23⟩ := info_parts lists_info3
  have hlt := hB.lt
  have hO := who_any w x who (hB.cell 0 rp_c0)
  have c2 := hB.cell 2 rp_c2
  have c4 := hB.cell 4 rp_c4
  have HGV : Hid (∀ X, Blk X x (rpCells who nx cl p g has nt hd tl (rpRest gv ld qu)) 149 → ∀ j u, (gv.map (Value.int .i64))[j]? = some u → X.cell? ((⟨x, 9, none⟩ : Addr).add j) = some u) := fun X hX j u hu => by
    rw [List.getElem?_map] at hu
    by_cases hj : j < 128
    · rw [List.getElem?_eq_getElem (by omega)] at hu
      have h1 := hX.cell (9 + j) (rp_given hg j hj)
      rw [List.getD_eq_getElem?_getD, List.getElem?_eq_getElem (by omega)] at h1
      simp at hu
      rw [← hu]
      by_cases h0 : j = 0
      · subst h0; simpa [Addr.add] using h1
      · simpa [Addr.add, h0] using h1
    · rw [List.getElem?_eq_none (by omega)] at hu
      cases hu
  have HH : Hid (Blk w.drew x (rpCells who nx cl p g has nt hd tl (rpRest gv ld qu)) 149 ∧ Lay w.drew cl P T G) := ⟨hB.drew, hl.below ((Below.refl _ _).drew) hl.lt⟩
  have hA : Hid (Blk (w.drew.alloc (.cells #[.int .i64 g] 3)) x (rpCells who nx cl p g has nt hd tl (rpRest gv ld qu)) 149) := HH.out.1.al _
  clear hB hl
  go_enter Tryz.func200, Tryz.ntmps200
  go_wp2_with fail
  go_at_call 156; refine hO.mono ?_; rintro e w3 ⟨rfl, rfl⟩
  clear hO
  go_wp2_with fail
  have hH : Hid (w.drew.cell? ⟨x, 2, none⟩ = some (.pointer (some ⟨cl, 0, none⟩)) ∧ w.drew.cell? ⟨x, 4, none⟩ = some (.int .i64 g)) := ⟨HH.out.1.cell 2 rp_c2, HH.out.1.cell 4 rp_c4⟩
  have hHA : Hid ((w.drew.alloc (.cells #[.int .i64 g] 3)).cell? ⟨x, 2, none⟩ = some (.pointer (some ⟨cl, 0, none⟩)) ∧ (w.drew.alloc (.cells #[.int .i64 g] 3)).cell? ⟨x, 4, none⟩ = some (.int .i64 g)) := ⟨hA.out.cell 2 rp_c2, hA.out.cell 4 rp_c4⟩
  have HL1 : Hid (Lay (w.drew.alloc (.cells #[.int .i64 g] 3)) cl P T G) := HH.out.2.below ((Below.refl _ _).alloc (Nat.le_refl _) _) HH.out.2.lt
  have HNN : Hid (∀ (Y : World) (v : Value), Lay Y cl P T G → SeesL Y v (gv ++ [g]) → Calls Tryz.prog 12 #[.pointer (some ⟨cl, 0, none⟩), .int .i64 who, v] Y fun e w' => ∃ y L, e = .returned (.pointer (some ⟨y, 0, none⟩)) ∧ QP w' y L ∧ Below Y.heap.size Y w' ∧ (∀ k ∈ L, Y.heap.size ≤ k) ∧ (∀ k ∈ L, k < w'.heap.size) ∧ Y.heap.size ≤ y) := hN
  have HSN : Hid (∀ X : World, Blk X x (rpCells who nx cl p g has nt hd tl (rpRest gv ld qu)) 149 → X.cell? ⟨x, 2, none⟩ = some (.pointer (some ⟨cl, 0, none⟩)) ∧ X.cell? ⟨x, 4, none⟩ = some (.int .i64 g)) := fun X h => ⟨h.cell 2 rp_c2, h.cell 4 rp_c4⟩
  have HST : Hid (∀ (X : World) (u : Value), Blk X x (rpCells who nx cl p g has nt hd tl (rpRest gv ld qu)) 149 → (X.setCell ⟨x, 138, none⟩ u).cell? ⟨x, 2, none⟩ = some (.pointer (some ⟨cl, 0, none⟩)) ∧ (X.setCell ⟨x, 138, none⟩ u).cell? ⟨x, 4, none⟩ = some (.int .i64 g)) := fun X u h => by
    have h2 := h.set 138 u
    refine ⟨h2.cell 2 ?_, h2.cell 4 ?_⟩
    · rw [Array.getElem?_setIfInBounds_ne (by decide)]; exact rp_c2
    · rw [Array.getElem?_setIfInBounds_ne (by decide)]; exact rp_c4
  have HGR : Hid (∀ (w1 : World) (v' : Value), w1.ownsRow (w.drew.alloc (.cells #[.int .i64 g] 3)).heap.size 3 1 v' 129 (gv.map (Value.int .i64) ++ [.int .i64 g]) → (w.drew.alloc (.cells #[.int .i64 g] 3)).grownBy w1 none → Blk w1 x (rpCells who nx cl p g has nt hd tl (rpRest gv ld qu)) 149 ∧ Lay w1 cl P T G ∧ SeesL w1 v' (gv ++ [g]) ∧ But [x] w w1) := fun w1 v' hown hgrow => by
    have hb1 : Below (w.drew.alloc (.cells #[.int .i64 g] 3)).heap.size (w.drew.alloc (.cells #[.int .i64 g] 3)) w1 := (Below.refl _ _).grown hgrow (Nat.le_refl _) (fun k h => by cases h)
    refine ⟨hA.out.but (But.of_below (l := []) hb1) (by simp), HL1.out.below hb1 HL1.out.lt, IntsOn.sees (base := (w.drew.alloc (.cells #[.int .i64 g] 3)).heap.size) ⟨by rw [List.map_append, List.length_append, hg]; exact hown⟩, ((But.refl [x] w).drew.alloc _).trans (But.of_below hb1)⟩
  clear c2 c4 hN
  go_region_held_law (fun X => X.cell? ⟨x, 2, none⟩ = some (.pointer (some ⟨cl, 0, none⟩)) ∧ X.cell? ⟨x, 4, none⟩ = some (.int .i64 g)) (first | exact hH.out | exact hHA.out | exact HST.out _ _ ‹_› | assumption) (first | (refine step_append_grows rfl (.tmp 22) (.tmp 27) 27 rfl 3 i3 (.int .i64 0) 1 8 Tryz.underlying27 hi3 hz03 hz13 hz23 rfl (by decide) (some ⟨x, 9, none⟩) 128 128 (gv.map (Value.int .i64)) (by rfl) (fun h => by cases h) (by simp [hg]) (fun b e => by cases e; exact HGV.out _ hA.out) ⟨w.drew.heap.size, 0, none⟩ 1 1 [.int .i64 g] (by rfl) (by rfl) (cell_one_new _ _ _) (ints_oneCell .i64 [g]) (by omega) (by unfold maxLen; omega) (by omega) ?_; intro v' w1 hown hgrow; obtain ⟨hb1, hl1, hs1, hu1⟩ := HGR.out w1 v' hown hgrow; have q1 := HSN.out w1 hb1) | (go_at_call 12; refine (HNN.out _ _ hl1 hs1).mono ?_; rintro e w2 ⟨y, L, rfl, y1, y2, y3, y4, y5⟩; have hb2 := hb1.but (But.of_below (l := []) y2) (by simp); have q2 := HSN.out w2 hb2; have s138 := hb2.cell 138 (rp_c138 hg); have t138 := hb2.fro 138; have u138 := hb2.lt))
  all_goals
    have h5 : Blk (w2.setCell ⟨x, 138, none⟩ (.pointer (some ⟨y, 0, none⟩))) x (rpCells who nx cl p g has nt hd tl (rpRest gv ld (some ⟨y, 0, none⟩))) 149 := by
      have h4 := hb2.set 138 (.pointer (some ⟨y, 0, none⟩))
      rw [rp_s138 hg] at h4
      exact h4
    have hs1w : w.heap.size ≤ w1.heap.size := hu1.size
    have hxL : x ∉ L := fun hm => absurd (y3 x hm) (by omega)
    have hq5 : QP (w2.setCell ⟨x, 138, none⟩ (.pointer (some ⟨y, 0, none⟩))) y L := hK _ _ _ _ y1 ((But.refl [x] w2).set (g := x) (.inl (by simp)) 138 _) hxL
    have hB5 : But [x] w (w2.setCell ⟨x, 138, none⟩ (.pointer (some ⟨y, 0, none⟩))) := (hu1.trans (But.of_below y2)).set (g := x) (.inl (by simp)) 138 _
    have hL5 : Hid ((∀ k ∈ L, w.heap.size ≤ k ∧ k < (w2.setCell ⟨x, 138, none⟩ (.pointer (some ⟨y, 0, none⟩))).heap.size) ∧ w.heap.size ≤ y ∧ x ∉ L) := ⟨fun k hk => ⟨Nat.le_trans hs1w (y3 k hk), by rw [size_set]; exact y4 k hk⟩, Nat.le_trans hs1w y5, hxL⟩
    generalize w2.setCell ⟨x, 138, none⟩ (.pointer (some ⟨y, 0, none⟩)) = V at *
    have H5 : Hid (Blk V x (rpCells who nx cl p g has nt hd tl (rpRest gv ld (some ⟨y, 0, none⟩))) 149 ∧ QP V y L ∧ But [x] w V) := ⟨h5, hq5, hB5⟩
    have c2 := h5.cell 2 rp_c2
    have hszV := hB5.size
    clear h5 hq5 hB5 q1 q2 s138 t138 u138 hb1 hl1 hs1 hb2 y1 y2 y3 y4 y5 hown hgrow HGR HST HSN HNN HL1 hHA hH hA HH HGV hu1 hxL hs1w
    have hR := fun w => lock_new w cl 0 who
    have hR := hR V.drew
    go_wp2_with fail
    go_region_with (first | (go_at_call 174; refine hR.mono ?_; rintro e w4 ⟨x2, q2, rfl, k1, k2, k4, k5, k6, k7⟩; have hB4 : But [x] w w4 := H5.out.2.2.trans (((But.refl [x] V).drew).trans (But.of_below k4)); have hf := frun_acq w4 x x2 _ 149 (.func (.func 213) #[.pointer (some ⟨x, 0, none⟩)] #[]) ⟨q2, 0, none⟩ (H5.out.1.but (But.of_below (l := []) (show Below V.heap.size V w4 from (Below.refl _ _).drew.trans k4)) (by simp)) rp_size (.some _ _ _) (by have : V.heap.size ≤ x2 := k5; omega) (k1.cell 1 rfl)) | (go_at_call 157; refine hf.mono ?_; rintro e w5 ⟨⟨v, rfl⟩, q, b, hC⟩))
    all_goals
      have k5' : V.heap.size ≤ x2 := k5
      have hM : AcqM w4 x2 q2 who (wd 0 2 3 0 0) (wd 0 2 3 0 1) (wd 0 2 3 0 2) := ⟨k1, k2, k7⟩
      have hM5 := hM.but hC.at'.but (by omega)
      have hq2 := hM.com.lt
      have hC5 := hC.before hB4
      have f1 := hC.at'.fresh
      have f2 := hC.fresh
      have hq9 : QP w5 y L := hK _ _ _ _ H5.out.2.1 ((But.of_below (show Below V.heap.size V w4 from (Below.refl _ _).drew.trans k4)).trans hC.at'.but) hL5.out.2.2
      have HZ : Hid (RpTook w x cl who p g nt hd tl has gv ld nx QP (.returned v) w5) := ⟨⟨_, rfl⟩, y, L, x2, q2, q, b, hC5, hq9, hM5, fun k hk => ⟨(hL5.out.1 k hk).1, Nat.lt_of_lt_of_le (hL5.out.1 k hk).2 k5'⟩, Nat.le_trans hszV k5', by omega, by omega, hL5.out.2.1⟩
      clear hR hf k1 k2 k4 k5 k6 k7 hC hB4 hM H5 hq9 hC5 hM5 c2
      go_wp2_with fail
      go_end0
      exact ⟨⟨_, rfl⟩, HZ.out.2⟩
end Go.Proofs.YthhlklfioipmgaaGreat

namespace Go.Proofs.YthhlklfioipmgaaGreat
open Go Go.RowKit
set_option linter.unusedVariables false
set_option maxRecDepth 100000
set_option linter.unusedSimpArgs false

def Rd.row (g cap : Nat) (l : List Int) : Rd := ⟨[g], fun w => RowAt w g cap l, fun w w' lb h hb hk => h.but hb (hk g (by simp))⟩
inductive QpT where
  | ch (k : Nat)
  | ld
  | pt (t : Int)
  | tr
  | ct
  | over
  | done0
def qpPM (gl : Int → Int) (l : List Int) : PM QpT where
  ax := fun
    | .ch k => some (axSt (gl (l.getD k 0)) (if k + 1 < l.length then qwd (l.getD (k + 1) 0) else 0))
    | .ld => some (axLd 7)
    | .pt t => some (axSt (if t = 0 then 6 else gl (gw t)) (qwd (l.getD 0 0)))
    | .tr => some (axSt 7 (qwd (l.getD (l.length - 1) 0)))
    | .ct => some (axAd 8 l.length)
    | .over => none
    | .done0 => none
  nx := fun
    | .ch k, _ => if k + 1 < l.length then .ch (k + 1) else .ld
    | .ld, v => .pt v
    | .pt _, _ => .tr
    | .tr, _ => .ct
    | .ct, _ => .over
    | t, _ => t
def QpT.linked (n : Nat) : QpT → Nat
  | .ch k => k + 1
  | .done0 => 0
  | _ => n
def QpT.lies : QpT → Bool
  | .tr => true
  | .ct => true
  | .over => true
  | _ => false
def qpFl (who : Int) (cl : Nat) (sl : Value) (l : List Int) : Fl QpT where
  T := 120
  cells := fun t nx => qpCells who nx cl sl (t.linked l.length) t.lies
  fol := fun
    | .ch _ => .untold 71
    | .ld => .told 125
    | .pt _ => .untold 159
    | .tr => .untold 179
    | _ => .nil
  ok := fun
    | .ch k => k < l.length
    | _ => True
theorem ent_qp1 : Ent 71 := fun args w => by kernel_rfl
theorem ent_qp2 : Ent 125 := fun args w => by kernel_rfl
theorem ent_qp3 : Ent 159 := fun args w => by kernel_rfl
theorem ent_qp4 : Ent 179 := fun args w => by kernel_rfl
theorem getD_bd {l : List Int} (hb : ∀ y ∈ l, 0 ≤ y ∧ y ≤ 1000000) (j : Nat) : 0 ≤ l.getD j 0 ∧ l.getD j 0 ≤ 1000000 := by
  rw [List.getD_eq_getElem?_getD]
  rcases Nat.lt_or_ge j l.length with h | h
  · rw [List.getElem?_eq_getElem h]; exact hb _ (List.getElem_mem _)
  · rw [List.getElem?_eq_none h]; exact ⟨Int.le_refl _, by decide⟩
section
variable (who P T G : Int) (cl g cap : Nat) (l : List Int) (hp : 0 ≤ P ∧ P ≤ 64) (hT : 0 ≤ T ∧ T ≤ 65536) (hG : 0 ≤ G ∧ G ≤ 65536) (h0 : 0 < l.length) (hn : l.length ≤ 1000000)
include hp hT hG h0 hn
theorem qp_laws : (qpFl who cl (.slice (some ⟨g, 0, none⟩) l.length cap) l).Laws (qpPM (fun y => wd (20 + P * 264 + T * 3) G 2 y 1) l) ((Rd.lay cl P T G).and (Rd.row g cap l)) who where
  c0 := fun t nx => rfl
  c1 := fun t nx => rfl
  set := fun t nx nx' => rfl
  axok := fun t a hok h => by
    cases t with
    | ch k =>
      cases h
      have := qwd_bd (l.getD (k + 1) 0)
      refine axSt_ok _ _ ?_
      by_cases hk : k + 1 < l.length
      · rw [if_pos hk]; omega
      · rw [if_neg hk]; omega
    | ld => cases h; exact axLd_ok _
    | pt t => cases h; exact axSt_ok _ _ (qwd_bd _)
    | tr => cases h; exact axSt_ok _ _ (qwd_bd _)
    | ct => cases h; exact axAd_ok _ _ (by omega)
    | over => cases h
    | done0 => cases h
  ents := fun t a h => by
    cases t with
    | ch k => exact ent_qp1
    | ld => exact ent_qp2
    | pt t => exact ent_qp3
    | tr => exact ent_qp4
    | ct => exact trivial
    | over => exact trivial
    | done0 => exact trivial
  ok := fun t a v hok h hv => by
    cases t with
    | ch k => by_cases hk : k + 1 < l.length <;> simp [qpPM, qpFl, hk]
    | ld => exact trivial
    | pt t => exact trivial
    | tr => exact trivial
    | ct => exact trivial
    | over => exact trivial
    | done0 => exact trivial
  fol := fun W x t a v hok h hv hB hR hxR => by
    obtain ⟨hR1, hR2⟩ := hR
    have hcx : cl ≠ x := fun e => hxR (by rw [← e]; exact List.mem_append_left _ (List.mem_singleton.2 rfl))
    have hgx : g ≠ x := fun e => hxR (by rw [← e]; exact List.mem_append_right _ (List.mem_singleton.2 rfl))
    cases t with
    | ch k =>
      cases h
      by_cases hk : k + 1 < l.length
      · have e : (qpPM (fun y => wd (20 + P * 264 + T * 3) G 2 y 1) l).nx (.ch k) v = .ch (k + 1) := if_pos hk
        rw [e]
        by_cases hk2 : k + 1 + 1 < l.length
        · have H := qput_chain_more W x cl g cap who l none (k + 1) P T G false hB hR2 hgx hk2 hn hR1 hcx hp hT hG.2
          have e2 : (qpPM (fun y => wd (20 + P * 264 + T * 3) G 2 y 1) l).ax (.ch (k + 1)) = some (axSt (wd (20 + P * 264 + T * 3) G 2 (l.getD (k + 1) 0) 1) (qwd (l.getD (k + 1 + 1) 0))) := by
            show some (axSt _ (if k + 1 + 1 < l.length then _ else _)) = _
            rw [if_pos hk2]
          refine H.mono ?_
          rintro e' w' ⟨hu, hC⟩
          refine ⟨hu, ?_⟩
          unfold Fl.Landed
          rw [e2]
          exact hC
        · have H := qput_chain_last W x cl g cap who l none (k + 1) P T G false hB hR2 hgx (by omega) hn hR1 hcx hp hT hG.2
          have e2 : (qpPM (fun y => wd (20 + P * 264 + T * 3) G 2 y 1) l).ax (.ch (k + 1)) = some (axSt (wd (20 + P * 264 + T * 3) G 2 (l.getD (k + 1) 0) 1) 0) := by
            show some (axSt _ (if k + 1 + 1 < l.length then _ else _)) = _
            rw [if_neg hk2]
          refine H.mono ?_
          rintro e' w' ⟨hu, hC⟩
          refine ⟨hu, ?_⟩
          unfold Fl.Landed
          rw [e2]
          exact hC
      · have e : (qpPM (fun y => wd (20 + P * 264 + T * 3) G 2 y 1) l).nx (.ch k) v = .ld := if_neg hk
        have hkn : k + 1 = l.length := by have : k < l.length := hok; omega
        rw [e]
        have hB' : Blk W x (qpCells who none cl (.slice (some ⟨g, 0, none⟩) l.length cap) l.length false) 120 := by
          have hB1 : Blk W x (qpCells who none cl (.slice (some ⟨g, 0, none⟩) l.length cap) ((k + 1 : Nat) : Int) false) 120 := hB
          rw [hkn] at hB1
          exact hB1
        exact qput_chain_end W x cl g cap who l none false hB' hn
    | ld =>
      cases h
      by_cases hv0 : v = 0
      · subst hv0
        exact qput_lead_none W x cl g cap who l none l.length false hB hR2 h0 hn
      · have H := qput_lead_some W x cl g cap who l none l.length v P T G false hB hR2 h0 hn hv0 hR1 hp hT hG.2
        have e2 : (qpPM (fun y => wd (20 + P * 264 + T * 3) G 2 y 1) l).ax (.pt v) = some (axSt (wd (20 + P * 264 + T * 3) G 2 (gw v) 1) (qwd (l.getD 0 0))) := by
          show some (axSt (if v = 0 then _ else _) _) = _
          rw [if_neg hv0]
        refine H.mono ?_
        rintro e' w' ⟨hu, hC⟩
        refine ⟨hu, ?_⟩
        show Fl.Landed _ _ _ _ _ (QpT.pt v)
        unfold Fl.Landed
        rw [e2]
        exact hC
    | pt t => cases h; exact qput_trail W x cl g cap who l none l.length false hB hR2 hgx h0 hn
    | tr => cases h; exact qput_tell W x cl g cap who l none l.length true hB hn
    | ct => cases h; exact ⟨hB, But.refl _ _⟩
    | over => cases h
    | done0 => cases h
end

/-- How a machine that puts goroutines behind lies in memory: its row is its own. -/
def qpI (who : Int) (cl : Nat) (gl : Int → Int) (l : List Int) : MI QpT := fun w x t L =>
  (0 < l.length ∧ ∃ g cap L', L = g :: L' ∧ g ∉ L' ∧ RowAt w g cap l ∧ (qpFl who cl (.slice (some ⟨g, 0, none⟩) l.length cap) l).I (qpPM gl l) w x t L') ∨
  (l = [] ∧ t = .done0 ∧ ∃ A cap, (A = none → cap = 0) ∧ (qpFl who cl (.slice A 0 cap) []).I (qpPM gl []) w x .done0 L)
theorem qp_good (who P T G : Int) (cl : Nat) (l : List Int) (hp : 0 ≤ P ∧ P ≤ 64) (hT : 0 ≤ T ∧ T ≤ 65536) (hG : 0 ≤ G ∧ G ≤ 65536) (hn : l.length ≤ 1000000) : (qpI who cl (fun y => wd (20 + P * 264 + T * 3) G 2 y 1) l).Good (qpPM (fun y => wd (20 + P * 264 + T * 3) G 2 y 1) l) where
  keep := by
    rintro w w' x t L lb (⟨h0, g, cap, L', rfl, hg, hr, h⟩ | ⟨rfl, rfl, A, cap, ha, h⟩) hbt hk
    · exact .inl ⟨h0, g, cap, L', rfl, hg, hr.but hbt (hk g (by simp)), (Fl.good (qp_laws who P T G cl g cap l hp hT hG h0 hn)).keep h hbt (fun k hm => hk k (by simp [hm]))⟩
    · rw [Fl.at_none rfl] at h
      obtain ⟨h1, h2, rfl⟩ := h
      refine .inr ⟨rfl, rfl, A, cap, ha, ?_⟩
      rw [Fl.at_none rfl]
      exact ⟨h1, h2.but hbt (hk x (by simp)), rfl⟩
  lt := by
    rintro w x t L (⟨h0, g, cap, L', rfl, hg, hr, h⟩ | ⟨rfl, rfl, A, cap, ha, h⟩) k hk
    · simp at hk
      rcases hk with rfl | hk
      · exact hr.lt
      · exact (Fl.good (qp_laws who P T G cl g cap l hp hT hG h0 hn)).lt h k hk
    · rw [Fl.at_none rfl] at h
      obtain ⟨h1, h2, rfl⟩ := h
      simp at hk; subst hk; exact h2.lt
  mem := by
    rintro w x t L (⟨h0, g, cap, L', rfl, hg, hr, h⟩ | ⟨rfl, rfl, A, cap, ha, h⟩)
    · exact List.mem_cons_of_mem _ ((Fl.good (qp_laws who P T G cl g cap l hp hT hG h0 hn)).mem h)
    · rw [Fl.at_none rfl] at h
      obtain ⟨h1, h2, rfl⟩ := h
      simp
  next := by
    rintro w x t L (⟨h0, g, cap, L', rfl, hg, hr, h⟩ | ⟨rfl, rfl, A, cap, ha, h⟩)
    · exact (Fl.good (qp_laws who P T G cl g cap l hp hT hG h0 hn)).next h
    · rw [Fl.at_none rfl] at h
      obtain ⟨h1, h2, rfl⟩ := h
      exact ⟨none, h2.cell 1 rfl, rfl⟩
theorem qp_steps (who P T G : Int) (cl : Nat) (l : List Int) (hp : 0 ≤ P ∧ P ≤ 64) (hT : 0 ≤ T ∧ T ≤ 65536) (hG : 0 ≤ G ∧ G ≤ 65536) (hn : l.length ≤ 1000000) {K : Nat} (hK : StepBy K) : Steps (qpPM (fun y => wd (20 + P * 264 + T * 3) G 2 y 1) l) (qpI who cl (fun y => wd (20 + P * 264 + T * 3) G 2 y 1) l) (Rd.lay cl P T G) K who := by
  rintro w A cp cm b n s x t L (⟨h0, g, cap, L', rfl, hg, hr, h⟩ | ⟨rfl, rfl, A1, cap, ha, h⟩) hR hI hn1 hl hf hcb
  · have hgf := hf g (by simp)
    have hgd := Fl.good (qp_laws who P T G cl g cap l hp hT hG h0 hn)
    refine (Fl.steps (qp_laws who P T G cl g cap l hp hT hG h0 hn) hK w A cp cm b n s x t L' h ⟨hR, hr⟩ hI hn1 hl (fun k hk => ⟨(hf k (by simp [hk])).1, (hf k (by simp [hk])).2.1, fun hm => ?_⟩) ⟨fun hm => ?_, fun hm => ?_⟩).mono ?_
    · rcases List.mem_append.1 hm with hm | hm
      · exact (hf k (by simp [hk])).2.2 hm
      · exact hg ((List.mem_singleton.1 hm) ▸ hk)
    · rcases List.mem_append.1 hm with hm | hm
      · exact hcb.1 hm
      · exact hgf.1 (List.mem_singleton.1 hm).symm
    · rcases List.mem_append.1 hm with hm | hm
      · exact hcb.2 hm
      · exact hgf.2.1 (List.mem_singleton.1 hm).symm
    · rintro e w' ⟨rfl, L2, h1, h2, h3, h4⟩
      refine ⟨rfl, g :: L2, .inl ⟨h0, g, cap, L2, rfl, fun hm => ?_, hr.but h3 ?_, h1⟩, h2, h3.more (by intro k _ hk; simp at hk ⊢; rcases hk with h | h | h <;> simp [h]), fun k hk => ?_⟩
      · rcases h4 g hm with h5 | h5
        · exact hg h5
        · have := hr.lt; omega
      · simp only [List.mem_cons, not_or]
        exact ⟨hgf.1, hgf.2.1, hg⟩
      · simp at hk
        rcases hk with rfl | hk
        · exact .inl (by simp)
        · rcases h4 k hk with h5 | h5
          · exact .inl (by simp [h5])
          · exact .inr h5
  · have hI0 := h
    rw [Fl.at_none rfl] at h
    obtain ⟨h1, h2, rfl⟩ := h
    refine (hK w x _ (fun z w' => z = true ∧ w = w') ((step_none w x cm (h2.cell 1 rfl)).mono ?_)).mono ?_
    · rintro e w' ⟨rfl, rfl⟩; exact ⟨true, rfl, rfl, rfl⟩
    · rintro e w' ⟨z, rfl, rfl, rfl⟩
      exact ⟨rfl, [x], .inr ⟨rfl, rfl, A1, cap, ha, hI0⟩, hI, But.refl _ _, fun k hk => .inl hk⟩
end Go.Proofs.YthhlklfioipmgaaGreat

namespace Go.Proofs.YthhlklfioipmgaaGreat
open Go Go.RowKit
set_option linter.unusedVariables false
set_option maxRecDepth 100000
set_option linter.unusedSimpArgs false

theorem RowAt.sees {w : World} {g cap : Nat} {l : List Int} (h : RowAt w g cap l) : SeesL w (.slice (some ⟨g, 0, none⟩) l.length cap) l :=
  ⟨_, cap, rfl, (fun h => by cases h), fun _ => ⟨g, 0, rfl, h.lt, fun j hj => by rw [Nat.zero_add]; exact h.cell j hj⟩⟩
theorem qput_holds (w : World) (x cl : Nat) (who k : Int) (nx : Option Addr) (sl : Value) (l : List Int) (z : Bool) (h : Blk w x (qpCells who nx cl sl k z) 120) (hs : SeesL w sl l) (hn : l.length ≤ 1000000) :
    Calls Tryz.prog 17 #[.pointer (some ⟨x, 0, none⟩)] w fun e w' => ∃ v, e = .returned v ∧ IntsOn w' w.heap.size v (if z then [] else l) ∧ Below w.heap.size w w' := by
  have c3 := h.cell 3 (v := sl) rfl
  have c5 := h.cell 5 (v := .bool z) rfl
  have HC := lclone_any sl l w hn hs
  clear h hs
  cases z with
  | true =>
    clear HC c3
    go_enter Tryz.func17, Tryz.ntmps17
    go_wp2_with fail
    go_ret
    exact ⟨_, rfl, ⟨World.ownsRow_nil _ _ _ _⟩, Below.refl _ _⟩
  | false =>
    go_enter Tryz.func17, Tryz.ntmps17
    go_wp2_with fail
    go_at_call 69; refine HC.mono ?_; rintro e w1 ⟨v, rfl, h1, h2⟩
    clear HC c3 c5
    go_wp2_with fail
    go_ret
    exact ⟨_, rfl, h1, h2⟩
theorem qput_holds_nil (w : World) : Calls Tryz.prog 17 #[.pointer none] w fun e w' => e = .returned (.slice none 0 0) ∧ w = w' := by
  go_enter Tryz.func17, Tryz.ntmps17
  go_wp2_with fail
  go_ret
  exact ⟨rfl, rfl⟩
theorem qp_holds {who : Int} {cl : Nat} {gl : Int → Int} {l : List Int} {w : World} {x : Nat} {t : QpT} {L : List Nat} (h : qpI who cl gl l w x t L) (hn : l.length ≤ 1000000) :
    Calls Tryz.prog 17 #[.pointer (some ⟨x, 0, none⟩)] w fun e w' => ∃ v, e = .returned v ∧ IntsOn w' w.heap.size v (if t.lies then [] else l) ∧ Below w.heap.size w w' := by
  rcases h with ⟨h0, g, cap, L', rfl, hg, hr, h⟩ | ⟨rfl, rfl, A, cap, ha, h⟩
  · obtain ⟨nx, h1, -⟩ := Fl.blk h
    exact qput_holds w x cl who _ nx _ l t.lies h1 hr.sees hn
  · obtain ⟨nx, h1, -⟩ := Fl.blk h
    exact qput_holds w x cl who _ nx (.slice A 0 cap) [] false h1 ⟨A, cap, rfl, fun e => ⟨rfl, ha e⟩, fun e => absurd e (by simp)⟩ hn
def qpStart (l : List Int) : QpT := if l = [] then .done0 else .ch 0
theorem qp_new_nil (w : World) (cl : Nat) (who : Int) (gl : Int → Int) (sl : Value) (hs : SeesL w sl []) :
    Calls Tryz.prog 12 #[.pointer (some ⟨cl, 0, none⟩), .int .i64 who, sl] w fun e w' => ∃ x L, e = .returned (.pointer (some ⟨x, 0, none⟩)) ∧ qpI who cl gl [] w' x .done0 L ∧ Below w.heap.size w w' ∧ (∀ k ∈ L, w.heap.size ≤ k) ∧ w.heap.size ≤ x := by
  have HC := lclone_any sl [] w (by simp) hs
  obtain ⟨A0, cap0, rfl, -, -⟩ := hs
  go_enter Tryz.func12, Tryz.ntmps12
  go_wp2_with fail
  go_at_call 69; refine HC.mono ?_; rintro e w1 ⟨v, rfl, h1, hb1⟩
  obtain ⟨A, cap, rfl, ha, -⟩ := h1.sees
  have hB := Blk.new w1 #[.int .i64 0, .pointer none, .pointer none, .slice A 0 cap, .int .i64 0, .bool false] 120
  have hO := q_of _ w1.heap.size cl who _ (qpCells who none cl (.slice A 0 cap) 0 false) 120 hB (by simp) rfl
  have HH : Hid (Below w.heap.size w (w1.alloc (.cells #[.int .i64 0, .pointer none, .pointer none, .slice A 0 cap, .int .i64 0, .bool false] 120)) ∧ w.heap.size ≤ w1.heap.size) := ⟨seq hb1 ((Below.refl _ _).alloc (Nat.le_refl _) _), hb1.size⟩
  clear HC h1 hb1 hB
  go_wp2_with fail
  go_at_call 70; refine hO.mono ?_; rintro e w2 ⟨⟨v, rfl⟩, k1, k2, k3⟩
  have HF : Hid (qpI who cl gl [] w2 w1.heap.size .done0 [w1.heap.size] ∧ Below w.heap.size w w2) := by
    refine ⟨.inr ⟨rfl, rfl, A, cap, fun e => (ha e).2, (Fl.at_none rfl).2 ⟨trivial, k1, rfl⟩⟩, ?_⟩
    exact HH.out.1.trans (k2.below (by intro k hk; simp at hk; subst hk; first | exact HH.out.2 | exact HH.out.2.2.2.1) (by have := HH.out.2; rw [World.size_alloc]; omega))
  have hsz := HH.out.2
  clear hO HH k1 k2 k3
  go_wp2_with fail
  go_ret
  exact ⟨_, _, rfl, HF.out.1, HF.out.2, fun k hk => by simp at hk; subst hk; exact hsz, hsz⟩
theorem qp_new_some (w : World) (cl : Nat) (who P T G : Int) (sl : Value) (l : List Int) (hs : SeesL w sl l) (h0 : 0 < l.length) (hn : l.length ≤ 1000000) (hl : Lay w cl P T G) (hp : 0 ≤ P ∧ P ≤ 64) (hT : 0 ≤ T ∧ T ≤ 65536) (hG : 0 ≤ G ∧ G ≤ 65536) :
    Calls Tryz.prog 12 #[.pointer (some ⟨cl, 0, none⟩), .int .i64 who, sl] w fun e w' => ∃ x L, e = .returned (.pointer (some ⟨x, 0, none⟩)) ∧ qpI who cl (fun y => wd (20 + P * 264 + T * 3) G 2 y 1) l w' x (.ch 0) L ∧ Below w.heap.size w w' ∧ (∀ k ∈ L, w.heap.size ≤ k) ∧ w.heap.size ≤ x := by
  have HC := lclone_any sl l w hn hs
  obtain ⟨A0, cap0, rfl, -, -⟩ := hs
  have hd : (0 : Int) < (l.length : Int) := by omega
  have HCH : Hid (∀ (Y : World) (x g cap : Nat), Blk Y x (qpCells who none cl (.slice (some ⟨g, 0, none⟩) l.length cap) 0 false) 120 → RowAt Y g cap l → g ≠ x → Lay Y cl P T G → cl ≠ x → Calls Tryz.prog 71 #[.pointer (some ⟨x, 0, none⟩)] Y fun e w' => (∃ v, e = .returned v) ∧ (qpFl who cl (.slice (some ⟨g, 0, none⟩) l.length cap) l).Landed (qpPM (fun y => wd (20 + P * 264 + T * 3) G 2 y 1) l) Y w' x (.ch 0)) := by
    intro Y x g cap hB hr hgx hl hcx
    by_cases hk2 : 0 + 1 < l.length
    · have H := qput_chain_more Y x cl g cap who l none 0 P T G false hB hr hgx hk2 hn hl hcx hp hT hG.2
      have e2 : (qpPM (fun y => wd (20 + P * 264 + T * 3) G 2 y 1) l).ax (.ch 0) = some (axSt (wd (20 + P * 264 + T * 3) G 2 (l.getD 0 0) 1) (qwd (l.getD (0 + 1) 0))) := by
        show some (axSt _ (if 0 + 1 < l.length then _ else _)) = _
        rw [if_pos hk2]
      refine H.mono ?_
      rintro e' w' ⟨hu, hC⟩
      refine ⟨hu, ?_⟩
      unfold Fl.Landed
      rw [e2]
      exact hC
    · have H := qput_chain_last Y x cl g cap who l none 0 P T G false hB hr hgx (by omega) hn hl hcx hp hT hG.2
      have e2 : (qpPM (fun y => wd (20 + P * 264 + T * 3) G 2 y 1) l).ax (.ch 0) = some (axSt (wd (20 + P * 264 + T * 3) G 2 (l.getD 0 0) 1) 0) := by
        show some (axSt _ (if 0 + 1 < l.length then _ else _)) = _
        rw [if_neg hk2]
      refine H.mono ?_
      rintro e' w' ⟨hu, hC⟩
      refine ⟨hu, ?_⟩
      unfold Fl.Landed
      rw [e2]
      exact hC
  have HLW : Hid (qpFl who cl .nilIface l = qpFl who cl .nilIface l ∧ 0 < l.length ∧ Lay w cl P T G) := ⟨rfl, h0, hl⟩
  have HLL : Hid (∀ g cap, (qpFl who cl (.slice (some ⟨g, 0, none⟩) l.length cap) l).Laws (qpPM (fun y => wd (20 + P * 264 + T * 3) G 2 y 1) l) ((Rd.lay cl P T G).and (Rd.row g cap l)) who) := fun g cap => qp_laws who P T G cl g cap l hp hT hG h0 hn
  generalize (fun y => wd (20 + P * 264 + T * 3) G 2 y 1) = gl at *
  generalize hnn : l.length = n at *
  clear hp hT hG hl
  go_enter Tryz.func12, Tryz.ntmps12
  go_wp2_with fail
  go_at_call 69; refine HC.mono ?_; rintro e w1 ⟨v, rfl, h1, hb1⟩
  obtain ⟨g, cap, rfl, hg0, hr⟩ := h1.row (by omega)
  rw [hnn]
  have hB := Blk.new w1 #[.int .i64 0, .pointer none, .pointer none, .slice (some ⟨g, 0, none⟩) n cap, .int .i64 0, .bool false] 120
  have hO := q_of _ w1.heap.size cl who _ (qpCells who none cl (.slice (some ⟨g, 0, none⟩) n cap) 0 false) 120 hB (by simp) rfl
  have HH : Hid (Below w.heap.size w w1 ∧ RowAt w1 g cap l ∧ Below w.heap.size w (w1.alloc (.cells #[.int .i64 0, .pointer none, .pointer none, .slice (some ⟨g, 0, none⟩) n cap, .int .i64 0, .bool false] 120)) ∧ w.heap.size ≤ w1.heap.size ∧ w.heap.size ≤ g) := ⟨hb1, hr, seq hb1 ((Below.refl _ _).alloc (Nat.le_refl _) _), hb1.size, hg0⟩
  clear HC h1 hb1 hB hr
  go_wp2_with fail
  go_at_call 70; refine hO.mono ?_; rintro e w2 ⟨⟨v, rfl⟩, k1, k2, k3⟩
  have hb2 : Below w.heap.size w w2 := HH.out.2.2.1.trans (k2.below (by intro k hk; simp at hk; subst hk; first | exact HH.out.2 | exact HH.out.2.2.2.1) (by have := HH.out.2.2.2.1; rw [World.size_alloc]; omega))
  have hgl := HH.out.2.1.lt
  have hr2 : RowAt w2 g cap l := (HH.out.2.1.below ((Below.refl _ _).alloc (Nat.le_refl _) _)).but k2 (by simp; omega)
  have hll := HLW.out.2.2.lt
  have hsz := HH.out.2.2.2.1
  have hCh := HCH.out w2 w1.heap.size g cap k1 hr2 (by omega) (HLW.out.2.2.below hb2 hll) (by omega)
  have HF2 : Hid (Below w.heap.size w w2 ∧ RowAt w2 g cap l ∧ w1.heap.size < w2.heap.size ∧ g < w1.heap.size ∧ w.heap.size ≤ g) := ⟨hb2, hr2, k1.lt, hgl, HH.out.2.2.2.2⟩
  clear hO HH k1 k2 k3 hr2 hb2 HCH
  go_wp2_with fail
  go_at_call 71; refine hCh.mono ?_; rintro e w3 ⟨⟨v2, rfl⟩, hC⟩
  have HF : Hid (∃ L, qpI who cl gl l w3 w1.heap.size (.ch 0) L ∧ Below w.heap.size w w3 ∧ ∀ k ∈ L, w.heap.size ≤ k) := by
    obtain ⟨-, ⟨L', i1, i2⟩, i3⟩ := Fl.land (HLL.out g cap) hC (by show 0 < l.length; rw [hnn]; exact HLW.out.2.1) HF2.out.2.2.1
    refine ⟨g :: L', .inl ⟨by rw [hnn]; exact HLW.out.2.1, g, cap, L', rfl, fun hm => ?_, HF2.out.2.1.but i3 (by have := HF2.out.2.2.2.1; simp; omega), by rw [hnn]; exact i1⟩, HF2.out.1.trans (i3.below (by simp; omega) HF2.out.1.size), fun k hk => ?_⟩
    · have := HF2.out.2.2.2.1
      rcases i2 g hm with h | h
      · omega
      · have := HF2.out.2.2.1; omega
    · have h3 := HF2.out.1.size
      simp at hk
      rcases hk with rfl | hk
      · exact HF2.out.2.2.2.2
      · rcases i2 k hk with rfl | h
        · exact hsz
        · omega
  clear hCh hC HF2
  go_wp2_with fail
  go_ret
  obtain ⟨L, f1, f2, f3⟩ := HF.out
  exact ⟨_, L, rfl, f1, f2, f3, hsz⟩
end Go.Proofs.YthhlklfioipmgaaGreat

namespace Go.Proofs.YthhlklfioipmgaaGreat
open Go Go.RowKit
set_option linter.unusedVariables false
set_option maxRecDepth 100000
set_option linter.unusedSimpArgs false


def putCells (who : Int) (nx : Option Addr) (c : Nat) (g : Int) : Array Value := #[.int .i64 who, .pointer nx, .pointer (some ⟨c, 0, none⟩), .int .i64 g]

end Go.Proofs.YthhlklfioipmgaaGreat

namespace Go.Proofs.YthhlklfioipmgaaGreat
open Go Go.RowKit
set_option linter.unusedVariables false
set_option maxRecDepth 100000
set_option linter.unusedSimpArgs false


def getCells (who : Int) (nx : Option Addr) (c : Nat) (g : Int) (got : Bool) : Array Value := #[.int .i64 who, .pointer nx, .pointer (some ⟨c, 0, none⟩), .int .i64 g, .bool got]

theorem glob_word17 (w : World) (c : Nat) : Calls Tryz.prog 86 #[.pointer (some ⟨c, 0, none⟩), .int .i64 17] w fun e w' => e = .returned (.int .i64 17) ∧ w = w' := by
  go_enter Tryz.func86, Tryz.ntmps86
  go_wp2_with fail
  go_ret
  exact ⟨rfl, rfl⟩

end Go.Proofs.YthhlklfioipmgaaGreat

namespace Go.Proofs.YthhlklfioipmgaaGreat
open Go Go.RowKit
set_option linter.unusedVariables false
set_option maxRecDepth 100000
set_option linter.unusedSimpArgs false


end Go.Proofs.YthhlklfioipmgaaGreat

namespace Go.Proofs.YthhlklfioipmgaaGreat
open Go Go.RowKit
set_option linter.unusedVariables false
set_option maxRecDepth 100000
set_option linter.unusedSimpArgs false


end Go.Proofs.YthhlklfioipmgaaGreat

namespace Go.Proofs.YthhlklfioipmgaaGreat
open Go Go.RowKit
set_option linter.unusedVariables false
set_option maxRecDepth 100000
set_option linter.unusedSimpArgs false


end Go.Proofs.YthhlklfioipmgaaGreat

namespace Go.Proofs.YthhlklfioipmgaaGreat
open Go Go.RowKit
set_option linter.unusedVariables false
set_option maxRecDepth 100000
set_option linter.unusedSimpArgs false

def acqSub (tk sv ow who : Int) : Sub := ⟨AcqT, acqPM tk sv ow who, (acqFl who sv ow).I (acqPM tk sv ow who), Rd.nil, 200, 288⟩
def relSub (sv ow who : Int) : Sub := ⟨RelT, relPM sv ow, (relFl who sv).I (relPM sv ow), Rd.nil, 232, 294⟩
theorem acqSub_ok (tk sv ow who : Int) (hw : 0 ≤ who ∧ who ≤ 1000000) (R : Rd) : Steps (acqPM tk sv ow who) ((acqFl who sv ow).I (acqPM tk sv ow who)) Rd.nil 288 who ∧ MI.Good ((acqFl who sv ow).I (acqPM tk sv ow who)) (acqPM tk sv ow who) ∧ ActRun 200 288 ∧ (∀ w, R.P w → Rd.nil.P w) ∧ (∀ k ∈ Rd.nil.B, k ∈ R.B) :=
  ⟨Fl.steps (acq_laws _ _ _ who hw) stepby_acq, Fl.good (acq_laws _ _ _ who hw), act_acq, fun _ _ => trivial, fun k hk => by cases hk⟩
theorem relSub_ok (sv ow who : Int) (R : Rd) : Steps (relPM sv ow) ((relFl who sv).I (relPM sv ow)) Rd.nil 294 who ∧ MI.Good ((relFl who sv).I (relPM sv ow)) (relPM sv ow) ∧ ActRun 232 294 ∧ (∀ w, R.P w → Rd.nil.P w) ∧ (∀ k ∈ Rd.nil.B, k ∈ R.B) :=
  ⟨Fl.steps (rel_laws _ _ who) stepby_rel, Fl.good (rel_laws _ _ who), act_rel, fun _ _ => trivial, fun k hk => by cases hk⟩
theorem acqSub_at {w : World} {y q : Nat} {tk sv ow who : Int} (h : AcqM w y q who tk sv ow) : ((acqFl who sv ow).I (acqPM tk sv ow who)) w y AcqT.fresh [y, q] :=
  ⟨trivial, q, [q], h.m, .told _ h.com, by have := h.o1; simp; omega, rfl⟩
theorem relSub_at {w : World} {y q g : Nat} {sv ow who : Int} (h : RelM w y q g who sv ow) : ((relFl who sv).I (relPM sv ow)) w y RelT.fresh [y, q, g] :=
  ⟨trivial, q, [q, g], h.m, .box _ g (fun _ h => by cases h) h.com h.box h.ne, by have := h.o1; have := h.o2; simp; omega, rfl⟩

/-- Getting a lock, and what is so behind it. -/
def AcqT.goes {σ : Type} (f : AcqT → σ) (e : σ) : AcqT → σ
  | .over _ => e
  | p => f p

/-- The machine that gives a goroutine back; gl is the place of its GLink. -/
inductive GpT where
  | acq (p : AcqT)
  | ld
  | ln (f : Int)
  | st
  | rel (p : RelT)
def gpPM (who g gl : Int) : PM GpT where
  ax := fun
    | .acq p => (acqPM 3 4 5 who).ax p
    | .ld => some (axLd 16)
    | .ln f => some (axSt gl f)
    | .st => some (axSt 16 (g + 1))
    | .rel p => (relPM 4 5).ax p
  nx := fun
    | .acq p, v => ((acqPM 3 4 5 who).nx p v).goes .acq .ld
    | .ld, v => .ln v
    | .ln _, _ => .st
    | .st, _ => .rel .fresh
    | .rel p, v => .rel ((relPM 4 5).nx p v)
def AcqT.Live : AcqT → Prop
  | .over _ => False
  | _ => True
theorem acq_nx_live {who v : Int} (p : AcqT) (h : ((acqPM 3 4 5 who).ax ((acqPM 3 4 5 who).nx p v)).isSome = true) : ((acqPM 3 4 5 who).nx p v).Live := by
  cases hp : (acqPM 3 4 5 who).nx p v with
  | over t => rw [hp] at h; cases h
  | fresh => trivial
  | wait t => trivial
  | has t => trivial
theorem acq_then_live {σ : Type} {f : AcqT → σ} {e : σ} : ∀ (p : AcqT), p.Live → p.goes f e = f p
  | .fresh, _ => rfl
  | .wait _, _ => rfl
  | .has _, _ => rfl
theorem acq_then_over {σ : Type} {f : AcqT → σ} {e : σ} {who : Int} : ∀ (p : AcqT), (acqPM 3 4 5 who).ax p = none → p.goes f e = e
  | .fresh, h => by cases h
  | .wait _, h => by cases h
  | .has _, h => by cases h
  | .over _, _ => rfl
theorem acq_live_some {who : Int} : ∀ (p : AcqT), p.Live → ((acqPM 3 4 5 who).ax p).isSome = true
  | .fresh, _ => rfl
  | .wait _, _ => rfl
  | .has _, _ => rfl
end Go.Proofs.YthhlklfioipmgaaGreat

namespace Go.Proofs.YthhlklfioipmgaaGreat
open Go Go.RowKit
set_option linter.unusedVariables false
set_option maxRecDepth 100000
set_option linter.unusedSimpArgs false

/-- What it has: the goroutine, whether it is in the hand, the words that were loaded, what is given, how many were loaded. -/
structure RpD where
  g : Int
  has : Bool
  nt : Int
  hd : Int
  tl : Int
  gv : List Int
  ld : Int
inductive RpT where
  | nx (d : RpD)
  | sn (d : RpD)
  | hd (d : RpD)
  | tl (d : RpD)
  | st (d : RpD)
  | ln (d : RpD)
  | gl (d : RpD) (k : Nat)
  | sh (d : RpD)
  | acq (d : RpD) (p : AcqT)
  | que (d : RpD) (q : QpT)
  | rel (d : RpD) (q : QpT) (p : RelT)
  | over (d : RpD)
def RpD.all (d : RpD) : List Int := d.gv ++ [d.g]
def RpD.take1 (d : RpD) (k : Nat) (v : Int) : RpD := { d with gv := d.gv.set k (gw v), ld := ((k + 1 : Nat) : Int) }
def rpPM (who P p : Int) (gl : Int → Int) : PM RpT where
  ax := fun
    | .nx _ => some (axLd (wd 20 P 264 p 3))
    | .sn d => some (axSw (wd 20 P 264 p 3) d.nt (rpw d.g))
    | .hd _ => some (axLd (wd 20 P 264 p 1))
    | .tl _ => some (axLd (wd 20 P 264 p 2))
    | .st d => some (axSt (wd 20 P 264 p (8 + d.tl % 256)) (rpw d.g))
    | .ln d => some (axSt (wd 20 P 264 p 2) ((d.tl + 1) % 4294967296))
    | .gl d k => some (axLd (wd 20 P 264 p (8 + IntKind.u64.wrap (d.hd + k) % 256)))
    | .sh d => some (axSw (wd 20 P 264 p 1) d.hd ((d.hd + 128) % 4294967296))
    | .acq _ q => (acqPM (wd 0 2 3 0 0) (wd 0 2 3 0 1) (wd 0 2 3 0 2) who).ax q
    | .que d q => (qpPM gl d.all).ax q
    | .rel _ _ q => (relPM (wd 0 2 3 0 1) (wd 0 2 3 0 2)).ax q
    | .over _ => none
  nx := fun
    | .nx d, v => .sn { d with nt := v }
    | .sn d, v => if v = 0 then .nx d else if d.nt = 0 then .over { d with has := false } else .hd { d with g := gw d.nt }
    | .hd d, v => .tl { d with hd := v }
    | .tl d, v => if (v - d.hd) % 4294967296 < 256 then .st { d with tl := v } else .gl { d with tl := v, ld := 0 } 0
    | .st d, _ => .ln d
    | .ln d, _ => .over { d with has := false }
    | .gl d k, v => if k + 1 < 128 then .gl (d.take1 k v) (k + 1) else .sh (d.take1 k v)
    | .sh d, v => if v = 0 then .hd d else .acq d .fresh
    | .acq d q, v => ((acqPM (wd 0 2 3 0 0) (wd 0 2 3 0 1) (wd 0 2 3 0 2) who).nx q v).goes (.acq d) (.que d (.ch 0))
    | .que d q, v => if ((qpPM gl d.all).ax ((qpPM gl d.all).nx q v)).isSome = true then .que d ((qpPM gl d.all).nx q v) else .rel d ((qpPM gl d.all).nx q v) .fresh
    | .rel d q r, v => .rel d q ((relPM (wd 0 2 3 0 1) (wd 0 2 3 0 2)).nx r v)
    | t, _ => t
def RpT.d : RpT → RpD
  | .nx d => d
  | .sn d => d
  | .hd d => d
  | .tl d => d
  | .st d => d
  | .ln d => d
  | .gl d _ => d
  | .sh d => d
  | .acq d _ => d
  | .que d _ => d
  | .rel d _ _ => d
  | .over d => d
def RpT.full : RpT → Bool
  | .acq _ _ => true
  | .que _ _ => true
  | .rel _ _ _ => true
  | _ => false
/-- What is in its hand. -/
def RpT.holds : RpT → List Int
  | .acq d _ => if d.has then d.all else []
  | .que d q => if d.has then (if q.lies then [] else d.all) else []
  | .rel d q _ => if d.has then (if q.lies then [] else d.all) else []
  | t => if t.d.has then [t.d.g] else []
def rpAt (who p : Int) (cl : Nat) (t : RpT) (es : List Nat) (nx : Option Addr) : Array Value := rpCells who nx cl p t.d.g t.d.has t.d.nt t.d.hd t.d.tl (rpRest t.d.gv t.d.ld (if t.full = true then some ⟨es.getD 0 0, 0, none⟩ else none))
def rU64 (v : Int) : Prop := 0 ≤ v ∧ v ≤ 18446744073709551615
structure RpD.Ok (d : RpD) : Prop where
  len : d.gv.length = 128
  nt : rU64 d.nt
  hd : rU64 d.hd
  tl : rU64 d.tl
def qpSub (who : Int) (gl : Int → Int) (cl : Nat) (P T G : Int) (l : List Int) : Sub := ⟨QpT, qpPM gl l, qpI who cl gl l, Rd.lay cl P T G, 36, 19⟩
def rpExt (who : Int) (gl : Int → Int) (cl : Nat) (t : RpT) (es : List Nat) (w : World) (Le : List Nat) : Prop := match t with
  | .acq d _ => d.gv.length = 128 ∧ qpI who cl gl d.all w (es.getD 0 0) (.ch 0) Le
  | .rel d q _ => d.gv.length = 128 ∧ qpI who cl gl d.all w (es.getD 0 0) q Le
  | _ => Le = []
def rpCp (who : Int) (gl : Int → Int) (P T G p : Int) (cl : Nat) : Cp RpT where
  T := 149
  cells := rpAt who p cl
  kind := fun
    | .nx _ => .acc (axLd (wd 20 P 264 p 3)) (.told 141)
    | .sn d => .acc (axSw (wd 20 P 264 p 3) d.nt (rpw d.g)) (.swap 167)
    | .hd _ => .acc (axLd (wd 20 P 264 p 1)) (.told 142)
    | .tl _ => .acc (axLd (wd 20 P 264 p 2)) (.told 168)
    | .st d => .acc (axSt (wd 20 P 264 p (8 + d.tl % 256)) (rpw d.g)) (.untold 183)
    | .ln d => .acc (axSt (wd 20 P 264 p 2) ((d.tl + 1) % 4294967296)) (.untold 199)
    | .gl d k => .acc (axLd (wd 20 P 264 p (8 + IntKind.u64.wrap (d.hd + k) % 256))) (.told 201)
    | .sh d => .acc (axSw (wd 20 P 264 p 1) d.hd ((d.hd + 128) % 4294967296)) (.swap 200)
    | .acq _ q => .run (acqSub (wd 0 2 3 0 0) (wd 0 2 3 0 1) (wd 0 2 3 0 2) who) q (.fn 213)
    | .que d q => .run (qpSub who gl cl P T G d.all) q (.fn 224)
    | .rel _ _ .over => .over
    | .rel _ _ q => .run (relSub (wd 0 2 3 0 1) (wd 0 2 3 0 2) who) q .nil
    | .over _ => .over
  ok := fun
    | .gl d k => d.Ok ∧ k < 128 ∧ d.ld = k
    | .sh d => d.Ok ∧ d.ld = 128
    | .acq d q => d.Ok ∧ q.Live
    | .que d q => d.Ok ∧ ((qpPM gl d.all).ax q).isSome = true
    | t => t.d.Ok
  ext := rpExt who gl cl
  tie := fun t es y => match t with
    | .que _ _ => es.getD 0 0 = y
    | _ => True
theorem ent_rp1 : Ent 141 := fun args w => by kernel_rfl
theorem ent_rp2 : Ent 167 := fun args w => by kernel_rfl
theorem ent_rp3 : Ent 142 := fun args w => by kernel_rfl
theorem ent_rp4 : Ent 168 := fun args w => by kernel_rfl
theorem ent_rp5 : Ent 183 := fun args w => by kernel_rfl
theorem ent_rp6 : Ent 199 := fun args w => by kernel_rfl
theorem ent_rp7 : Ent 201 := fun args w => by kernel_rfl
theorem ent_rp8 : Ent 200 := fun args w => by kernel_rfl
theorem ent_rp9 : Ent 213 := fun args w => by kernel_rfl
theorem ent_rp10 : Ent 224 := fun args w => by kernel_rfl
theorem rpw_bd (g : Int) : 0 ≤ rpw g ∧ rpw g ≤ 18446744073709551615 := by
  unfold rpw
  generalize IntKind.u64.wrap g + 1 = z
  simp [IntKind.wrap, IntKind.bits, IntKind.signed]
  omega
theorem rp_acq_live {tk sv ow who v : Int} (p : AcqT) (h : ((acqPM tk sv ow who).ax ((acqPM tk sv ow who).nx p v)).isSome = true) : ((acqPM tk sv ow who).nx p v).Live := by
  cases hp : (acqPM tk sv ow who).nx p v with
  | over t => rw [hp] at h; cases h
  | fresh => trivial
  | wait t => trivial
  | has t => trivial
theorem rp_acq_goes {σ : Type} {f : AcqT → σ} {e : σ} : ∀ (p : AcqT), p.Live → p.goes f e = f p
  | .fresh, _ => rfl
  | .wait _, _ => rfl
  | .has _, _ => rfl
theorem rp_acq_over {σ : Type} {f : AcqT → σ} {e : σ} {tk sv ow who : Int} : ∀ (p : AcqT), (acqPM tk sv ow who).ax p = none → p.goes f e = e
  | .fresh, h => by cases h
  | .wait _, h => by cases h
  | .has _, h => by cases h
  | .over _, _ => rfl
theorem rp_acq_some {tk sv ow who : Int} : ∀ (p : AcqT), p.Live → ((acqPM tk sv ow who).ax p).isSome = true
  | .fresh, _ => rfl
  | .wait _, _ => rfl
  | .has _, _ => rfl

section
variable {who P T G p : Int} {gl : Int → Int} {cl : Nat} {W w' : World} {x : Nat} {t : RpT} {a : Ax} {f : Fol} {es Le Le' : List Nat}
theorem rp_land_acc (h : Came W w' x (rpAt who p cl t es none) 149 a f) (hok : (rpCp who gl P T G p cl).ok t) (hk : (rpCp who gl P T G p cl).kind t = .acc a f) (hx : x < W.heap.size) (he : rpExt who gl cl t es w' Le') (hxe : x ∉ Le') (hle : ∀ k ∈ Le', k ∈ Le ∧ k < W.heap.size) : (rpCp who gl P T G p cl).Land W w' x t Le := by
  obtain ⟨q, Lc, c1, c2, c3, c4⟩ := h
  refine ⟨c3, x :: (Lc ++ Le'), ⟨hok, es, Le', he, hxe, ?_⟩, fun k hm => by simp at hm; rcases hm with rfl | hm | hm; exact .inl rfl; exact .inr (.inr (c4 k hm)); exact .inr (.inl (hle k hm).1)⟩
  rw [hk]
  refine ⟨q, Lc, ?_, c2, fun hm => absurd (c4 x hm) (by omega), (fun k hm h => by have := c4 k hm; have := (hle k h).2; omega), rfl⟩
  have e : (rpAt who p cl t es none).setIfInBounds 1 (.pointer (some ⟨q, 0, none⟩)) = rpAt who p cl t es (some ⟨q, 0, none⟩) := rp_s1 _
  rw [e] at c1
  exact c1
theorem rp_land_over (h : Blk w' x (rpAt who p cl t es none) 149) (hb : But [x] W w') (hok : (rpCp who gl P T G p cl).ok t) (hk : (rpCp who gl P T G p cl).kind t = .over) (he : rpExt who gl cl t es w' Le') (hxe : x ∉ Le') (hle : ∀ k ∈ Le', k ∈ Le) : (rpCp who gl P T G p cl).Land W w' x t Le := by
  refine ⟨hb, x :: Le', ⟨hok, es, Le', he, hxe, ?_⟩, fun k hm => by simp at hm; rcases hm with rfl | hm; exact .inl rfl; exact .inr (.inl (hle k hm))⟩
  rw [hk]
  exact ⟨h, rfl⟩
theorem rp_land_run {S : Sub} {y q b : Nat} {L : List Nat} {af : After} {pt : S.τ} (hC : CameBox W w' x (rpAt who p cl t es none) 149 (fun v => comCells 0 0 0 0 0 false (.iface S.D (.pointer (some ⟨y, 0, none⟩))) v false false) (af.fol.box x) q b) (hM : S.I w' y pt L) (hxL : x ∉ L) (hL : ∀ k ∈ L, k ∈ Le ∨ W.heap.size ≤ k) (hq : q ∉ L) (hg : b ∉ L) (hok : (rpCp who gl P T G p cl).ok t) (hk : (rpCp who gl P T G p cl).kind t = .run S pt af) (htie : (rpCp who gl P T G p cl).tie t es y) (hx : x < W.heap.size) (he : rpExt who gl cl t es w' Le') (hxe : x ∉ Le') (hd : ∀ k ∈ L, k ∉ Le') (hqe : q ∉ Le' ∧ b ∉ Le') (hle : ∀ k ∈ Le', k ∈ Le ∨ W.heap.size ≤ k) : (rpCp who gl P T G p cl).Land W w' x t Le := by
  refine ⟨hC.at'.but, ?_⟩
  have hfq := hC.at'.fresh
  have hfb := hC.fresh
  refine ⟨x :: q :: b :: (L ++ Le'), ⟨hok, es, Le', he, hxe, ?_⟩, fun k hm => ?_⟩
  · rw [hk]
    refine ⟨q, y, b, L, RunAt.of hC (fun nx => rp_s1 _), hM, htie, ?_, hq, hg, fun k hm => ?_, rfl⟩
    · simp only [List.mem_cons, not_or]
      exact ⟨by omega, by omega, hxL⟩
    · simp only [List.mem_cons] at hm
      rcases hm with rfl | rfl | hm
      · exact hqe.1
      · exact hqe.2
      · exact hd k hm
  · simp only [List.mem_cons, List.mem_append] at hm
    rcases hm with rfl | rfl | rfl | hm | hm
    · exact .inl rfl
    · exact .inr (.inr hfq)
    · exact .inr (.inr hfb)
    · rcases hL k hm with h | h
      · exact .inr (.inl h)
      · exact .inr (.inr h)
    · rcases hle k hm with h | h
      · exact .inr (.inl h)
      · exact .inr (.inr h)
end
end Go.Proofs.YthhlklfioipmgaaGreat

namespace Go.Proofs.YthhlklfioipmgaaGreat
open Go Go.RowKit
set_option linter.unusedVariables false
set_option maxRecDepth 100000
set_option linter.unusedSimpArgs false

/-- A config as a value, and in a box of its own. -/
def cfgV (P T G : Int) : Value := .agg #[.int .i64 P, .int .i64 T, .int .i64 G]
def cfgA (P T G : Int) : Array Value := #[.int .i64 P, .int .i64 T, .int .i64 G]
theorem refg_any (P T G g f : Int) (w : World) (hp : 0 ≤ P ∧ P ≤ 64) (hT : 0 ≤ T ∧ T ≤ 65536) (hg : 0 ≤ g ∧ g ≤ 65536) (hf : 0 ≤ f ∧ f < 2) : Calls Tryz.prog 133 #[.agg #[.int .i64 P, .int .i64 T, .int .i64 G], .int .i64 g, .int .i64 f] w fun e w' => e = .returned (.int .i64 (20 + 264 * P + 3 * T + 2 * g + f)) ∧ Below w.heap.size w w' := by
  have hb : Below w.heap.size w (w.alloc (.cells #[.int .i64 P, .int .i64 T, .int .i64 G] 23)) := (Below.refl _ _).alloc (Nat.le_refl _) _
  go_enter Tryz.func133, Tryz.ntmps133
  go_wp2_with fail
  go_ret
  exact ⟨ret_int (by first | rfl | omega | (unfold wrap64; omega)), hb⟩
theorem refgAt_any (P T G g f : Int) (w : World) (hp : 0 ≤ P ∧ P ≤ 64) (hT : 0 ≤ T ∧ T ≤ 65536) (hG : G ≤ 65536) (hf : 0 ≤ f ∧ f < 2) :
    Calls Tryz.prog 77 #[.agg #[.int .i64 P, .int .i64 T, .int .i64 G], .int .i64 g, .int .i64 f] w fun e w' => e = .returned (.int .i64 (wd (20 + P * 264 + T * 3) G 2 g f)) ∧ Below w.heap.size w w' := by
  have hb : Below w.heap.size w (w.alloc (.cells #[.int .i64 P, .int .i64 T, .int .i64 G] 23)) := (Below.refl _ _).alloc (Nat.le_refl _) _
  by_cases hg : 0 ≤ g ∧ g < G
  · have e : 20 + 264 * P + 3 * T + 2 * g + f = wd (20 + P * 264 + T * 3) G 2 g f := by unfold wd; rw [if_pos ⟨hg.1, hg.2, by omega, by omega⟩]; omega
    have hT := refg_any P T G g f (w.alloc (.cells #[.int .i64 P, .int .i64 T, .int .i64 G] 23)) hp hT (by omega) hf
    rw [e] at hT
    generalize wd (20 + P * 264 + T * 3) G 2 g f = nt at *
    clear e
    have hX : Hid (Blk (w.alloc (.cells #[.int .i64 P, .int .i64 T, .int .i64 G] 23)) w.heap.size #[.int .i64 P, .int .i64 T, .int .i64 G] 23) := Blk.new _ _ _
    have HB : Hid (Below w.heap.size w (w.alloc (.cells #[.int .i64 P, .int .i64 T, .int .i64 G] 23))) := hb
    have hsz := World.size_alloc w (.cells #[.int .i64 P, .int .i64 T, .int .i64 G] 23)
    have d1 : decide (g < 0) = false := decide_eq_false (by omega)
    have d2 : decide (G ≤ g) = false := decide_eq_false (by omega)
    clear hb
    go_enter Tryz.func77, Tryz.ntmps77
    go_wp2_with fail
    go_at_call 133; refine hT.mono ?_; rintro e w1 ⟨rfl, h1⟩
    have h2 := HB.out.trans (h1.mono HB.out.size)
    clear hT h1
    go_wp2_with fail
    go_ret
    exact ⟨rfl, h2⟩
  · have e : wd (20 + P * 264 + T * 3) G 2 g f = -1 := by unfold wd; rw [if_neg (fun h => hg ⟨h.1, h.2.1⟩)]
    rw [e]
    by_cases h0 : g < 0
    · clear hg e
      go_enter Tryz.func77, Tryz.ntmps77
      go_wp2_with fail
      go_ret
      exact ⟨rfl, hb⟩
    · have d1 : decide (g < 0) = false := decide_eq_false h0
      have h1 : G ≤ g := by omega
      clear hg e
      go_enter Tryz.func77, Tryz.ntmps77
      go_wp2_with fail
      go_ret
      exact ⟨rfl, hb⟩
end Go.Proofs.YthhlklfioipmgaaGreat

namespace Go.Proofs.YthhlklfioipmgaaGreat
open Go Go.RowKit
set_option linter.unusedVariables false
set_option maxRecDepth 100000
set_option linter.unusedSimpArgs false

structure QpIn {σ : Type} (M : PM σ) (gl : Int → Int) (l : List Int) (emb : QpT → σ) : Prop where
  ch : ∀ k, M.ax (emb (.ch k)) = some (axSt (gl (l.getD k 0)) (if k + 1 < l.length then qwd (l.getD (k + 1) 0) else 0))
  ld : M.ax (emb .ld) = some (axLd 7)
  pt : ∀ t, M.ax (emb (.pt t)) = some (axSt (if t = 0 then 6 else gl (gw t)) (qwd (l.getD 0 0)))
  tr : M.ax (emb .tr) = some (axSt 7 (qwd (l.getD (l.length - 1) 0)))
  ct : M.ax (emb .ct) = some (axAd 8 l.length)
  n1 : ∀ k v, M.nx (emb (.ch k)) v = if k + 1 < l.length then emb (.ch (k + 1)) else emb .ld
  n2 : ∀ v, M.nx (emb .ld) v = emb (.pt v)
  n3 : ∀ t v, M.nx (emb (.pt t)) v = emb .tr
  n4 : ∀ v, M.nx (emb .tr) v = emb .ct
  n5 : ∀ v, M.nx (emb .ct) v = emb .over
def QpT.live : QpT → Bool
  | .over => false
  | .done0 => false
  | _ => true
theorem qp_in (gl : Int → Int) (l : List Int) : QpIn (qpPM gl l) gl l (fun p => p) where
  ch := fun _ => rfl
  ld := rfl
  pt := fun _ => rfl
  tr := rfl
  ct := rfl
  n1 := fun _ _ => rfl
  n2 := fun _ => rfl
  n3 := fun _ _ => rfl
  n4 := fun _ => rfl
  n5 := fun _ => rfl
/-- Where a put stopped, and what it holds there. -/
def QpQ {σ : Type} (Q : σ → Prop) (emb : QpT → σ) (l held : List Int) (q : σ) : Prop := (Q q ∧ held = l) ∨ ∃ p', QpT.live p' = true ∧ q = emb p' ∧ held = if p'.lies = true then [] else l
def QpE {σ : Type} (Q : σ → Prop) (emb : QpT → σ) (q : σ) : Prop := Q q ∨ ∃ p', QpT.live p' = true ∧ q = emb p' ∧ p'.lies = false
theorem QpE.q {σ : Type} {Q : σ → Prop} {emb : QpT → σ} {l : List Int} {q : σ} (h : QpE Q emb q) : QpQ Q emb l l q := by
  rcases h with h | ⟨p', h1, h2, h3⟩
  · exact .inl ⟨h, rfl⟩
  · exact .inr ⟨p', h1, h2, by rw [h3]; rfl⟩
def QpGot {σ : Type} (M : PM σ) (emb : QpT → σ) (l : List Int) (w : World) (x : Nat) (A : Option Addr) (cap m : Nat) (g : Nat → Int) (s0 : σ) (Q : σ → Prop) (j : Nat) (e : Ending) (w' : World) : Prop := ∃ (v : Value) (held : List Int) (j' : Nat) (p : QpT), e = .returned v ∧ SeesL w' v held ∧ RunOn w' x A cap m g (M.rj s0 g m j') ∧ Syn M s0 g m j' (emb p) (QpQ Q emb l held) ∧ p.live = false ∧ (j' ≤ m → held = if p.lies = true then [] else l) ∧ But [x] w w' ∧ j ≤ j'
theorem SeesL.but {w w' : World} {A : Option Addr} {n cap x : Nat} {l : List Int} (h : SeesL w (.slice A n cap) l) (hB : But [x] w w') (hx : ∀ b off : Nat, A = some ⟨b, off, none⟩ → b ≠ x) : SeesL w' (.slice A n cap) l := by
  obtain ⟨A', cap', e, h1, h2⟩ := h
  cases e
  refine ⟨_, _, rfl, h1, fun hn => ?_⟩
  obtain ⟨b, off, e1, h3, h4⟩ := h2 hn
  refine ⟨b, off, e1, Nat.lt_of_lt_of_le h3 hB.size, fun j hj => ?_⟩
  rw [← h4 j hj]
  have hk := hB.block b h3 (by simpa using hx b off e1)
  simp only [World.cell?]
  rw [hk]

set_option maxHeartbeats 4000000 in
theorem syn_qput {σ : Type} {M : PM σ} {P T G : Int} {l : List Int} {emb : QpT → σ} (hE : QpIn M (fun y => wd (20 + P * 264 + T * 3) G 2 y 1) l emb) (hp : 0 ≤ P ∧ P ≤ 64) (hT : 0 ≤ T ∧ T ≤ 65536) (hG : 0 ≤ G ∧ G ≤ 65536) (hn : l.length ≤ 1000000)
    {w : World} {x : Nat} {A B : Option Addr} {cap cp m : Nat} {g : Nat → Int} {s0 : σ} {j : Nat} {Q : σ → Prop} (hs : SeesL w (.slice B l.length cp) l) (hsx : 0 < l.length → ∀ b off : Nat, B = some ⟨b, off, none⟩ → b ≠ x) (hR : RunOn w x A cap m g (M.rj s0 g m j)) (hS : Syn M s0 g m j (emb (qpStart l)) Q) (hb : ∀ j, j < m → 0 ≤ g j ∧ g j ≤ 18446744073709551615) :
    Calls Tryz.prog 14 #[.pointer (some ⟨x, 0, none⟩), .agg #[.int .i64 P, .int .i64 T, .int .i64 G], .slice B l.length cp] w fun e w' => QpGot M emb l w x A cap m g s0 Q j e w' := by
  have hb0 : Below w.heap.size w (w.alloc (.cells #[.int .i64 P, .int .i64 T, .int .i64 G] 23)) := (Below.refl _ _).alloc (Nat.le_refl _) _
  have HX : Hid (Blk (w.alloc (.cells #[.int .i64 P, .int .i64 T, .int .i64 G] 23)) w.heap.size #[.int .i64 P, .int .i64 T, .int .i64 G] 23) := Blk.new _ _ _
  have hxw := hR.blk.lt
  have HB0 : Hid (But [x] w (w.alloc (.cells #[.int .i64 P, .int .i64 T, .int .i64 G] 23))) := But.of_below hb0
  have HGA : Hid (∀ y w, Calls Tryz.prog 77 #[.agg #[.int .i64 P, .int .i64 T, .int .i64 G], .int .i64 y, .int .i64 1] w fun e w' => e = .returned (.int .i64 (wd (20 + P * 264 + T * 3) G 2 y 1)) ∧ Below w.heap.size w w') := fun y w => refgAt_any P T G y 1 w hp hT hG.2 (by omega)
  have HE : Hid (QpIn M (fun y => wd (20 + P * 264 + T * 3) G 2 y 1) l emb) := hE
  have HBD : Hid (∀ j, j < m → 0 ≤ g j ∧ g j ≤ 18446744073709551615) := hb
  have HSL : Hid (SeesL w (.slice B l.length cp) l) := hs
  have HSX : Hid (0 < l.length → ∀ b off : Nat, B = some ⟨b, off, none⟩ → b ≠ x) := hsx
  have HR0 : Hid (RunOn (w.alloc (.cells #[.int .i64 P, .int .i64 T, .int .i64 G] 23)) x A cap m g (M.rj s0 g m j)) := hR.below hb0
  have HST : Hid (0 < l.length → Syn M s0 g m (j + 0) (emb (.ch 0)) (QpE Q emb)) := fun h0 => by
    have e : qpStart l = .ch 0 := if_neg (fun e => by rw [e] at h0; exact absurd h0 (by simp))
    rw [e] at hS
    exact hS.weak (fun r hr => .inl hr)
  have HS0 : Hid (Syn M s0 g m j (emb (qpStart l)) Q) := hS
  clear hR hS hE hb hb0 hp hT hG hs hsx
  go_enter Tryz.func14, Tryz.ntmps14
  go_wp2_with fail
  generalize w.alloc (.cells #[.int .i64 P, .int .i64 T, .int .i64 G] 23) = W at *
  by_cases hl0 : l.length = 0
  · have hle : l = [] := List.length_eq_zero_iff.1 hl0
    subst hle
    go_loopw [7] (fun i wr => i = .int .i64 0 ∧ wr = W) (fun i _ => 0)
    case atStart => exact ⟨rfl, rfl⟩
    case round =>
      obtain ⟨rfl, rfl⟩ := hrel
      go_wp2_with fail
      go_ret
      exact ⟨.slice none 0 0, [], j, .done0, rfl, ⟨none, 0, rfl, fun _ => ⟨rfl, rfl⟩, fun h => absurd h (by simp)⟩, HR0.out, HS0.out.weak (fun r hr => .inl ⟨hr, rfl⟩), rfl, fun _ => rfl, HB0.out, Nat.le_refl j⟩
  · have h0 : 0 < l.length := by omega
    have HSS : Hid _ := HST.out h0
    clear HS0 HST
    obtain ⟨b, off, rfl, hbl, hcl⟩ : ∃ b off : Nat, B = some ⟨b, off, none⟩ ∧ b < w.heap.size ∧ ∀ j, j < l.length → w.cell? ⟨b, off + j, none⟩ = some (.int .i64 (l.getD j 0)) := by
      obtain ⟨A', cap', e, h1, h2⟩ := HSL.out
      cases e
      exact h2 h0
    have hbx : b ≠ x := HSX.out h0 b off rfl
    have HCL : Hid (∀ Y, But [x] w Y → ∀ j, j < l.length → Y.cell? ⟨b, off + j, none⟩ = some (.int .i64 (l.getD j 0))) := fun Y hY j hj => by
      rw [← hcl j hj]
      have hk := hY.block b hbl (by simpa using hbx)
      simp only [World.cell?]
      rw [hk]
    clear hcl
    go_loopw [7] (fun i wr => ∃ k : Nat, k ≤ l.length ∧ i = .int .i64 k ∧ Hid (RunOn wr x A cap m g (M.rj s0 g m (j + k))) ∧ Hid (Syn M s0 g m (j + k) (emb (if k < l.length then .ch k else .ld)) (QpE Q emb)) ∧ Hid (But [x] w wr) ∧ Hid (Blk wr w.heap.size #[.int .i64 P, .int .i64 T, .int .i64 G] 23)) (fun i _ => l.length - (intOf i).toNat)
    case atStart => exact ⟨0, Nat.zero_le _, rfl, HR0, (by rw [if_pos h0]; exact HSS.out : Syn _ _ _ _ _ _ _), HB0, HX⟩
    case round =>
      clear HR0 HSS HB0 HX
      obtain ⟨k, hk, rfl, HR, HS, HB, HX⟩ := hrel
      by_cases hlt : k < l.length
      · have HS1 : Hid (Syn M s0 g m (j + k) (emb (.ch k)) (QpE Q emb)) := by have := HS.out; rw [if_pos hlt] at this; exact this
        have hk0 : (0 : Int) ≤ (k : Int) := by omega
        have hk1 : (k : Int) < (l.length : Int) := by omega
        have cg := HCL.out wr HB.out k hlt
        have y0 := HX.out.cell 0 (v := .int .i64 P) rfl
        have y1 := HX.out.cell 1 (v := .int .i64 T) rfl
        have y2 := HX.out.cell 2 (v := .int .i64 G) rfl
        obtain ⟨nx, hnx⟩ : ∃ nx, (if k + 1 < l.length then qwd (l.getD (k + 1) 0) else 0) = nx := ⟨_, rfl⟩
        have HAX : Hid (M.ax (emb (.ch k)) = some (axSt (wd (20 + P * 264 + T * 3) G 2 (l.getD k 0) 1) nx)) := by
          have := HE.out.ch k
          rw [hnx] at this
          exact this
        have HLD : Hid _ := HGA.out (l.getD k 0)
        have HCY : Hid (∀ Y, But [x] w Y → Y.cell? ⟨b, off + k, none⟩ = some (.int .i64 (l.getD k 0))) := fun Y hY => HCL.out Y hY k hlt
        generalize l.getD k 0 = yk at *
        clear HS
        by_cases hk2 : k + 1 < l.length
        · have cg2 := HCL.out wr HB.out (k + 1) hk2
          have hk3 : (k : Int) + 1 < (l.length : Int) := by omega
          have hd3 : decide ((k : Int) + 1 < (l.length : Int)) = true := decide_eq_true hk3
          have ht : ((k : Int) + 1).toNat = k + 1 := by omega
          have hnx2 : qwd (l.getD (k + 1) 0) = nx := by rw [if_pos hk2] at hnx; exact hnx
          generalize l.getD (k + 1) 0 = y2' at *
          obtain ⟨y3, hy3⟩ : ∃ y3, IntKind.u64.wrap y2' = y3 := ⟨_, rfl⟩
          have e6 : IntKind.u64.wrap (y3 + 1) = nx := by rw [← hy3]; exact hnx2
          clear hnx hnx2
          obtain ⟨at', hat⟩ : ∃ at', wd (20 + P * 264 + T * 3) G 2 yk 1 = at' := ⟨_, rfl⟩
          rw [hat] at HAX HLD
          obtain ⟨QC, hQC⟩ : ∃ QC : World → Prop, QC = fun w' => RunOn w' x A cap m g (M.rj s0 g m (j + k + 1)) ∧ Syn M s0 g m (j + k + 1) (emb (.ch (k + 1))) (QpE Q emb) ∧ But [x] w w' ∧ Blk w' w.heap.size #[.int .i64 P, .int .i64 T, .int .i64 G] 23 := ⟨_, rfl⟩
          have HGAd := HLD.out wr.drew
          have HSt : Hid (∀ w4, Below wr.drew.heap.size wr.drew w4 → Calls Tryz.prog 76 #[.pointer (some ⟨x, 0, none⟩), .int .i64 at', .int .u64 nx] w4 fun e w' => (∃ u, e = .returned u) ∧ QC w') := fun w4 k4 => by
            have hb4 : Below wr.heap.size wr w4 := (show Below wr.heap.size wr wr.drew from (Below.refl _ _).drew).trans k4
            refine (syn_store (HR.out.below hb4) HS1.out HBD.out at' nx (fun _ => HAX.out)).mono ?_
            rintro e w' ⟨hu, v5, hK⟩
            refine ⟨hu, ?_⟩
            rw [hQC]
            refine ⟨hK.run, ?_, (HB.out.trans (But.of_below hb4)).trans hK.but, (HX.out.but (But.of_below (l := []) hb4) (by simp)).but hK.but (by simp; omega)⟩
            have h5 := hK.syn
            rw [HE.out.n1, if_pos hk2] at h5
            exact h5.weak (fun r hr => by rcases hr with rfl | hr; exact .inr ⟨.ch k, rfl, rfl, rfl⟩; exact hr)
          have HSC : Hid (∀ Y, But [x] w Y → Blk Y w.heap.size #[.int .i64 P, .int .i64 T, .int .i64 G] 23 → (Y.cell? ⟨w.heap.size, 0, none⟩ = some (.int .i64 P) ∧ Y.cell? ⟨w.heap.size, 1, none⟩ = some (.int .i64 T) ∧ Y.cell? ⟨w.heap.size, 2, none⟩ = some (.int .i64 G) ∧ Y.cell? ⟨b, off + k, none⟩ = some (.int .i64 yk))) := fun Y hY hBY => ⟨hBY.cell 0 rfl, hBY.cell 1 rfl, hBY.cell 2 rfl, HCY.out Y hY⟩
          have hH : Hid (wr.drew.cell? ⟨w.heap.size, 0, none⟩ = some (.int .i64 P) ∧ wr.drew.cell? ⟨w.heap.size, 1, none⟩ = some (.int .i64 T) ∧ wr.drew.cell? ⟨w.heap.size, 2, none⟩ = some (.int .i64 G) ∧ wr.drew.cell? ⟨b, off + k, none⟩ = some (.int .i64 yk)) := HSC.out _ HB.out.drew HX.out.drew
          have KB : Hid (∀ w4, Below wr.drew.heap.size wr.drew w4 → (w4.cell? ⟨w.heap.size, 0, none⟩ = some (.int .i64 P) ∧ w4.cell? ⟨w.heap.size, 1, none⟩ = some (.int .i64 T) ∧ w4.cell? ⟨w.heap.size, 2, none⟩ = some (.int .i64 G) ∧ w4.cell? ⟨b, off + k, none⟩ = some (.int .i64 yk))) := fun w4 k4 => by
            have hb4 : Below wr.heap.size wr w4 := (show Below wr.heap.size wr wr.drew from (Below.refl _ _).drew).trans k4
            exact HSC.out _ (HB.out.trans (But.of_below hb4)) (HX.out.but (But.of_below (l := []) hb4) (by simp))
          have KC : Hid (∀ w5, QC w5 → (w5.cell? ⟨w.heap.size, 0, none⟩ = some (.int .i64 P) ∧ w5.cell? ⟨w.heap.size, 1, none⟩ = some (.int .i64 T) ∧ w5.cell? ⟨w.heap.size, 2, none⟩ = some (.int .i64 G) ∧ w5.cell? ⟨b, off + k, none⟩ = some (.int .i64 yk))) := fun w5 hC => by
            rw [hQC] at hC
            exact HSC.out _ hC.2.2.1 hC.2.2.2
          have HQC : Hid (∀ w5, QC w5 → RunOn w5 x A cap m g (M.rj s0 g m (j + (k + 1))) ∧ Syn M s0 g m (j + (k + 1)) (emb (if k + 1 < l.length then .ch (k + 1) else .ld)) (QpE Q emb) ∧ But [x] w w5 ∧ Blk w5 w.heap.size #[.int .i64 P, .int .i64 T, .int .i64 G] 23) := fun w5 hC => by
            rw [hQC] at hC
            rw [if_pos hk2]
            exact hC
          clear hQC hat HLD HAX HR HS1 HB HX y0 y1 y2 cg
          go_wp2_with fail
          clear cg2
          go_region_held3 (fun w' => w'.cell? ⟨w.heap.size, 0, none⟩ = some (.int .i64 P) ∧ w'.cell? ⟨w.heap.size, 1, none⟩ = some (.int .i64 T) ∧ w'.cell? ⟨w.heap.size, 2, none⟩ = some (.int .i64 G) ∧ w'.cell? ⟨b, off + k, none⟩ = some (.int .i64 yk)) (first | exact hH.out | exact KB.out _ ‹_› | exact KC.out _ ‹_›) (first | (go_at_call 77; refine HGAd.mono ?_; rintro e w4 ⟨rfl, k4⟩) | (go_at_call 76; refine (HSt.out _ ‹_›).mono ?_; rintro e w5 ⟨⟨u, rfl⟩, hC⟩))
          all_goals
            have HF : Hid _ := HQC.out _ hC
            clear HGAd HSt HSC hH KB KC HQC hC
            go_wp2_with fail
            go_roundw
            case rel => exact ⟨k + 1, by omega, by go_num, HF.out.1, HF.out.2.1, HF.out.2.2.1, HF.out.2.2.2⟩
            case measure => simp [intOf]; omega
        · have hk3 : ¬ ((k : Int) + 1 < (l.length : Int)) := by omega
          have hd3 : decide ((k : Int) + 1 < (l.length : Int)) = false := decide_eq_false hk3
          have hnx2 : (0 : Int) = nx := by rw [if_neg hk2] at hnx; exact hnx
          clear hnx
          subst hnx2
          obtain ⟨at', hat⟩ : ∃ at', wd (20 + P * 264 + T * 3) G 2 yk 1 = at' := ⟨_, rfl⟩
          rw [hat] at HAX HLD
          obtain ⟨QC, hQC⟩ : ∃ QC : World → Prop, QC = fun w' => RunOn w' x A cap m g (M.rj s0 g m (j + k + 1)) ∧ Syn M s0 g m (j + k + 1) (emb (.ld)) (QpE Q emb) ∧ But [x] w w' ∧ Blk w' w.heap.size #[.int .i64 P, .int .i64 T, .int .i64 G] 23 := ⟨_, rfl⟩
          have HGAd := HLD.out wr.drew
          have HSt : Hid (∀ w4, Below wr.drew.heap.size wr.drew w4 → Calls Tryz.prog 76 #[.pointer (some ⟨x, 0, none⟩), .int .i64 at', .int .u64 0] w4 fun e w' => (∃ u, e = .returned u) ∧ QC w') := fun w4 k4 => by
            have hb4 : Below wr.heap.size wr w4 := (show Below wr.heap.size wr wr.drew from (Below.refl _ _).drew).trans k4
            refine (syn_store (HR.out.below hb4) HS1.out HBD.out at' 0 (fun _ => HAX.out)).mono ?_
            rintro e w' ⟨hu, v5, hK⟩
            refine ⟨hu, ?_⟩
            rw [hQC]
            refine ⟨hK.run, ?_, (HB.out.trans (But.of_below hb4)).trans hK.but, (HX.out.but (But.of_below (l := []) hb4) (by simp)).but hK.but (by simp; omega)⟩
            have h5 := hK.syn
            rw [HE.out.n1, if_neg hk2] at h5
            exact h5.weak (fun r hr => by rcases hr with rfl | hr; exact .inr ⟨.ch k, rfl, rfl, rfl⟩; exact hr)
          have HSC : Hid (∀ Y, But [x] w Y → Blk Y w.heap.size #[.int .i64 P, .int .i64 T, .int .i64 G] 23 → (Y.cell? ⟨w.heap.size, 0, none⟩ = some (.int .i64 P) ∧ Y.cell? ⟨w.heap.size, 1, none⟩ = some (.int .i64 T) ∧ Y.cell? ⟨w.heap.size, 2, none⟩ = some (.int .i64 G) ∧ Y.cell? ⟨b, off + k, none⟩ = some (.int .i64 yk))) := fun Y hY hBY => ⟨hBY.cell 0 rfl, hBY.cell 1 rfl, hBY.cell 2 rfl, HCY.out Y hY⟩
          have hH : Hid (wr.drew.cell? ⟨w.heap.size, 0, none⟩ = some (.int .i64 P) ∧ wr.drew.cell? ⟨w.heap.size, 1, none⟩ = some (.int .i64 T) ∧ wr.drew.cell? ⟨w.heap.size, 2, none⟩ = some (.int .i64 G) ∧ wr.drew.cell? ⟨b, off + k, none⟩ = some (.int .i64 yk)) := HSC.out _ HB.out.drew HX.out.drew
          have KB : Hid (∀ w4, Below wr.drew.heap.size wr.drew w4 → (w4.cell? ⟨w.heap.size, 0, none⟩ = some (.int .i64 P) ∧ w4.cell? ⟨w.heap.size, 1, none⟩ = some (.int .i64 T) ∧ w4.cell? ⟨w.heap.size, 2, none⟩ = some (.int .i64 G) ∧ w4.cell? ⟨b, off + k, none⟩ = some (.int .i64 yk))) := fun w4 k4 => by
            have hb4 : Below wr.heap.size wr w4 := (show Below wr.heap.size wr wr.drew from (Below.refl _ _).drew).trans k4
            exact HSC.out _ (HB.out.trans (But.of_below hb4)) (HX.out.but (But.of_below (l := []) hb4) (by simp))
          have KC : Hid (∀ w5, QC w5 → (w5.cell? ⟨w.heap.size, 0, none⟩ = some (.int .i64 P) ∧ w5.cell? ⟨w.heap.size, 1, none⟩ = some (.int .i64 T) ∧ w5.cell? ⟨w.heap.size, 2, none⟩ = some (.int .i64 G) ∧ w5.cell? ⟨b, off + k, none⟩ = some (.int .i64 yk))) := fun w5 hC => by
            rw [hQC] at hC
            exact HSC.out _ hC.2.2.1 hC.2.2.2
          have HQC : Hid (∀ w5, QC w5 → RunOn w5 x A cap m g (M.rj s0 g m (j + (k + 1))) ∧ Syn M s0 g m (j + (k + 1)) (emb (if k + 1 < l.length then .ch (k + 1) else .ld)) (QpE Q emb) ∧ But [x] w w5 ∧ Blk w5 w.heap.size #[.int .i64 P, .int .i64 T, .int .i64 G] 23) := fun w5 hC => by
            rw [hQC] at hC
            rw [if_neg hk2]
            exact hC
          clear hQC hat HLD HAX HR HS1 HB HX y0 y1 y2 cg
          go_wp2_with fail
          go_region_held3 (fun w' => w'.cell? ⟨w.heap.size, 0, none⟩ = some (.int .i64 P) ∧ w'.cell? ⟨w.heap.size, 1, none⟩ = some (.int .i64 T) ∧ w'.cell? ⟨w.heap.size, 2, none⟩ = some (.int .i64 G) ∧ w'.cell? ⟨b, off + k, none⟩ = some (.int .i64 yk)) (first | exact hH.out | exact KB.out _ ‹_› | exact KC.out _ ‹_›) (first | (go_at_call 77; refine HGAd.mono ?_; rintro e w4 ⟨rfl, k4⟩) | (go_at_call 76; refine (HSt.out _ ‹_›).mono ?_; rintro e w5 ⟨⟨u, rfl⟩, hC⟩))
          all_goals
            have HF : Hid _ := HQC.out _ hC
            clear HGAd HSt HSC hH KB KC HQC hC
            go_wp2_with fail
            go_roundw
            case rel => exact ⟨k + 1, by omega, by go_num, HF.out.1, HF.out.2.1, HF.out.2.2.1, HF.out.2.2.2⟩
            case measure => simp [intOf]; omega
      · obtain rfl : k = l.length := by omega
        have HS1 : Hid (Syn M s0 g m (j + l.length) (emb .ld) (QpE Q emb)) := by have := HS.out; rw [if_neg hlt] at this; exact this
        have hgd : decide ((l.length : Int) < (l.length : Int)) = false := by simp
        have hz0 : ((l.length : Int) == 0) = false := by rw [beq_eq_false_iff_ne]; omega
        have hz1 : decide ((l.length : Int) = 0) = false := decide_eq_false (by omega)
        have hL := syn_load HR.out HS1.out HBD.out 7 (fun _ => HE.out.ld)
        have HJ : Hid (∀ q : Nat, j ≤ j + l.length + q) := fun q => (by omega : j ≤ j + l.length + q)
        generalize j + l.length = j1 at *
        clear HS hlt hk HR HS1
        go_wp2_with fail
        go_at_call 78; refine hL.mono ?_; rintro e z2 ⟨t, rfl, hK⟩
        have htb := hK.bd
        have HR2 : Hid (RunOn z2 x A cap m g (M.rj s0 g m (j1 + 1))) := hK.run
        have HS2 : Hid (Syn M s0 g m (j1 + 1) (emb (.pt t)) (QpE Q emb)) := by
          have := hK.syn
          rw [HE.out.n2] at this
          exact this.weak (fun r hr => by rcases hr with rfl | hr; exact .inr ⟨.ld, rfl, rfl, rfl⟩; exact hr)
        have HB2 : Hid (But [x] w z2) := HB.out.trans hK.but
        have HX2 : Hid (Blk z2 w.heap.size #[.int .i64 P, .int .i64 T, .int .i64 G] 23) := HX.out.but hK.but (by simp; omega)
        clear hL hK HB HX
        have HC0 : Hid (∀ Y, But [x] w Y → Y.cell? ⟨b, off, none⟩ = some (.int .i64 (l.getD 0 0))) := fun Y hY => HCL.out Y hY 0 h0
        have HCN : Hid (∀ Y, But [x] w Y → Y.cell? ⟨b, off + (l.length - 1), none⟩ = some (.int .i64 (l.getD (l.length - 1) 0))) := fun Y hY => HCL.out Y hY (l.length - 1) (by omega)
        have HPT : Hid (∀ t, M.ax (emb (.pt t)) = some (axSt (if t = 0 then 6 else wd (20 + P * 264 + T * 3) G 2 (gw t) 1) (qwd (l.getD 0 0)))) := HE.out.pt
        have HTR : Hid (M.ax (emb .tr) = some (axSt 7 (qwd (l.getD (l.length - 1) 0)))) := HE.out.tr
        generalize l.getD 0 0 = ya at *
        generalize l.getD (l.length - 1) 0 = yz at *
        obtain ⟨ya1, hya1⟩ : ∃ a, IntKind.u64.wrap ya = a := ⟨_, rfl⟩
        obtain ⟨ya2, hya2⟩ : ∃ a, qwd ya = a := ⟨_, rfl⟩
        have e2 : IntKind.u64.wrap (ya1 + 1) = ya2 := by rw [← hya1]; exact hya2
        obtain ⟨yz1, hyz1⟩ : ∃ a, IntKind.u64.wrap yz = a := ⟨_, rfl⟩
        obtain ⟨yz2, hyz2⟩ : ∃ a, qwd yz = a := ⟨_, rfl⟩
        have e4 : IntKind.u64.wrap (yz1 + 1) = yz2 := by rw [← hyz1]; exact hyz2
        rw [hya2] at HPT
        rw [hyz2] at HTR
        clear hya2 hyz2
        have e5 : IntKind.u64.wrap (l.length : Int) = (l.length : Int) := wrap_u64 (by omega)
        have e6 : ((l.length : Int) - 1).toNat = l.length - 1 := by omega
        have e7 : (0 : Int) < (l.length : Int) := by omega
        have e8 : (l.length : Int) - 1 < (l.length : Int) := by omega
        have e9 : (0 : Int) ≤ (l.length : Int) - 1 := by omega
        by_cases t0 : t = 0
        · subst t0
          have cg := HC0.out z2 HB2.out
          have HP0 : Hid (M.ax (emb (.pt 0)) = some (axSt 6 ya2)) := by have := HPT.out 0; rw [if_pos rfl] at this; exact this
          have hSt := syn_store HR2.out HS2.out HBD.out 6 ya2 (fun _ => HP0.out)
          clear HPT HP0 htb
          go_wp2_with fail
          go_at_call 76; refine hSt.mono ?_; rintro e z4 ⟨⟨u4, rfl⟩, v4, hK⟩
          have HR4 : Hid (RunOn z4 x A cap m g (M.rj s0 g m (j1 + 1 + 1))) := hK.run
          have HS4 : Hid (Syn M s0 g m (j1 + 1 + 1) (emb .tr) (QpE Q emb)) := by
            have := hK.syn
            rw [HE.out.n3] at this
            exact this.weak (fun r hr => by rcases hr with rfl | hr; exact .inr ⟨.pt 0, rfl, rfl, rfl⟩; exact hr)
          have HB4 : Hid (But [x] w z4) := HB2.out.trans hK.but
          have s4 := HR4.out.blk.cell 2 (v := .bool (M.rj s0 g m (j1 + 1 + 1)).stop) rfl
          rw [rj_stop HS4.out] at s4
          have cz := HCN.out z4 HB4.out
          have hSt2 := syn_store HR4.out HS4.out HBD.out 7 yz2 (fun _ => HTR.out)
          clear hSt hK cg HB2 HR2 HS2
          by_cases hm4 : m < j1 + 1 + 1
          · rw [decide_eq_true hm4] at s4
            have HM : Hid (m < j1 + 1 + 1) := hm4
            clear hm4
            go_wp2_with fail
            go_at_call 76; refine hSt2.mono ?_; rintro e z5 ⟨⟨u5, rfl⟩, v5, hK⟩
            have HB5 : Hid (But [x] w z5) := HB4.out.trans hK.but
            have HS5 : Hid (Syn M s0 g m (j1 + 1 + 1 + 1) (emb .ct) (QpQ Q emb l l)) := ⟨fun h => absurd h (by have := HM.out; omega), fun h => ⟨(HS4.out.past HM.out).1.q, (HS4.out.past HM.out).2⟩⟩
            have hA := syn_add hK.run HS5.out HBD.out 8 (l.length : Int) (fun _ => HE.out.ct)
            clear hSt2 hK s4 cz
            go_wp2_with fail
            go_at_call 79; refine hA.mono ?_; rintro e z6 ⟨v6, rfl, hK⟩
            have HF : Hid (QpGot M emb l w x A cap m g s0 Q j (.returned (.slice (some ⟨b, off, none⟩) l.length cp)) z6) := ⟨_, l, j1 + 1 + 1 + 1 + 1, .over, rfl, HSL.out.but (HB5.out.trans hK.but) (HSX.out (by omega)), hK.run, ⟨fun h => absurd h (by have := HM.out; omega), fun h => ⟨(HS5.out.past (by have := HM.out; omega)).1, (HS5.out.past (by have := HM.out; omega)).2⟩⟩, rfl, fun h => absurd h (by have := HM.out; omega), HB5.out.trans hK.but, HJ.out 4⟩
            clear hA hK
            go_wp2_with fail
            go_ret
            exact HF.out
          · rw [decide_eq_false hm4] at s4
            have HM : Hid (j1 + 1 + 1 ≤ m) := (by omega : j1 + 1 + 1 ≤ m)
            clear hm4
            go_wp2_with fail
            go_at_call 76; refine hSt2.mono ?_; rintro e z5 ⟨⟨u5, rfl⟩, v5, hK⟩
            have HB5 : Hid (But [x] w z5) := HB4.out.trans hK.but
            have HS5 : Hid (Syn M s0 g m (j1 + 1 + 1 + 1) (emb .ct) (QpQ Q emb l [])) := by
              have h5 := hK.syn
              rw [HE.out.n4] at h5
              refine ⟨h5.at', fun h => ⟨?_, (h5.past h).2⟩⟩
              have hmj : m = j1 + 1 + 1 := by have := HM.out; omega
              have h6 := HS4.out.at' HM.out
              rw [← hmj] at h6
              exact .inr ⟨.tr, rfl, h6, rfl⟩
            have hA := syn_add hK.run HS5.out HBD.out 8 (l.length : Int) (fun _ => HE.out.ct)
            clear hSt2 hK s4 cz
            go_wp2_with fail
            go_at_call 79; refine hA.mono ?_; rintro e z6 ⟨v6, rfl, hK⟩
            have HF : Hid (QpGot M emb l w x A cap m g s0 Q j (.returned (.slice none 0 0)) z6) := by
              have h7 := hK.syn
              rw [HE.out.n5] at h7
              exact ⟨_, [], j1 + 1 + 1 + 1 + 1, .over, rfl, ⟨none, 0, rfl, fun _ => ⟨rfl, rfl⟩, fun h => absurd h (by simp)⟩, hK.run, h7.weak (fun r hr => by rcases hr with rfl | hr; exact .inr ⟨.ct, rfl, rfl, rfl⟩; exact hr), rfl, fun _ => rfl, HB5.out.trans hK.but, HJ.out 4⟩
            clear hA hK
            go_wp2_with fail
            go_ret
            exact HF.out
        · have ht0 : (t == 0) = false := by simpa using t0
          have ht1 : (t != 0) = true := by simpa using t0
          have HP0 : Hid (M.ax (emb (.pt t)) = some (axSt (wd (20 + P * 264 + T * 3) G 2 (gw t) 1) ya2)) := by have := HPT.out t; rw [if_neg t0] at this; exact this
          have hGA2 := HGA.out (gw t) z2
          have y0 := HX2.out.cell 0 (v := .int .i64 P) rfl
          have y1 := HX2.out.cell 1 (v := .int .i64 T) rfl
          have y2 := HX2.out.cell 2 (v := .int .i64 G) rfl
          have eg : wrap64 (IntKind.i64.wrap t - 1) = gw t := gw_eq t htb
          have HSt0 : Hid (∀ Y, Below z2.heap.size z2 Y → Calls Tryz.prog 76 #[.pointer (some ⟨x, 0, none⟩), .int .i64 (wd (20 + P * 264 + T * 3) G 2 (gw t) 1), .int .u64 ya2] Y fun e w' => (∃ v, e = .returned v) ∧ ∃ v, Kept' Y w' x A cap m g M s0 (j1 + 1) (emb (.pt t)) (QpE Q emb) v) := fun Y hY => syn_store (HR2.out.below hY) HS2.out HBD.out _ ya2 (fun _ => HP0.out)
          generalize wd (20 + P * 264 + T * 3) G 2 (gw t) 1 = at' at *
          generalize gw t = gt at *
          generalize hvv : IntKind.i64.wrap t = t' at *
          clear HPT HP0
          go_wp2_with fail
          go_at_call 77; refine hGA2.mono ?_; rintro e z3 ⟨rfl, k3⟩
          have hSt := HSt0.out z3 k3
          have HB2 : Hid (But [x] w z3) := HB2.out.trans (But.of_below k3)
          have cg := HC0.out z3 HB2.out
          clear hGA2 HSt0 k3 y0 y1 y2 HX2 eg hvv
          go_wp2_with fail
          go_at_call 76; refine hSt.mono ?_; rintro e z4 ⟨⟨u4, rfl⟩, v4, hK⟩
          have HR4 : Hid (RunOn z4 x A cap m g (M.rj s0 g m (j1 + 1 + 1))) := hK.run
          have HS4 : Hid (Syn M s0 g m (j1 + 1 + 1) (emb .tr) (QpE Q emb)) := by
            have := hK.syn
            rw [HE.out.n3] at this
            exact this.weak (fun r hr => by rcases hr with rfl | hr; exact .inr ⟨.pt t, rfl, rfl, rfl⟩; exact hr)
          have HB4 : Hid (But [x] w z4) := HB2.out.trans hK.but
          have s4 := HR4.out.blk.cell 2 (v := .bool (M.rj s0 g m (j1 + 1 + 1)).stop) rfl
          rw [rj_stop HS4.out] at s4
          have cz := HCN.out z4 HB4.out
          have hSt2 := syn_store HR4.out HS4.out HBD.out 7 yz2 (fun _ => HTR.out)
          clear hSt hK cg HB2 HR2 HS2
          by_cases hm4 : m < j1 + 1 + 1
          · rw [decide_eq_true hm4] at s4
            have HM : Hid (m < j1 + 1 + 1) := hm4
            clear hm4
            go_wp2_with fail
            go_at_call 76; refine hSt2.mono ?_; rintro e z5 ⟨⟨u5, rfl⟩, v5, hK⟩
            have HB5 : Hid (But [x] w z5) := HB4.out.trans hK.but
            have HS5 : Hid (Syn M s0 g m (j1 + 1 + 1 + 1) (emb .ct) (QpQ Q emb l l)) := ⟨fun h => absurd h (by have := HM.out; omega), fun h => ⟨(HS4.out.past HM.out).1.q, (HS4.out.past HM.out).2⟩⟩
            have hA := syn_add hK.run HS5.out HBD.out 8 (l.length : Int) (fun _ => HE.out.ct)
            clear hSt2 hK s4 cz
            go_wp2_with fail
            go_at_call 79; refine hA.mono ?_; rintro e z6 ⟨v6, rfl, hK⟩
            have HF : Hid (QpGot M emb l w x A cap m g s0 Q j (.returned (.slice (some ⟨b, off, none⟩) l.length cp)) z6) := ⟨_, l, j1 + 1 + 1 + 1 + 1, .over, rfl, HSL.out.but (HB5.out.trans hK.but) (HSX.out (by omega)), hK.run, ⟨fun h => absurd h (by have := HM.out; omega), fun h => ⟨(HS5.out.past (by have := HM.out; omega)).1, (HS5.out.past (by have := HM.out; omega)).2⟩⟩, rfl, fun h => absurd h (by have := HM.out; omega), HB5.out.trans hK.but, HJ.out 4⟩
            clear hA hK
            go_wp2_with fail
            go_ret
            exact HF.out
          · rw [decide_eq_false hm4] at s4
            have HM : Hid (j1 + 1 + 1 ≤ m) := (by omega : j1 + 1 + 1 ≤ m)
            clear hm4
            go_wp2_with fail
            go_at_call 76; refine hSt2.mono ?_; rintro e z5 ⟨⟨u5, rfl⟩, v5, hK⟩
            have HB5 : Hid (But [x] w z5) := HB4.out.trans hK.but
            have HS5 : Hid (Syn M s0 g m (j1 + 1 + 1 + 1) (emb .ct) (QpQ Q emb l [])) := by
              have h5 := hK.syn
              rw [HE.out.n4] at h5
              refine ⟨h5.at', fun h => ⟨?_, (h5.past h).2⟩⟩
              have hmj : m = j1 + 1 + 1 := by have := HM.out; omega
              have h6 := HS4.out.at' HM.out
              rw [← hmj] at h6
              exact .inr ⟨.tr, rfl, h6, rfl⟩
            have hA := syn_add hK.run HS5.out HBD.out 8 (l.length : Int) (fun _ => HE.out.ct)
            clear hSt2 hK s4 cz
            go_wp2_with fail
            go_at_call 79; refine hA.mono ?_; rintro e z6 ⟨v6, rfl, hK⟩
            have HF : Hid (QpGot M emb l w x A cap m g s0 Q j (.returned (.slice none 0 0)) z6) := by
              have h7 := hK.syn
              rw [HE.out.n5] at h7
              exact ⟨_, [], j1 + 1 + 1 + 1 + 1, .over, rfl, ⟨none, 0, rfl, fun _ => ⟨rfl, rfl⟩, fun h => absurd h (by simp)⟩, hK.run, h7.weak (fun r hr => by rcases hr with rfl | hr; exact .inr ⟨.ct, rfl, rfl, rfl⟩; exact hr), rfl, fun _ => rfl, HB5.out.trans hK.but, HJ.out 4⟩
            clear hA hK
            go_wp2_with fail
            go_ret
            exact HF.out
end Go.Proofs.YthhlklfioipmgaaGreat

namespace Go.Proofs.YthhlklfioipmgaaGreat
open Go Go.RowKit
set_option linter.unusedVariables false
set_option maxRecDepth 100000
set_option linter.unusedSimpArgs false

theorem rqput_on (w : World) (x : Nat) (A B : Option Addr) (cap cp m : Nat) (gf : Nat → Int) (P T G : Int) (l : List Int) (t : QpT) (h : RunOn w x A cap m gf rn0) (hh : Hist (qpPM (fun y => wd (20 + P * 264 + T * 3) G 2 y 1) l) (qpStart l) gf m t) (hp : 0 ≤ P ∧ P ≤ 64) (hT : 0 ≤ T ∧ T ≤ 65536) (hG : 0 ≤ G ∧ G ≤ 65536) (hn : l.length ≤ 1000000)
    (hs : SeesL w (.slice B l.length cp) l) (hsx : 0 < l.length → ∀ b off : Nat, B = some ⟨b, off, none⟩ → b ≠ x) :
    Calls Tryz.prog 14 #[.pointer (some ⟨x, 0, none⟩), .agg #[.int .i64 P, .int .i64 T, .int .i64 G], .slice B l.length cp] w fun e w' => ∃ v, e = .returned v ∧ SeesL w' v (if t.lies = true then [] else l) ∧ RunOn w' x A cap m gf ((qpPM (fun y => wd (20 + P * 264 + T * 3) G 2 y 1) l).rn t m) ∧ But [x] w w' := by
  rw [← rj_start (M := qpPM (fun y => wd (20 + P * 264 + T * 3) G 2 y 1) l) (s0 := qpStart l) (g := gf) (m := m)] at h
  refine (syn_qput (qp_in _ l) hp hT hG hn hs hsx h (Syn.start _ _ _ _) hh.bd).mono ?_
  rintro e w' ⟨v, held, j', p, rfl, h0, h1, h2, h3, h4, h5, -⟩
  have hn' : (qpPM (fun y => wd (20 + P * 264 + T * 3) G 2 y 1) l).ax p = none := by cases p <;> first | rfl | cases h3
  have hr : held = if t.lies = true then [] else l := by
    rcases h2.fin hh (fun _ => hn') with ⟨e1, e2⟩ | ⟨-, (⟨hf, -⟩ | ⟨p', -, e1, e2⟩)⟩
    · rw [e1]; exact h4 (by omega)
    · exact hf.elim
    · rw [e1]; exact e2
  rw [← hr]
  refine ⟨v, rfl, h0, ?_, h5⟩
  rw [← rj_end h2 hh (fun _ => hn')]
  exact h1
theorem qp_axok (gl : Int → Int) (l : List Int) (hn : l.length ≤ 1000000) : ∀ t a, (qpPM gl l).ax t = some a → a.Ok := by
  intro t a h
  cases t with
  | ch k =>
    cases h
    have := qwd_bd (l.getD (k + 1) 0)
    refine axSt_ok _ _ ?_
    split <;> omega
  | ld => cases h; exact axLd_ok _
  | pt t => cases h; exact axSt_ok _ _ (qwd_bd _)
  | tr => cases h; exact axSt_ok _ _ (qwd_bd _)
  | ct => cases h; exact axAd_ok _ _ (by omega)
  | over => cases h
  | done0 => cases h
theorem qp_new_any (w : World) (cl : Nat) (who P T G : Int) (sl : Value) (l : List Int) (hs : SeesL w sl l) (hn : l.length ≤ 1000000) (hl : Lay w cl P T G) (hp : 0 ≤ P ∧ P ≤ 64) (hT : 0 ≤ T ∧ T ≤ 65536) (hG : 0 ≤ G ∧ G ≤ 65536) :
    Calls Tryz.prog 12 #[.pointer (some ⟨cl, 0, none⟩), .int .i64 who, sl] w fun e w' => ∃ x L, e = .returned (.pointer (some ⟨x, 0, none⟩)) ∧ qpI who cl (fun y => wd (20 + P * 264 + T * 3) G 2 y 1) l w' x (qpStart l) L ∧ Below w.heap.size w w' ∧ (∀ k ∈ L, w.heap.size ≤ k) := by
  by_cases h0 : l = []
  · subst h0
    refine (qp_new_nil w cl who (fun y => wd (20 + P * 264 + T * 3) G 2 y 1) sl hs).mono ?_
    rintro e w' ⟨x, L, h1, h2, h3, h4, -⟩
    exact ⟨x, L, h1, h2, h3, h4⟩
  · refine (qp_new_some w cl who P T G sl l hs (List.length_pos_iff.2 h0) hn hl hp hT hG).mono ?_
    rintro e w' ⟨x, L, h1, h2, h3, h4, -⟩
    refine ⟨x, L, h1, ?_, h3, h4⟩
    rw [show qpStart l = .ch 0 from if_neg h0]
    exact h2
def knownL (G : Int) (l : List Int) : Bool := l.all (fun y => decide (0 ≤ y ∧ y < G))
set_option maxHeartbeats 4000000 in
theorem known_any (w : World) (P T G : Int) (B : Option Addr) (cp : Nat) (l : List Int) (hs : SeesL w (.slice B l.length cp) l) (hn : l.length ≤ 1000000) :
    Calls Tryz.prog 10 #[.agg #[.int .i64 P, .int .i64 T, .int .i64 G], .slice B l.length cp] w fun e w' => e = .returned (.bool (knownL G l)) ∧ Below w.heap.size w w' := by
  have hb0 : Below w.heap.size w (w.alloc (.cells #[.int .i64 P, .int .i64 T, .int .i64 G] 23)) := (Below.refl _ _).alloc (Nat.le_refl _) _
  have HX : Hid (Blk (w.alloc (.cells #[.int .i64 P, .int .i64 T, .int .i64 G] 23)) w.heap.size #[.int .i64 P, .int .i64 T, .int .i64 G] 23) := Blk.new _ _ _
  have HSL : Hid (SeesL (w.alloc (.cells #[.int .i64 P, .int .i64 T, .int .i64 G] 23)) (.slice B l.length cp) l) := hs.below hb0
  have HB0 : Hid (Below w.heap.size w (w.alloc (.cells #[.int .i64 P, .int .i64 T, .int .i64 G] 23))) := hb0
  clear hs hb0
  go_enter Tryz.func10, Tryz.ntmps10
  go_wp2_with fail
  generalize w.alloc (.cells #[.int .i64 P, .int .i64 T, .int .i64 G] 23) = W at *
  go_loopw [5] (fun i wr => ∃ k q : Nat, k ≤ l.length ∧ i = .int .i64 k ∧ wr = W.drewN q ∧ (l.take k).all (fun y => decide (0 ≤ y ∧ y < G)) = true) (fun i _ => l.length - (intOf i).toNat)
  case atStart => exact ⟨0, 0, Nat.zero_le _, rfl, rfl, rfl⟩
  case round =>
    obtain ⟨k, q, hk, rfl, rfl, hall⟩ := hrel
    have HALL : Hid ((l.take k).all (fun y => decide (0 ≤ y ∧ y < G)) = true) := hall
    clear hall
    by_cases hlt : k < l.length
    · obtain ⟨b, off, rfl, hbb, hcl⟩ : ∃ b off : Nat, B = some ⟨b, off, none⟩ ∧ b < W.heap.size ∧ ∀ j, j < l.length → W.cell? ⟨b, off + j, none⟩ = some (.int .i64 (l.getD j 0)) := by
        obtain ⟨A', cap', e, h1, h2⟩ := HSL.out
        cases e
        exact h2 (by omega)
      have cg := hcl k hlt
      have hk0 : (0 : Int) ≤ (k : Int) := by omega
      have hk1 : (k : Int) < (l.length : Int) := by omega
      have z2 := HX.out.cell 2 (v := .int .i64 G) rfl
      have HTK : Hid (l.take (k + 1) = l.take k ++ [l.getD k 0]) := by
        show l.take (k + 1) = _
        rw [List.take_add_one, List.getD_eq_getElem?_getD, List.getElem?_eq_getElem hlt]
        rfl
      have HMEM : Hid (l.getD k 0 ∈ l) := by
        show l.getD k 0 ∈ l
        rw [List.getD_eq_getElem?_getD, List.getElem?_eq_getElem hlt]
        exact List.getElem_mem hlt
      generalize l.getD k 0 = y at *
      clear hcl
      by_cases hneg : y < 0
      · have d1 : decide (y < 0) = true := decide_eq_true hneg
        have HF : Hid (knownL G l = false) := by
          show knownL G l = false
          unfold knownL
          rw [List.all_eq_false]
          exact ⟨y, HMEM.out, by simp; omega⟩
        have HBF : Hid (∀ q, Below w.heap.size w (W.drewN q)) := fun q => Below.drewN' HB0.out q
        go_wp2_with fail
        go_quiet (fail)
        go_wp2_with fail
        go_ret
        rw [HF.out]
        exact ⟨rfl, Below.drewN' (HBF.out _) _⟩
      · have d1 : decide (y < 0) = false := decide_eq_false hneg
        by_cases hbig : G ≤ y
        · have d2 : decide (G ≤ y) = true := decide_eq_true hbig
          have HF : Hid (knownL G l = false) := by
            show knownL G l = false
            unfold knownL
            rw [List.all_eq_false]
            exact ⟨y, HMEM.out, by simp; omega⟩
          have HBF : Hid (∀ q, Below w.heap.size w (W.drewN q)) := fun q => Below.drewN' HB0.out q
          go_wp2_with fail
          go_quiet (fail)
          go_wp2_with fail
          go_ret
          rw [HF.out]
          exact ⟨rfl, Below.drewN' (HBF.out _) _⟩
        · have d2 : decide (G ≤ y) = false := decide_eq_false hbig
          have HF : Hid ((l.take (k + 1)).all (fun y => decide (0 ≤ y ∧ y < G)) = true) := by
            show (l.take (k + 1)).all _ = true
            rw [HTK.out, List.all_append, HALL.out]
            simp; omega
          go_wp2_with fail
          go_quiet (fail)
          go_wp2_with fail
          go_roundw
          case rel => exact ⟨k + 1, _, by omega, by go_num, rfl, HF.out⟩
          case measure => simp [intOf]; omega
    · obtain rfl : k = l.length := by omega
      have HF : Hid (knownL G l = true) := by
        have := HALL.out
        rw [List.take_length] at this
        exact this
      have HBF : Hid (Below w.heap.size w (W.drewN q)) := Below.drewN' HB0.out q
      have hgd : decide ((l.length : Int) < (l.length : Int)) = false := by simp
      go_wp2_with fail
      go_ret
      rw [HF.out]
      exact ⟨rfl, HBF.out⟩
end Go.Proofs.YthhlklfioipmgaaGreat

namespace Go.Proofs.YthhlklfioipmgaaGreat
open Go Go.RowKit
set_option linter.unusedVariables false
set_option maxRecDepth 100000
set_option linter.unusedSimpArgs false

theorem folC_swap {W : World} {x K : Nat} {v : Int} {M : World → Prop} (b : Bool) (hb : decide (v ≠ 0) = b) (h : Calls Tryz.prog K #[.pointer (some ⟨x, 0, none⟩), .bool b] W fun e w' => (∃ u, e = .returned u) ∧ M w') : FolC W x (.swap K) v M := by
  subst hb; exact h
theorem qp_keep1 {who P T G : Int} {cl : Nat} {l : List Int} (hp : 0 ≤ P ∧ P ≤ 64) (hT : 0 ≤ T ∧ T ≤ 65536) (hG : 0 ≤ G ∧ G ≤ 65536) (hn : l.length ≤ 1000000) {a b : World} {y x : Nat} {t : QpT} {L : List Nat} (h : qpI who cl (fun y => wd (20 + P * 264 + T * 3) G 2 y 1) l a y t L) (hb : But [x] a b) (hx : x ∉ L) : qpI who cl (fun y => wd (20 + P * 264 + T * 3) G 2 y 1) l b y t L :=
  (qp_good who P T G cl l hp hT hG hn).keep h hb (fun k hk hm => by simp at hm; exact hx (hm ▸ hk))
theorem RpD.all_len' {d : RpD} (h : d.gv.length = 128) : d.all.length = 129 := by
  unfold RpD.all
  rw [List.length_append, h]; rfl
theorem RpD.all_len {d : RpD} (h : d.Ok) : d.all.length = 129 := RpD.all_len' h.len
theorem RpD.take1_ok {d : RpD} (h : d.Ok) (k : Nat) (v : Int) : (d.take1 k v).Ok := ⟨by show (d.gv.set k _).length = 128; rw [List.length_set]; exact h.len, h.nt, h.hd, h.tl⟩
section
variable {who P T G p : Int} {cl : Nat}
theorem rp_on {gl : Int → Int} {v : Int} {t : RpT} {S : Sub} {q : S.τ} {af : After} (hok : (rpCp who gl P T G p cl).ok t) (hk : (rpCp who gl P T G p cl).kind t = .run S q af) (hs : (S.M.ax (S.M.nx q v)).isSome = true) :
    (rpCp who gl P T G p cl).ok ((rpPM who P p gl).nx t v) ∧ (rpCp who gl P T G p cl).kind ((rpPM who P p gl).nx t v) = .run S (S.M.nx q v) af ∧ (∀ es, (rpCp who gl P T G p cl).cells ((rpPM who P p gl).nx t v) es = (rpCp who gl P T G p cl).cells t es) ∧ (∀ es w Le, (rpCp who gl P T G p cl).ext t es w Le → (rpCp who gl P T G p cl).ext ((rpPM who P p gl).nx t v) es w Le) ∧ (∀ es y, (rpCp who gl P T G p cl).tie t es y → (rpCp who gl P T G p cl).tie ((rpPM who P p gl).nx t v) es y) := by
  cases t with
  | acq d q =>
    cases hk
    have hl := rp_acq_live q hs
    have e : (rpPM who P p gl).nx (.acq d q) v = .acq d ((acqPM (wd 0 2 3 0 0) (wd 0 2 3 0 1) (wd 0 2 3 0 2) who).nx q v) := rp_acq_goes _ hl
    rw [e]
    exact ⟨⟨hok.1, hl⟩, rfl, fun _ => rfl, fun _ _ _ h => h, fun _ _ h => h⟩
  | que d q =>
    cases hk
    have e : (rpPM who P p gl).nx (.que d q) v = .que d ((qpPM gl d.all).nx q v) := if_pos hs
    rw [e]
    exact ⟨⟨hok.1, hs⟩, rfl, fun _ => rfl, fun _ _ _ h => h, fun _ _ h => h⟩
  | rel d r q =>
    cases q with
    | over => cases hk
    | fresh => cases hk; exact ⟨hok, rfl, fun _ => rfl, fun _ _ _ h => h, fun _ _ h => h⟩
    | pass => cases hk; cases hs
  | _ => cases hk

set_option maxHeartbeats 4000000 in
theorem rp_laws (hw : 0 ≤ who ∧ who ≤ 1000000) (hp : 0 ≤ P ∧ P ≤ 64) (hT : 0 ≤ T ∧ T ≤ 65536) (hG : 0 ≤ G ∧ G ≤ 65536) :
    (rpCp who (fun y => wd (20 + P * 264 + T * 3) G 2 y 1) P T G p cl).Laws (rpPM who P p (fun y => wd (20 + P * 264 + T * 3) G 2 y 1)) (Rd.lay cl P T G) who where
  c0 := fun t es nx => rp_c0
  c1 := fun t es nx => rp_c1
  set := fun t es nx nx' => rp_s1 _
  k0 := fun t hok hk => by
    cases t with
    | rel d r q => cases q <;> first | rfl | cases hk
    | over d => rfl
    | _ => cases hk
  k1 := fun t a f hok hk => by
    cases t with
    | acq d q => cases hk
    | que d q => cases hk
    | rel d r q => cases q <;> cases hk
    | over d => cases hk
    | nx d => cases hk; exact ⟨rfl, axLd_ok _, ent_rp1⟩
    | sn d => cases hk; exact ⟨rfl, axSw_ok _ _ _ (rpw_bd _), ent_rp2⟩
    | hd d => cases hk; exact ⟨rfl, axLd_ok _, ent_rp3⟩
    | tl d => cases hk; exact ⟨rfl, axLd_ok _, ent_rp4⟩
    | st d => cases hk; exact ⟨rfl, axSt_ok _ _ (rpw_bd _), ent_rp5⟩
    | ln d => cases hk; exact ⟨rfl, axSt_ok _ _ (by omega), ent_rp6⟩
    | gl d k => cases hk; exact ⟨rfl, axLd_ok _, ent_rp7⟩
    | sh d => cases hk; exact ⟨rfl, axSw_ok _ _ _ (by omega), ent_rp8⟩
  k2 := fun t S q af hok hk => by
    cases t with
    | acq d q => cases hk; exact ⟨rfl, rp_acq_some _ hok.2, ent_rp9, fun a => (acq_laws _ _ _ who hw).axok _ a trivial⟩
    | que d q => cases hk; exact ⟨rfl, hok.2, ent_rp10, fun a ha => qp_axok (fun y => wd (20 + P * 264 + T * 3) G 2 y 1) d.all (by rw [RpD.all_len hok.1]; omega) q a ha⟩
    | rel d r q => cases q <;> cases hk <;> exact ⟨rfl, rfl, trivial, fun a => (rel_laws _ _ who).axok _ a trivial⟩
    | _ => cases hk
  sub := fun t S q af hok hk => by
    cases t with
    | acq d q => cases hk; exact acqSub_ok _ _ _ who hw _
    | que d q => cases hk; exact ⟨qp_steps who P T G cl _ hp hT hG (by rw [RpD.all_len hok.1]; omega) stepby_qput, qp_good who P T G cl _ hp hT hG (by rw [RpD.all_len hok.1]; omega), act_qput, fun w h => h, fun k h => h⟩
    | rel d r q => cases q <;> cases hk <;> exact relSub_ok _ _ who _
    | _ => cases hk
  on := fun t S q af v hok hk hv hs => rp_on hok hk hs
  ekeep := fun t es w w' ll Le he hb hk => by
    cases t with
    | acq d q => exact ⟨he.1, (qp_good who P T G cl _ hp hT hG (by rw [RpD.all_len' he.1]; omega)).keep he.2 hb hk⟩
    | rel d r q => exact ⟨he.1, (qp_good who P T G cl _ hp hT hG (by rw [RpD.all_len' he.1]; omega)).keep he.2 hb hk⟩
    | _ => exact he
  elt := fun t es w Le he k hk => by
    cases t with
    | acq d q => exact (qp_good who P T G cl _ hp hT hG (by rw [RpD.all_len' he.1]; omega)).lt he.2 k hk
    | rel d r q => exact (qp_good who P T G cl _ hp hT hG (by rw [RpD.all_len' he.1]; omega)).lt he.2 k hk
    | _ => rw [show Le = [] from he] at hk; cases hk
  fol := fun W x t a f v es Le hok hk hv hB he hxe hR hxR => by
    have hlt := hB.lt
    have hcx : cl ≠ x := fun e => hxR (by rw [e]; exact List.mem_singleton.2 rfl)
    cases t with
    | acq d q => cases hk
    | que d q => cases hk
    | rel d r q => cases q <;> cases hk
    | over d => cases hk
    | nx d =>
      cases hk
      obtain rfl : Le = [] := he
      refine (rp_replace W x cl who p d.g P T G d.nt d.hd d.tl d.has _ none hB hR hp v hcx).mono ?_
      rintro e w' ⟨hu, hC⟩
      exact ⟨hu, rp_land_acc (t := .sn { d with nt := v }) (es := es) (Le' := []) hC ⟨hok.len, hv, hok.hd, hok.tl⟩ rfl hlt rfl (by simp) (fun k hk => by cases hk)⟩
    | sn d =>
      cases hk
      obtain rfl : Le = [] := he
      by_cases h0 : v = 0
      · have e : (rpPM who P p (fun y => wd (20 + P * 264 + T * 3) G 2 y 1)).nx (.sn d) v = .nx d := if_pos h0
        rw [e]
        refine folC_swap false (decide_eq_false (fun h => h h0)) ((rp_replaced_no W x cl who p d.g P T G d.nt d.hd d.tl d.has _ none hB hR hp).mono ?_)
        rintro e w' ⟨hu, hC⟩
        exact ⟨hu, rp_land_acc (t := .nx d) (es := es) (Le' := []) hC hok rfl hlt rfl (by simp) (fun k hk => by cases hk)⟩
      · by_cases h1 : d.nt = 0
        · have e : (rpPM who P p (fun y => wd (20 + P * 264 + T * 3) G 2 y 1)).nx (.sn d) v = .over { d with has := false } := (if_neg h0).trans (if_pos h1)
          rw [e]
          refine folC_swap true (decide_eq_true h0) ((rp_replaced_none W x cl who p d.g d.nt d.hd d.tl d.has _ none hB h1).mono ?_)
          rintro e w' ⟨hu, hb, hbu⟩
          exact ⟨hu, rp_land_over (t := .over { d with has := false }) (es := es) (Le' := []) hb hbu ⟨hok.len, hok.nt, hok.hd, hok.tl⟩ rfl rfl (by simp) (fun k hk => by cases hk)⟩
        · have e : (rpPM who P p (fun y => wd (20 + P * 264 + T * 3) G 2 y 1)).nx (.sn d) v = .hd { d with g := gw d.nt } := (if_neg h0).trans (if_neg h1)
          rw [e]
          refine folC_swap true (decide_eq_true h0) ((rp_replaced_some W x cl who p d.g P T G d.nt d.hd d.tl d.has _ none hB hR hp h1 hcx).mono ?_)
          rintro e w' ⟨hu, hC⟩
          exact ⟨hu, rp_land_acc (t := .hd { d with g := gw d.nt }) (es := es) (Le' := []) hC ⟨hok.len, hok.nt, hok.hd, hok.tl⟩ rfl hlt rfl (by simp) (fun k hk => by cases hk)⟩
    | hd d =>
      cases hk
      obtain rfl : Le = [] := he
      refine (rp_lookTail W x cl who p d.g P T G d.nt d.hd d.tl d.has _ none hB hR hp v hcx).mono ?_
      rintro e w' ⟨hu, hC⟩
      exact ⟨hu, rp_land_acc (t := .tl { d with hd := v }) (es := es) (Le' := []) hC ⟨hok.len, hok.nt, hv, hok.tl⟩ rfl hlt rfl (by simp) (fun k hk => by cases hk)⟩
    | tl d =>
      cases hk
      obtain rfl : Le = [] := he
      by_cases h0 : (v - d.hd) % 4294967296 < 256
      · have e : (rpPM who P p (fun y => wd (20 + P * 264 + T * 3) G 2 y 1)).nx (.tl d) v = .st { d with tl := v } := if_pos h0
        rw [e]
        refine (rp_choose_room W x cl who p d.g P T G d.nt d.hd d.tl d.has d.gv d.ld none none hB hR hp v hcx hv hok.hd h0).mono ?_
        rintro e w' ⟨hu, hC⟩
        exact ⟨hu, rp_land_acc (t := .st { d with tl := v }) (es := es) (Le' := []) hC ⟨hok.len, hok.nt, hok.hd, hv⟩ rfl hlt rfl (by simp) (fun k hk => by cases hk)⟩
      · have e : (rpPM who P p (fun y => wd (20 + P * 264 + T * 3) G 2 y 1)).nx (.tl d) v = .gl { d with tl := v, ld := 0 } 0 := if_neg h0
        rw [e]
        refine (rp_choose_full W x cl who p d.g P T G d.nt d.hd d.tl d.has d.gv d.ld none none hB hR hp v hcx hok.len hv hok.hd h0).mono ?_
        rintro e w' ⟨hu, hC⟩
        exact ⟨hu, rp_land_acc (t := .gl { d with tl := v, ld := 0 } 0) (es := es) (Le' := []) hC ⟨⟨hok.len, hok.nt, hok.hd, hv⟩, by omega, rfl⟩ rfl hlt rfl (by simp) (fun k hk => by cases hk)⟩
    | st d =>
      cases hk
      obtain rfl : Le = [] := he
      refine (rp_lengthen W x cl who p d.g P T G d.nt d.hd d.tl d.has d.gv d.ld none none hB hR hp hok.tl).mono ?_
      rintro e w' ⟨hu, hC⟩
      exact ⟨hu, rp_land_acc (t := .ln d) (es := es) (Le' := []) hC hok rfl hlt rfl (by simp) (fun k hk => by cases hk)⟩
    | ln d =>
      cases hk
      obtain rfl : Le = [] := he
      refine (rp_leave W x cl who p d.g d.nt d.hd d.tl d.has _ none hB).mono ?_
      rintro e w' ⟨hu, hb, hbu⟩
      exact ⟨hu, rp_land_over (t := .over { d with has := false }) (es := es) (Le' := []) hb hbu ⟨hok.len, hok.nt, hok.hd, hok.tl⟩ rfl rfl (by simp) (fun k hk => by cases hk)⟩
    | gl d k =>
      cases hk
      obtain rfl : Le = [] := he
      obtain ⟨ho, hk1, hld⟩ := hok
      have hB' : Blk W x (rpCells who none cl p d.g d.has d.nt d.hd d.tl (rpRest d.gv k none)) 149 := by rw [← hld]; exact hB
      by_cases h0 : k + 1 < 128
      · have e : (rpPM who P p (fun y => wd (20 + P * 264 + T * 3) G 2 y 1)).nx (.gl d k) v = .gl (d.take1 k v) (k + 1) := if_pos h0
        rw [e]
        refine (rp_keep_on W x cl who p d.g P T G d.nt d.hd d.tl d.has d.gv k none none hB' hR hp hk1 ho.len hcx v h0).mono ?_
        rintro e w' ⟨hu, hC⟩
        exact ⟨hu, rp_land_acc (t := .gl (d.take1 k v) (k + 1)) (es := es) (Le' := []) hC ⟨RpD.take1_ok ho k v, h0, rfl⟩ rfl hlt rfl (by simp) (fun k hk => by cases hk)⟩
      · have e : (rpPM who P p (fun y => wd (20 + P * 264 + T * 3) G 2 y 1)).nx (.gl d k) v = .sh (d.take1 k v) := if_neg h0
        rw [e]
        refine (rp_keep_all W x cl who p d.g P T G d.nt d.hd d.tl d.has d.gv k none none hB' hR hp hk1 ho.len hcx v ho.hd (by omega)).mono ?_
        rintro e w' ⟨hu, hC⟩
        exact ⟨hu, rp_land_acc (t := .sh (d.take1 k v)) (es := es) (Le' := []) hC ⟨RpD.take1_ok ho k v, by show ((k + 1 : Nat) : Int) = 128; omega⟩ rfl hlt rfl (by simp) (fun k hk => by cases hk)⟩
    | sh d =>
      cases hk
      obtain rfl : Le = [] := he
      by_cases h0 : v = 0
      · have e : (rpPM who P p (fun y => wd (20 + P * 264 + T * 3) G 2 y 1)).nx (.sh d) v = .hd d := if_pos h0
        rw [e]
        refine folC_swap false (decide_eq_false (fun h => h h0)) ((rp_take_no W x cl who p d.g P T G d.nt d.hd d.tl d.has _ none hB hR hp).mono ?_)
        rintro e w' ⟨hu, hC⟩
        exact ⟨hu, rp_land_acc (t := .hd d) (es := es) (Le' := []) hC hok.1 rfl hlt rfl (by simp) (fun k hk => by cases hk)⟩
      · have e : (rpPM who P p (fun y => wd (20 + P * 264 + T * 3) G 2 y 1)).nx (.sh d) v = .acq d .fresh := if_neg h0
        rw [e]
        have hall := RpD.all_len hok.1
        refine folC_swap true (decide_eq_true h0) ((rp_take_yes W x cl who p d.g P T G d.nt d.hd d.tl d.has d.gv d.ld none none (fun w y L => qpI who cl (fun y => wd (20 + P * 264 + T * 3) G 2 y 1) d.all w y (.ch 0) L) hB hok.1.len hR hcx (fun a b y L h hb hx => qp_keep1 hp hT hG (by rw [hall]; omega) h hb hx) (fun Y v hY hs => ?_)).mono ?_)
        · refine (qp_new_some Y cl who P T G v d.all hs (by rw [hall]; omega) (by rw [hall]; omega) hY hp hT hG).mono ?_
          rintro e w' ⟨y, L, rfl, h1, h2, h3, h4⟩
          exact ⟨y, L, rfl, h1, h2, h3, (qp_good who P T G cl d.all hp hT hG (by rw [hall]; omega)).lt h1, h4⟩
        · rintro e w' ⟨hu, y, L, x2, q2, q, b, hC, hq, hM, f1, f2, f3, f4, f5⟩
          have o1 := hM.o1
          exact ⟨hu, rp_land_run (S := acqSub (wd 0 2 3 0 0) (wd 0 2 3 0 1) (wd 0 2 3 0 2) who) (t := .acq d .fresh) (es := [y]) (pt := AcqT.fresh) (af := .fn 213) (Le' := L) hC (acqSub_at hM) (by simp; omega) (fun k hk => .inr (by simp at hk; omega)) (by simp; omega) (by simp; omega) ⟨hok.1, trivial⟩ rfl trivial hlt ⟨hok.1.len, hq⟩ (fun hm => by have := f1 x hm; omega) (fun k hk hm => by have := f1 k hm; simp at hk; omega) ⟨fun hm => by have := f1 q hm; omega, fun hm => by have := f1 b hm; omega⟩ (fun k hk => .inr (f1 k hk).1)⟩
  aft := fun W x y t S q af v es Le Li hok hk hv hn hB hin hty he hxe hxi hd hR hxR => by
    have hlt := hB.lt
    cases t with
    | acq d q =>
      cases hk
      have e : (rpPM who P p (fun y => wd (20 + P * 264 + T * 3) G 2 y 1)).nx (.acq d q) v = .que d (.ch 0) := rp_acq_over _ hn
      rw [e]
      have hall := RpD.all_len hok.1
      have hgd := qp_good who P T G cl d.all hp hT hG (by rw [hall]; omega)
      have hq : qpI who cl (fun y => wd (20 + P * 264 + T * 3) G 2 y 1) d.all W (es.getD 0 0) (.ch 0) Le := he.2
      obtain ⟨nx, hc1, hnx⟩ := hgd.next hq
      cases nx with
      | none => cases hnx
      | some a =>
        refine (rp_move W x cl who p d.g d.nt d.hd d.tl d.has d.gv d.ld (es.getD 0 0) none a hB hok.1.len (fun h => hxe (h ▸ hgd.mem hq)) hc1).mono ?_
        rintro e w' ⟨hu, q1, b, hC⟩
        have hlq := hgd.lt hq
        have fq := hC.at'.fresh
        have fb := hC.fresh
        exact ⟨hu, rp_land_run (S := qpSub who (fun y => wd (20 + P * 264 + T * 3) G 2 y 1) cl P T G d.all) (t := .que d (.ch 0)) (es := es) (pt := QpT.ch 0) (af := .fn 224) (L := Le) (Le' := []) hC (qp_keep1 hp hT hG (by rw [hall]; omega) hq hC.at'.but hxe) hxe (fun k hk => .inl (List.mem_append_right _ hk)) (fun hm => by have := hlq q1 hm; omega) (fun hm => by have := hlq b hm; omega) ⟨hok.1, rfl⟩ rfl rfl hlt rfl (by simp) (by simp) (by simp) (fun k hk => by cases hk)⟩
    | que d q =>
      cases hk
      obtain rfl : Le = [] := he
      have hall := RpD.all_len hok.1
      have hgd := qp_good who P T G cl d.all hp hT hG (by rw [hall]; omega)
      have e : (rpPM who P p (fun y => wd (20 + P * 264 + T * 3) G 2 y 1)).nx (.que d q) v = .rel d ((qpPM (fun y => wd (20 + P * 264 + T * 3) G 2 y 1) d.all).nx q v) .fresh := if_neg (by rw [show (qpPM (fun y => wd (20 + P * 264 + T * 3) G 2 y 1) d.all).ax ((qpPM (fun y => wd (20 + P * 264 + T * 3) G 2 y 1) d.all).nx q v) = none from hn]; simp)
      rw [e]
      obtain rfl : es.getD 0 0 = y := hty
      have hlq := hgd.lt hin
      refine (rp_release W x cl who p d.g d.nt d.hd d.tl d.has d.gv d.ld none _ hB hok.1.len).mono ?_
      rintro e w' ⟨hu, x2, q2, g2, q1, b, hC, hM, f1, f2, f3, f4, f5⟩
      have o1 := hM.o1
      have o2 := hM.o2
      have fq := hC.at'.fresh
      have fb := hC.fresh
      exact ⟨hu, rp_land_run (S := relSub (wd 0 2 3 0 1) (wd 0 2 3 0 2) who) (t := .rel d ((qpPM (fun y => wd (20 + P * 264 + T * 3) G 2 y 1) d.all).nx q v) .fresh) (es := es) (pt := RelT.fresh) (af := .nil) (Le' := Li) hC (relSub_at hM) (by simp; omega) (fun k hk => .inr (by simp at hk; omega)) (by simp; omega) (by simp; omega) hok.1 rfl trivial hlt ⟨hok.1.len, qp_keep1 hp hT hG (by rw [hall]; omega) hin hC.at'.but hxi⟩ hxi (fun k hk hm => by have := hlq k hm; simp at hk; omega) ⟨fun hm => by have := hlq q1 hm; omega, fun hm => by have := hlq b hm; omega⟩ (fun k hk => .inl (List.mem_append_left _ hk))⟩
    | rel d r q =>
      cases q with
      | over => cases hk
      | fresh => cases hk; cases hn
      | pass =>
        cases hk
        exact rp_land_over (t := .rel d r .over) (es := es) (Le' := Le) hB (But.refl _ _) hok rfl he hxe (fun k hk => List.mem_append_right _ hk)
    | _ => cases hk
end
end Go.Proofs.YthhlklfioipmgaaGreat

namespace Go.Proofs.YthhlklfioipmgaaGreat
open Go Go.RowKit
set_option linter.unusedVariables false
set_option maxRecDepth 100000
set_option linter.unusedSimpArgs false

section
variable (w : World) (x cl : Nat) (who p g nt hd tl : Int) (gv : List Int) (ld : Int) (nx : Option Addr)
theorem rp_holds_no (qu : Option Addr) (hB : Blk w x (rpCells who nx cl p g false nt hd tl (rpRest gv ld qu)) 149) :
    Calls Tryz.prog 100 #[.pointer (some ⟨x, 0, none⟩)] w fun e w' => ∃ v, e = .returned v ∧ SeesL w' v [] ∧ Below w.heap.size w w' := by
  have c5 := hB.cell 5 rp_c5
  clear hB
  go_enter Tryz.func100, Tryz.ntmps100
  go_wp2_with fail
  go_ret
  exact ⟨_, rfl, ⟨none, 0, rfl, fun _ => ⟨rfl, rfl⟩, fun h => absurd h (by simp)⟩, Below.refl _ _⟩
theorem rp_holds_one (hB : Blk w x (rpCells who nx cl p g true nt hd tl (rpRest gv ld none)) 149) (hg : gv.length = 128) :
    Calls Tryz.prog 100 #[.pointer (some ⟨x, 0, none⟩)] w fun e w' => ∃ v, e = .returned v ∧ SeesL w' v [g] ∧ Below w.heap.size w w' := by
  have c5 := hB.cell 5 rp_c5
  have c4 := hB.cell 4 rp_c4
  have c138 := hB.cell 138 (rp_c138 hg)
  clear hB
  go_enter Tryz.func100, Tryz.ntmps100
  go_wp2_with fail
  go_ret
  have hb := (Below.refl w.heap.size w).alloc (Nat.le_refl _) (.cells #[.int .i64 g] 3)
  refine ⟨_, rfl, ⟨some ⟨w.heap.size, 0, none⟩, 1, rfl, (fun h => by cases h), fun _ => ⟨w.heap.size, 0, rfl, by rw [World.size_alloc]; omega, fun j hj => ?_⟩⟩, hb⟩
  have hB := Blk.new w #[.int .i64 g] 3
  simp at hj
  subst hj
  exact hB.cell 0 rfl
theorem rp_holds_many (y : Nat) (l : List Int) (hB : Blk w x (rpCells who nx cl p g true nt hd tl (rpRest gv ld (some ⟨y, 0, none⟩))) 149) (hg : gv.length = 128)
    (hH : Calls Tryz.prog 17 #[.pointer (some ⟨y, 0, none⟩)] w fun e w' => ∃ v, e = .returned v ∧ IntsOn w' w.heap.size v l ∧ Below w.heap.size w w') :
    Calls Tryz.prog 100 #[.pointer (some ⟨x, 0, none⟩)] w fun e w' => ∃ v, e = .returned v ∧ SeesL w' v l ∧ Below w.heap.size w w' := by
  have c5 := hB.cell 5 rp_c5
  have c138 := hB.cell 138 (rp_c138 hg)
  clear hB
  go_enter Tryz.func100, Tryz.ntmps100
  go_wp2_with fail
  go_at_call 17; refine hH.mono ?_; rintro e w1 ⟨v, rfl, h1, h2⟩
  clear hH c5 c138
  go_wp2_with fail
  go_ret
  exact ⟨_, rfl, h1.sees, h2⟩
end
theorem rp_blk {who P T G p : Int} {cl : Nat} {gl : Int → Int} {w : World} {x : Nat} {t : RpT} {es Le L : List Nat} (h : (rpCp who gl P T G p cl).Here w x t es Le L ((rpCp who gl P T G p cl).kind t)) : ∃ nx, Blk w x (rpAt who p cl t es nx) 149 := by
  cases hk : (rpCp who gl P T G p cl).kind t with
  | over => rw [hk] at h; exact ⟨none, h.1⟩
  | acc a f => rw [hk] at h; obtain ⟨q, Lc, h1, -⟩ := h; exact ⟨_, h1⟩
  | run S q af => rw [hk] at h; obtain ⟨q1, y, g, Li, h1, -⟩ := h; exact ⟨_, h1.hx⟩
theorem rp_holds_few (w : World) (x cl : Nat) (who p : Int) (d : RpD) (nx : Option Addr) (hB : Blk w x (rpCells who nx cl p d.g d.has d.nt d.hd d.tl (rpRest d.gv d.ld none)) 149) (hg : d.gv.length = 128) :
    Calls Tryz.prog 100 #[.pointer (some ⟨x, 0, none⟩)] w fun e w' => ∃ v, e = .returned v ∧ SeesL w' v (if d.has = true then [d.g] else []) ∧ Below w.heap.size w w' := by
  cases hh : d.has with
  | true => rw [hh] at hB; exact rp_holds_one w x cl who p d.g d.nt d.hd d.tl d.gv d.ld nx hB hg
  | false => rw [hh] at hB; exact rp_holds_no w x cl who p d.g d.nt d.hd d.tl d.gv d.ld nx _ hB
theorem rp_holds_queue (w : World) (x y cl : Nat) (who p : Int) (gl : Int → Int) (d : RpD) (q : QpT) (L : List Nat) (nx : Option Addr) (hB : Blk w x (rpCells who nx cl p d.g d.has d.nt d.hd d.tl (rpRest d.gv d.ld (some ⟨y, 0, none⟩))) 149) (hg : d.gv.length = 128) (hq : qpI who cl gl d.all w y q L) :
    Calls Tryz.prog 100 #[.pointer (some ⟨x, 0, none⟩)] w fun e w' => ∃ v, e = .returned v ∧ SeesL w' v (if d.has = true then (if q.lies = true then [] else d.all) else []) ∧ Below w.heap.size w w' := by
  have hn : d.all.length ≤ 1000000 := by have := RpD.all_len' hg; omega
  have hH := qp_holds hq hn
  cases hh : d.has with
  | true => rw [hh] at hB; exact rp_holds_many w x cl who p d.g d.nt d.hd d.tl d.gv d.ld nx y _ hB hg hH
  | false => rw [hh] at hB; exact rp_holds_no w x cl who p d.g d.nt d.hd d.tl d.gv d.ld nx _ hB
/-- What it holds. -/
theorem rp_holds {who P T G p : Int} {gl : Int → Int} {cl : Nat} {w : World} {x : Nat} {t : RpT} {L : List Nat} (h : (rpCp who gl P T G p cl).I w x t L) :
    Calls Tryz.prog 100 #[.pointer (some ⟨x, 0, none⟩)] w fun e w' => ∃ v, e = .returned v ∧ SeesL w' v t.holds ∧ Below w.heap.size w w' := by
  have hok := h.1
  obtain ⟨-, es, Le, he, hxe, hH⟩ := h
  obtain ⟨nx, hB⟩ := rp_blk hH
  cases t with
  | acq d q => exact rp_holds_queue w x (es.getD 0 0) cl who p gl d (.ch 0) Le nx hB hok.1.len he.2
  | que d q =>
    obtain ⟨q1, y, g, Li, h1, h2, h3, -⟩ := hH
    obtain rfl : es.getD 0 0 = y := h3
    exact rp_holds_queue w x (es.getD 0 0) cl who p gl d q Li nx hB hok.1.len h2
  | rel d q r => exact rp_holds_queue w x (es.getD 0 0) cl who p gl d q Le nx hB he.1 he.2
  | gl d k => exact rp_holds_few w x cl who p d nx hB hok.1.len
  | sh d => exact rp_holds_few w x cl who p d nx hB hok.1.len
  | nx d => exact rp_holds_few w x cl who p d nx hB hok.len
  | sn d => exact rp_holds_few w x cl who p d nx hB hok.len
  | hd d => exact rp_holds_few w x cl who p d nx hB hok.len
  | tl d => exact rp_holds_few w x cl who p d nx hB hok.len
  | st d => exact rp_holds_few w x cl who p d nx hB hok.len
  | ln d => exact rp_holds_few w x cl who p d nx hB hok.len
  | over d => exact rp_holds_few w x cl who p d nx hB hok.len
/-- How many it moved. -/
def RpT.moved (t : RpT) : Int := if t.full = true then 129 else 0
theorem rp_moves {who P T G p : Int} {gl : Int → Int} {cl : Nat} {w : World} {x : Nat} {t : RpT} {L : List Nat} (h : (rpCp who gl P T G p cl).I w x t L) :
    Calls Tryz.prog 40 #[.pointer (some ⟨x, 0, none⟩)] w fun e w' => e = .returned (.int .i64 t.moved) ∧ w = w' := by
  have hok := h.1
  obtain ⟨-, es, Le, he, hxe, hH⟩ := h
  obtain ⟨nx, hB⟩ := rp_blk hH
  have hl : t.d.gv.length = 128 := by
    cases t with
    | acq d q => exact hok.1.len
    | que d q => exact hok.1.len
    | gl d k => exact hok.1.len
    | sh d => exact hok.1.len
    | _ => exact hok.len
  have := rp_moved w x cl who p t.d.g t.d.nt t.d.hd t.d.tl t.d.has t.d.gv t.d.ld _ nx hB hl
  refine this.mono ?_
  rintro e w' ⟨rfl, rfl⟩
  refine ⟨?_, rfl⟩
  unfold RpT.moved
  cases t.full <;> rfl
/-- Its beginning. -/
def rpD0 (g : Int) : RpD := ⟨g, true, 0, 0, 0, List.replicate 128 0, 0⟩
def rpStart (g : Int) (nxt : Bool) : RpT := if nxt = true then .nx (rpD0 g) else .hd (rpD0 g)
theorem rpD0_ok (g : Int) : (rpD0 g).Ok := ⟨by simp [rpD0], by constructor <;> simp [rpD0], by constructor <;> simp [rpD0], by constructor <;> simp [rpD0]⟩
theorem rp_new_at (w : World) (cl : Nat) (who p g P T G : Int) (gl : Int → Int) (nxt : Bool) (hl : Lay w cl P T G) (hP : 0 ≤ P ∧ P ≤ 64) :
    Calls Tryz.prog 36 #[.pointer (some ⟨cl, 0, none⟩), .int .i64 who, .int .i64 p, .int .i64 g, .bool nxt] w fun e w' => ∃ x L, e = .returned (.pointer (some ⟨x, 0, none⟩)) ∧ (rpCp who gl P T G p cl).I w' x (rpStart g nxt) L ∧ Below w.heap.size w w' ∧ (∀ k ∈ L, w.heap.size ≤ k) ∧ w.heap.size ≤ x := by
  refine (rp_new_step w cl who p g P T G nxt hl hP).mono ?_
  rintro e w' ⟨x, q, Lc, rfl, h1, h2, h3, h4, h5, h6⟩
  cases nxt with
  | true =>
    refine ⟨x, x :: (Lc ++ []), rfl, ⟨rpD0_ok g, [], [], rfl, by simp, q, Lc, h1, h2, h3, (fun k _ h => by cases h), rfl⟩, h4, ?_, h6⟩
    intro k hk; simp at hk; rcases hk with rfl | hk
    · exact h6
    · exact h5 k hk
  | false =>
    refine ⟨x, x :: (Lc ++ []), rfl, ⟨rpD0_ok g, [], [], rfl, by simp, q, Lc, h1, h2, h3, (fun k _ h => by cases h), rfl⟩, h4, ?_, h6⟩
    intro k hk; simp at hk; rcases hk with rfl | hk
    · exact h6
    · exact h5 k hk
end Go.Proofs.YthhlklfioipmgaaGreat

namespace Go.Proofs.YthhlklfioipmgaaGreat
open Go Go.RowKit
set_option linter.unusedVariables false
set_option maxRecDepth 100000
set_option linter.unusedSimpArgs false

def rpQue (d : RpD) : QpT → RpT
  | .over => .rel d .over .fresh
  | .done0 => .rel d .done0 .fresh
  | q => .que d q
def rpAcq (d : RpD) (p : AcqT) : RpT := p.goes (.acq d) (.que d (.ch 0))
theorem rp_acqIn (who P p : Int) (gl : Int → Int) (d : RpD) : AcqIn (rpPM who P p gl) 0 who (rpAcq d) where
  f := rfl
  w := fun t => rfl
  h := fun t => rfl
  nf := fun v => rfl
  nw := fun t v => by
    show ((if v = t then AcqT.has t else AcqT.wait t)).goes (RpT.acq d) (.que d (.ch 0)) = _
    split <;> rfl
  nh := fun t v => rfl
theorem rp_relIn (who P p : Int) (gl : Int → Int) (d : RpD) (q : QpT) : RelIn (rpPM who P p gl) 0 (RpT.rel d q) where
  f := rfl
  p := rfl
  nf := fun v => rfl
  np := fun v => rfl
theorem rp_qpIn (who P p : Int) (gl : Int → Int) (d : RpD) : QpIn (rpPM who P p gl) gl d.all (rpQue d) where
  ch := fun _ => rfl
  ld := rfl
  pt := fun _ => rfl
  tr := rfl
  ct := rfl
  n1 := fun k v => by
    show (if ((qpPM gl d.all).ax (if k + 1 < d.all.length then QpT.ch (k + 1) else .ld)).isSome = true then RpT.que d (if k + 1 < d.all.length then QpT.ch (k + 1) else .ld) else .rel d (if k + 1 < d.all.length then QpT.ch (k + 1) else .ld) .fresh) = _
    split <;> (split <;> first | rfl | (rename_i h _; exact absurd rfl h) | (rename_i h; exact absurd rfl h))
  n2 := fun _ => rfl
  n3 := fun _ _ => rfl
  n4 := fun _ => rfl
  n5 := fun _ => rfl
/-- Where a slow put stopped, and what it holds there. -/
def RpQ (Q : RpT → Prop) (d : RpD) (held : List Int) (r : RpT) : Prop := (Q r ∧ held = d.all) ∨ (r.d = d ∧ r.full = true ∧ (d.has = true → held = r.holds))
def RpGot (M : PM RpT) (d : RpD) (w : World) (x : Nat) (A : Option Addr) (cap m : Nat) (g : Nat → Int) (s0 : RpT) (Q : RpT → Prop) (j : Nat) (e : Ending) (w' : World) : Prop := ∃ (v : Value) (held : List Int) (j' : Nat) (q : QpT), e = .returned (.agg #[v, .int .i64 129]) ∧ SeesL w' v held ∧ RunOn w' x A cap m g (M.rj s0 g m j') ∧ Syn M s0 g m j' (.rel d q .over) (RpQ Q d held) ∧ (j' ≤ m → held = if q.lies = true then [] else d.all) ∧ But [x] w w' ∧ j ≤ j'
theorem rpQ_acq {Q : RpT → Prop} {d : RpD} (p : AcqT) : RpQ Q d d.all (.acq d p) := .inr ⟨rfl, rfl, fun h => by show _ = if d.has = true then _ else _; rw [if_pos h]⟩
theorem rpQ_que {Q : RpT → Prop} {d : RpD} {held : List Int} (q : QpT) (h : held = if q.lies = true then [] else d.all) : RpQ Q d held (.que d q) := .inr ⟨rfl, rfl, fun h2 => by show _ = if d.has = true then _ else _; rw [if_pos h2]; exact h⟩
theorem rpQ_rel {Q : RpT → Prop} {d : RpD} {held : List Int} (q : QpT) (p : RelT) (h : held = if q.lies = true then [] else d.all) : RpQ Q d held (.rel d q p) := .inr ⟨rfl, rfl, fun h2 => by show _ = if d.has = true then _ else _; rw [if_pos h2]; exact h⟩
theorem rpQue_live {d : RpD} : ∀ {q : QpT}, q.live = true → rpQue d q = .que d q
  | .ch _, _ => rfl
  | .ld, _ => rfl
  | .pt _, _ => rfl
  | .tr, _ => rfl
  | .ct, _ => rfl
theorem rpQue_over {d : RpD} : ∀ {q : QpT}, q.live = false → rpQue d q = .rel d q .fresh
  | .over, _ => rfl
  | .done0, _ => rfl
theorem rpQ_qp {Q : RpT → Prop} {d : RpD} {held : List Int} {r : RpT} (h : QpQ (RpQ Q d d.all) (rpQue d) d.all held r) : RpQ Q d held r := by
  rcases h with ⟨h1, h2⟩ | ⟨p', h1, h2, h3⟩
  · rw [h2]; exact h1
  · rw [h2, rpQue_live h1]; exact rpQ_que p' h3
theorem qpQ_held {Q : RpT → Prop} {d : RpD} {held : List Int} {r : RpT} (h : QpQ (RpQ Q d d.all) (rpQue d) d.all held r) : held = d.all ∨ held = [] := by
  rcases h with ⟨h1, h2⟩ | ⟨p', h1, h2, h3⟩
  · exact .inl h2
  · rw [h3]; split <;> simp

theorem sees_far {w : World} {A : Option Addr} {cap n : Nat} {l : List Int} (h : SeesL w (.slice A n cap) l) (hl : 0 < l.length → l.length = 129) {k : Nat} {cs : Array Value} {T : TypeId} (hB : Blk w k cs T) (hc : cs.size ≤ 100) (h0 : 0 < l.length) : ∀ b off : Nat, A = some ⟨b, off, none⟩ → b ≠ k := by
  rintro b off rfl rfl
  obtain ⟨A', c', e', -, h2⟩ := h
  injection e' with ea eb ec
  subst ea
  obtain ⟨b', off', e3, -, h4⟩ := h2 h0
  cases e3
  have h6 := h4 128 (by have := hl h0; omega)
  simp only [World.cell?, hB.heap] at h6
  rw [Array.getElem?_eq_none (by omega)] at h6
  cases h6
theorem SeesL.but2 {w w' : World} {A : Option Addr} {n cap k : Nat} {l : List Int} (h : SeesL w (.slice A n cap) l) (hB : But [k] w w') (hx : 0 < l.length → ∀ b off : Nat, A = some ⟨b, off, none⟩ → b ≠ k) : SeesL w' (.slice A n cap) l := by
  by_cases h0 : 0 < l.length
  · exact h.but hB (hx h0)
  · obtain ⟨A', c', e', h1, h2⟩ := h
    exact ⟨A', c', e', h1, fun h => absurd h h0⟩
theorem SeesL.but1 {w w' : World} {A : Option Addr} {n cap k : Nat} {l : List Int} (h : SeesL w (.slice A n cap) l) (hB : But [k] w w') (hx : ∀ b off : Nat, A = some ⟨b, off, none⟩ → b ≠ k) : SeesL w' (.slice A n cap) l := h.but hB hx
theorem But.low {w w1 w2 : World} {x k : Nat} (h : But [x] w w1) (h2 : But [k] w1 w2) (hk : w.heap.size ≤ k) : But [x] w w2 :=
  ⟨h2.os.trans h.os, h2.tape.trans h.tape, h2.output.trans h.output, Nat.le_trans h.size h2.size, fun i hi hc => (h2.block i (Nat.lt_of_lt_of_le hi h.size) (by simp; omega)).trans (h.block i hi hc)⟩
end Go.Proofs.YthhlklfioipmgaaGreat

namespace Go.Proofs.YthhlklfioipmgaaGreat
open Go Go.RowKit
set_option linter.unusedVariables false
set_option maxRecDepth 100000
set_option linter.unusedSimpArgs false

/-- What was loaded is told back as it was. -/
theorem rpw_gw (v : Int) (hv : 0 ≤ v ∧ v ≤ 18446744073709551615) : rpw (gw v) = v := by
  rw [← gw_eq v hv]
  unfold rpw
  simp [IntKind.wrap, IntKind.bits, IntKind.signed, wrap64]
  repeat' split
  all_goals omega
theorem rp_steps {who P T G p : Int} {cl : Nat} (hw : 0 ≤ who ∧ who ≤ 1000000) (hp : 0 ≤ P ∧ P ≤ 64) (hT : 0 ≤ T ∧ T ≤ 65536) (hG : 0 ≤ G ∧ G ≤ 65536) :
    Steps (rpPM who P p (fun y => wd (20 + P * 264 + T * 3) G 2 y 1)) (rpCp who (fun y => wd (20 + P * 264 + T * 3) G 2 y 1) P T G p cl).I (Rd.lay cl P T G) 37 who :=
  Cp.steps (rp_laws hw hp hT hG) stepby_rput
theorem rp_good {who P T G p : Int} {cl : Nat} (hw : 0 ≤ who ∧ who ≤ 1000000) (hp : 0 ≤ P ∧ P ≤ 64) (hT : 0 ≤ T ∧ T ≤ 65536) (hG : 0 ≤ G ∧ G ≤ 65536) :
    (rpCp who (fun y => wd (20 + P * 264 + T * 3) G 2 y 1) P T G p cl).I.Good (rpPM who P p (fun y => wd (20 + P * 264 + T * 3) G 2 y 1)) :=
  Cp.good (rp_laws hw hp hT hG)
theorem rpQue_start (d : RpD) : rpQue d (qpStart d.all) = .que d (.ch 0) := by
  have e : qpStart d.all = .ch 0 := if_neg (by simp [RpD.all])
  rw [e]; rfl
end Go.Proofs.YthhlklfioipmgaaGreat

namespace Go.Proofs.YthhlklfioipmgaaGreat
open Go Go.RowKit
set_option linter.unusedVariables false
set_option maxRecDepth 100000
set_option linter.unusedSimpArgs false

def rgCells (who : Int) (nx : Option Addr) (cl : Nat) (p : Int) (fr : Bool) (h wv : Int) (z ih : Bool) : Array Value := #[.int .i64 who, .pointer nx, .pointer (some ⟨cl, 0, none⟩), .int .i64 p, .bool fr, .int .u64 h, .int .u64 wv, .bool z, .bool ih]
section
variable (w : World) (x cl : Nat) (who p P T G h wv : Int) (fr z ih : Bool) (nx : Option Addr) (hB : Blk w x (rgCells who nx cl p fr h wv z ih) 154) (hl : Lay w cl P T G) (hp : 0 ≤ P ∧ P ≤ 64)
include hB hl hp
theorem rg_proc (f : Int) (hf : 0 ≤ f ∧ f < 8) : Calls Tryz.prog 144 #[.pointer (some ⟨x, 0, none⟩), .int .i64 f] w fun e w' => e = .returned (.int .i64 (wd 20 P 264 p f)) ∧ Below w.heap.size w w' := by
  have c2 := hB.cell 2 (v := .pointer (some ⟨cl, 0, none⟩)) rfl
  have c3 := hB.cell 3 (v := .int .i64 p) rfl
  have hPr := lprc_any (some ⟨cl, 0, none⟩) P T G p f w.drew (.some cl (hl.below ((Below.refl _ _).drew) hl.lt)) hp hf
  have hD : Hid (Below w.heap.size w w.drew) := (Below.refl _ _).drew
  generalize wd 20 P 264 p f = at' at *
  clear hB hl hp hf
  go_enter Tryz.func144, Tryz.ntmps144
  go_wp2_with fail
  go_region_with (first | (go_at_call 137; refine hPr.mono ?_; rintro e w4 ⟨rfl, k⟩))
  all_goals
    have hF : Hid (Below w.heap.size w w4) := hD.out.trans (k.mono hD.out.size)
    clear hPr k c2 c3
    go_wp2_with fail
    go_ret
    exact ⟨rfl, hF.out⟩
theorem rg_lookNext : Calls Tryz.prog 103 #[.pointer (some ⟨x, 0, none⟩)] w fun e w' => (∃ v, e = .returned v) ∧ Came w w' x (rgCells who nx cl p fr h wv z ih) 154 (axLd (wd 20 P 264 p 3)) (.told 146) := by
  have hPr := rg_proc w.drew x cl who p P T G h wv fr z ih nx hB.drew (hl.below ((Below.refl _ _).drew) hl.lt) hp 3 (by omega)
  have HS : Hid (∀ w4, Below w.drew.heap.size w.drew w4 → Calls Tryz.prog 114 #[.pointer (some ⟨x, 0, none⟩), .int .i64 (wd 20 P 264 p 3), .func (.func 146) #[.pointer (some ⟨x, 0, none⟩)] #[]] w4 fun e w' => (∃ v, e = .returned v) ∧ Came w w' x (rgCells who nx cl p fr h wv z ih) 154 (axLd (wd 20 P 264 p 3)) (.told 146)) := by
    intro w4 k
    have h4 : Blk w4 x (rgCells who nx cl p fr h wv z ih) 154 := hB.drew.but (But.of_below (l := []) k) (by simp)
    refine (came_load w4 x _ 154 h4 (by simp [rgCells]) _ _).mono ?_
    rintro e w5 ⟨hv, hC⟩
    exact ⟨hv, hC.before ((But.refl [x] w).drew.trans (But.of_below k))⟩
  generalize wd 20 P 264 p 3 = at' at *
  clear hB hl hp
  go_enter Tryz.func103, Tryz.ntmps103
  go_wp2_with fail
  go_region_with (first | (go_at_call 144; refine hPr.mono ?_; rintro e w4 ⟨rfl, k⟩) | (go_at_call 114; refine (HS.out _ k).mono ?_; rintro e w5 ⟨⟨v, rfl⟩, hC⟩))
  all_goals
    clear hPr k HS
    go_wp2_with fail
    go_end0
    exact ⟨⟨_, rfl⟩, hC⟩
theorem rg_lookHead : Calls Tryz.prog 102 #[.pointer (some ⟨x, 0, none⟩)] w fun e w' => (∃ v, e = .returned v) ∧ Came w w' x (rgCells who nx cl p fr h wv z ih) 154 (axLd (wd 20 P 264 p 1)) (.told 145) := by
  have hPr := rg_proc w.drew x cl who p P T G h wv fr z ih nx hB.drew (hl.below ((Below.refl _ _).drew) hl.lt) hp 1 (by omega)
  have HS : Hid (∀ w4, Below w.drew.heap.size w.drew w4 → Calls Tryz.prog 114 #[.pointer (some ⟨x, 0, none⟩), .int .i64 (wd 20 P 264 p 1), .func (.func 145) #[.pointer (some ⟨x, 0, none⟩)] #[]] w4 fun e w' => (∃ v, e = .returned v) ∧ Came w w' x (rgCells who nx cl p fr h wv z ih) 154 (axLd (wd 20 P 264 p 1)) (.told 145)) := by
    intro w4 k
    have h4 : Blk w4 x (rgCells who nx cl p fr h wv z ih) 154 := hB.drew.but (But.of_below (l := []) k) (by simp)
    refine (came_load w4 x _ 154 h4 (by simp [rgCells]) _ _).mono ?_
    rintro e w5 ⟨hv, hC⟩
    exact ⟨hv, hC.before ((But.refl [x] w).drew.trans (But.of_below k))⟩
  generalize wd 20 P 264 p 1 = at' at *
  clear hB hl hp
  go_enter Tryz.func102, Tryz.ntmps102
  go_wp2_with fail
  go_region_with (first | (go_at_call 144; refine hPr.mono ?_; rintro e w4 ⟨rfl, k⟩) | (go_at_call 114; refine (HS.out _ k).mono ?_; rintro e w5 ⟨⟨v, rfl⟩, hC⟩))
  all_goals
    clear hPr k HS
    go_wp2_with fail
    go_end0
    exact ⟨⟨_, rfl⟩, hC⟩
theorem rg_lookTail (v : Int) (hxc : cl ≠ x) : Calls Tryz.prog 145 #[.pointer (some ⟨x, 0, none⟩), .int .u64 v] w fun e w' => (∃ v, e = .returned v) ∧ Came w w' x (rgCells who nx cl p fr v wv z ih) 154 (axLd (wd 20 P 264 p 2)) (.told 169) := by
  have c5 := hB.cell 5 (v := .int .u64 h) rfl
  have hlt := hB.lt
  have f5 := hB.fro 5
  have hB' : Blk _ x (rgCells who nx cl p fr v wv z ih) 154 := hB.set 5 (.int .u64 v)
  have hU : But [x] w (w.setCell ⟨x, 5, none⟩ (.int .u64 v)) := (But.refl _ w).set (g := x) (.inl (by simp)) 5 _
  have hl' : Lay (w.setCell ⟨x, 5, none⟩ (.int .u64 v)) cl P T G := (hU.block cl hl.lt (by simpa using hxc)).trans hl
  generalize hV : w.setCell ⟨x, 5, none⟩ (.int .u64 v) = V at hB' hU hl'
  have hPr := rg_proc V.drew x cl who p P T G v wv fr z ih nx hB'.drew (hl'.below ((Below.refl _ _).drew) hl'.lt) hp 2 (by omega)
  have HS : Hid (∀ w4, Below V.drew.heap.size V.drew w4 → Calls Tryz.prog 114 #[.pointer (some ⟨x, 0, none⟩), .int .i64 (wd 20 P 264 p 2), .func (.func 169) #[.pointer (some ⟨x, 0, none⟩)] #[]] w4 fun e w' => (∃ v, e = .returned v) ∧ Came w w' x (rgCells who nx cl p fr v wv z ih) 154 (axLd (wd 20 P 264 p 2)) (.told 169)) := by
    intro w4 k
    have h4 : Blk w4 x (rgCells who nx cl p fr v wv z ih) 154 := hB'.drew.but (But.of_below (l := []) k) (by simp)
    refine (came_load w4 x _ 154 h4 (by simp [rgCells]) _ _).mono ?_
    rintro e w5 ⟨hv, hC⟩
    exact ⟨hv, hC.before (hU.drew.trans (But.of_below k))⟩
  generalize wd 20 P 264 p 2 = at' at *
  clear hB hB' hU hl' hl hp hxc
  go_enter Tryz.func145, Tryz.ntmps145
  go_wp2_with fail
  try rw [hV]
  clear hV c5 f5
  go_region_with (first | (go_at_call 144; refine hPr.mono ?_; rintro e w4 ⟨rfl, k⟩) | (go_at_call 114; refine (HS.out _ k).mono ?_; rintro e w5 ⟨⟨v, rfl⟩, hC⟩))
  all_goals
    clear hPr k HS
    go_wp2_with fail
    go_end0
    exact ⟨⟨_, rfl⟩, hC⟩
omit hl hp in
theorem rg_pass_end (hf : fr = true) : Calls Tryz.prog 170 #[.pointer (some ⟨x, 0, none⟩)] w fun e w' => (∃ v, e = .returned v) ∧ w = w' := by
  subst hf
  have c4 := hB.cell 4 (v := .bool true) rfl
  clear hB
  go_enter Tryz.func170, Tryz.ntmps170
  go_wp2_with fail
  go_end0
  exact ⟨⟨_, rfl⟩, rfl⟩
theorem rg_pass_on (hf : fr = false) : Calls Tryz.prog 170 #[.pointer (some ⟨x, 0, none⟩)] w fun e w' => (∃ v, e = .returned v) ∧ Came w w' x (rgCells who nx cl p fr h wv z ih) 154 (axLd (wd 20 P 264 p 1)) (.told 145) := by
  subst hf
  have c4 := hB.cell 4 (v := .bool false) rfl
  have H := rg_lookHead w x cl who p P T G h wv false z ih nx hB hl hp
  clear hB hl hp
  go_enter Tryz.func170, Tryz.ntmps170
  go_wp2_with fail
  go_at_call 102; refine H.mono ?_; rintro e w1 ⟨⟨v, rfl⟩, hC⟩
  clear H c4
  go_wp2_with fail
  go_end0
  exact ⟨⟨_, rfl⟩, hC⟩
omit hl hp in
theorem rg_next_end (hf : fr = true) : Calls Tryz.prog 146 #[.pointer (some ⟨x, 0, none⟩), .int .u64 0] w fun e w' => (∃ v, e = .returned v) ∧ w = w' := by
  subst hf
  have H := rg_pass_end w x cl who p h wv true z ih nx hB rfl
  clear hB
  go_enter Tryz.func146, Tryz.ntmps146
  go_wp2_with fail
  go_at_call 170; refine H.mono ?_; rintro e w1 ⟨⟨v, rfl⟩, hC⟩
  clear H
  go_wp2_with fail
  refine bodyPost_ret (results_none rfl _ _ _) rfl ?_
  exact ⟨⟨_, rfl⟩, hC⟩
omit hl hp in
theorem rg_hn_end (hf : fr = true) : Calls Tryz.prog 171 #[.pointer (some ⟨x, 0, none⟩), .bool false] w fun e w' => (∃ v, e = .returned v) ∧ w = w' := by
  subst hf
  have H := rg_pass_end w x cl who p h wv true z ih nx hB rfl
  clear hB
  go_enter Tryz.func171, Tryz.ntmps171
  go_wp2_with fail
  go_at_call 170; refine H.mono ?_; rintro e w1 ⟨⟨v, rfl⟩, hC⟩
  clear H
  go_wp2_with fail
  refine bodyPost_ret (results_none rfl _ _ _) rfl ?_
  exact ⟨⟨_, rfl⟩, hC⟩
theorem rg_next_on (hf : fr = false) : Calls Tryz.prog 146 #[.pointer (some ⟨x, 0, none⟩), .int .u64 0] w fun e w' => (∃ v, e = .returned v) ∧ Came w w' x (rgCells who nx cl p fr h wv z ih) 154 (axLd (wd 20 P 264 p 1)) (.told 145) := by
  subst hf
  have H := rg_pass_on w x cl who p P T G h wv false z ih nx hB hl hp rfl
  clear hB hl hp
  go_enter Tryz.func146, Tryz.ntmps146
  go_wp2_with fail
  go_at_call 170; refine H.mono ?_; rintro e w1 ⟨⟨v, rfl⟩, hC⟩
  clear H
  go_wp2_with fail
  refine bodyPost_ret (results_none rfl _ _ _) rfl ?_
  exact ⟨⟨_, rfl⟩, hC⟩
theorem rg_hn_on (hf : fr = false) : Calls Tryz.prog 171 #[.pointer (some ⟨x, 0, none⟩), .bool false] w fun e w' => (∃ v, e = .returned v) ∧ Came w w' x (rgCells who nx cl p fr h wv z ih) 154 (axLd (wd 20 P 264 p 1)) (.told 145) := by
  subst hf
  have H := rg_pass_on w x cl who p P T G h wv false z ih nx hB hl hp rfl
  clear hB hl hp
  go_enter Tryz.func171, Tryz.ntmps171
  go_wp2_with fail
  go_at_call 170; refine H.mono ?_; rintro e w1 ⟨⟨v, rfl⟩, hC⟩
  clear H
  go_wp2_with fail
  refine bodyPost_ret (results_none rfl _ _ _) rfl ?_
  exact ⟨⟨_, rfl⟩, hC⟩
theorem rg_next_some (v : Int) (hv : v ≠ 0) (hxc : cl ≠ x) : Calls Tryz.prog 146 #[.pointer (some ⟨x, 0, none⟩), .int .u64 v] w fun e w' => (∃ v, e = .returned v) ∧ Came w w' x (rgCells who nx cl p fr h v z ih) 154 (axSw (wd 20 P 264 p 3) v 0) (.swap 171) := by
  have c6 := hB.cell 6 (v := .int .u64 wv) rfl
  have hd : (v == 0) = false := by simpa using hv
  have hlt := hB.lt
  have f6 := hB.fro 6
  have hB' : Blk _ x (rgCells who nx cl p fr h v z ih) 154 := hB.set 6 (.int .u64 v)
  have hU : But [x] w (w.setCell ⟨x, 6, none⟩ (.int .u64 v)) := (But.refl _ w).set (g := x) (.inl (by simp)) 6 _
  have hl' : Lay (w.setCell ⟨x, 6, none⟩ (.int .u64 v)) cl P T G := (hU.block cl hl.lt (by simpa using hxc)).trans hl
  generalize hV : w.setCell ⟨x, 6, none⟩ (.int .u64 v) = V at hB' hU hl'
  have hPr := rg_proc V.drew x cl who p P T G h v fr z ih nx hB'.drew (hl'.below ((Below.refl _ _).drew) hl'.lt) hp 3 (by omega)
  have HS : Hid (∀ w4, Below V.drew.heap.size V.drew w4 → Calls Tryz.prog 150 #[.pointer (some ⟨x, 0, none⟩), .int .i64 (wd 20 P 264 p 3), .int .u64 v, .int .u64 0, .func (.func 171) #[.pointer (some ⟨x, 0, none⟩)] #[]] w4 fun e w' => (∃ v, e = .returned v) ∧ Came w w' x (rgCells who nx cl p fr h v z ih) 154 (axSw (wd 20 P 264 p 3) v 0) (.swap 171)) := by
    intro w4 k
    have h4 : Blk w4 x (rgCells who nx cl p fr h v z ih) 154 := hB'.drew.but (But.of_below (l := []) k) (by simp)
    refine (came_swap w4 x _ 154 h4 (by simp [rgCells]) _ _ _ _).mono ?_
    rintro e w5 ⟨hv, hC⟩
    exact ⟨hv, hC.before (hU.drew.trans (But.of_below k))⟩
  generalize wd 20 P 264 p 3 = at' at *
  clear hB hB' hU hl' hl hp hxc hv
  go_enter Tryz.func146, Tryz.ntmps146
  go_wp2_with fail
  try rw [hV]
  clear hV c6 f6
  go_region_with (first | (go_at_call 144; refine hPr.mono ?_; rintro e w4 ⟨rfl, k⟩) | (go_at_call 150; refine (HS.out _ k).mono ?_; rintro e w5 ⟨⟨v, rfl⟩, hC⟩))
  all_goals
    clear hPr k HS
    go_wp2_with fail
    go_end0
    exact ⟨⟨_, rfl⟩, hC⟩
omit hl hp in
theorem rg_hn_yes : Calls Tryz.prog 171 #[.pointer (some ⟨x, 0, none⟩), .bool true] w fun e w' => (∃ v, e = .returned v) ∧ Blk w' x (rgCells who nx cl p fr h wv true (!fr)) 154 ∧ But [x] w w' := by
  have c4 := hB.cell 4 (v := .bool fr) rfl
  have c7 := hB.cell 7 (v := .bool z) rfl
  have c8 := hB.cell 8 (v := .bool ih) rfl
  have f7 := hB.fro 7
  have f8 := hB.fro 8
  have hlt := hB.lt
  have g1 : Blk _ x (rgCells who nx cl p fr h wv true (!fr)) 154 := (hB.set 7 (.bool true)).set 8 (.bool (!fr))
  have g2 := ((But.refl [x] w).set (g := x) (.inl (by simp)) 7 (.bool true)).set (g := x) (.inl (by simp)) 8 (.bool (!fr))
  have HF : Hid (Blk ((w.setCell ⟨x, 7, none⟩ (.bool true)).setCell ⟨x, 8, none⟩ (.bool (!fr))) x (rgCells who nx cl p fr h wv true (!fr)) 154 ∧ But [x] w ((w.setCell ⟨x, 7, none⟩ (.bool true)).setCell ⟨x, 8, none⟩ (.bool (!fr)))) := ⟨g1, g2⟩
  clear hB g1 g2
  cases fr
  · go_enter Tryz.func171, Tryz.ntmps171
    go_wp2_with fail
    go_end0
    exact ⟨⟨_, rfl⟩, HF.out⟩
  · go_enter Tryz.func171, Tryz.ntmps171
    go_wp2_with fail
    go_end0
    exact ⟨⟨_, rfl⟩, HF.out⟩
omit hl hp in
theorem rg_have_yes : Calls Tryz.prog 202 #[.pointer (some ⟨x, 0, none⟩), .bool true] w fun e w' => (∃ v, e = .returned v) ∧ Blk w' x (rgCells who nx cl p fr h wv true ih) 154 ∧ But [x] w w' := by
  have c7 := hB.cell 7 (v := .bool z) rfl
  have f7 := hB.fro 7
  have hlt := hB.lt
  have HF : Hid (Blk (w.setCell ⟨x, 7, none⟩ (.bool true)) x (rgCells who nx cl p fr h wv true ih) 154 ∧ But [x] w (w.setCell ⟨x, 7, none⟩ (.bool true))) := ⟨hB.set 7 (.bool true), (But.refl [x] w).set (g := x) (.inl (by simp)) 7 (.bool true)⟩
  clear hB
  go_enter Tryz.func202, Tryz.ntmps202
  go_wp2_with fail
  go_end0
  exact ⟨⟨_, rfl⟩, HF.out⟩
theorem rg_have_no (hxc : cl ≠ x) : Calls Tryz.prog 202 #[.pointer (some ⟨x, 0, none⟩), .bool false] w fun e w' => (∃ v, e = .returned v) ∧ Came w w' x (rgCells who nx cl p fr h wv false ih) 154 (axLd (wd 20 P 264 p 1)) (.told 145) := by
  have c7 := hB.cell 7 (v := .bool z) rfl
  have hlt := hB.lt
  have f7 := hB.fro 7
  have hB' : Blk _ x (rgCells who nx cl p fr h wv false ih) 154 := hB.set 7 (.bool false)
  have hU : But [x] w (w.setCell ⟨x, 7, none⟩ (.bool false)) := (But.refl _ w).set (g := x) (.inl (by simp)) 7 _
  have hl' : Lay (w.setCell ⟨x, 7, none⟩ (.bool false)) cl P T G := (hU.block cl hl.lt (by simpa using hxc)).trans hl
  generalize hV : w.setCell ⟨x, 7, none⟩ (.bool false) = V at hB' hU hl'
  have H := rg_lookHead V x cl who p P T G h wv fr false ih nx hB' hl' hp
  have HU : Hid (But [x] w V) := hU
  clear hB hB' hl' hl hp hxc hU
  go_enter Tryz.func202, Tryz.ntmps202
  go_wp2_with fail
  try rw [hV]
  clear hV c7 f7
  go_at_call 102; refine H.mono ?_; rintro e w1 ⟨⟨v, rfl⟩, hC⟩
  have hCb := hC.before HU.out
  clear H hC
  go_wp2_with fail
  go_end0
  exact ⟨⟨_, rfl⟩, hCb⟩
set_option maxHeartbeats 2000000 in
theorem rg_take (v : Int) (hxc : cl ≠ x) (hh : 0 ≤ h ∧ h ≤ 18446744073709551615) : Calls Tryz.prog 185 #[.pointer (some ⟨x, 0, none⟩), .int .u64 v] w fun e w' => (∃ v, e = .returned v) ∧ Came w w' x (rgCells who nx cl p fr h v z ih) 154 (axSw (wd 20 P 264 p 1) h ((h + 1) % 4294967296)) (.swap 202) := by
  have c6 := hB.cell 6 (v := .int .u64 wv) rfl
  have hlt := hB.lt
  have f6 := hB.fro 6
  have hB' : Blk _ x (rgCells who nx cl p fr h v z ih) 154 := hB.set 6 (.int .u64 v)
  have hU : But [x] w (w.setCell ⟨x, 6, none⟩ (.int .u64 v)) := (But.refl _ w).set (g := x) (.inl (by simp)) 6 _
  have hl' : Lay (w.setCell ⟨x, 6, none⟩ (.int .u64 v)) cl P T G := (hU.block cl hl.lt (by simpa using hxc)).trans hl
  generalize hV : w.setCell ⟨x, 6, none⟩ (.int .u64 v) = V at hB' hU hl'
  have c5 := hB'.cell 5 (v := .int .u64 h) rfl
  obtain ⟨a, ha⟩ : ∃ a, IntKind.u64.wrap (h + 1) = a := ⟨_, rfl⟩
  have ha0 : 0 ≤ a ∧ a ≤ 18446744073709551615 := by rw [← ha]; simp [IntKind.wrap, IntKind.bits, IntKind.signed] <;> omega
  have e1 : a.tmod 4294967296 = (h + 1) % 4294967296 := by
    rw [Int.tmod_eq_emod_of_nonneg ha0.1, ← ha]; simp [IntKind.wrap, IntKind.bits, IntKind.signed] <;> omega
  have e2 : IntKind.u64.wrap ((h + 1) % 4294967296) = (h + 1) % 4294967296 := wrap_u64 (by omega)
  have hPr := rg_proc V.drew x cl who p P T G h v fr z ih nx hB'.drew (hl'.below ((Below.refl _ _).drew) hl'.lt) hp 1 (by omega)
  generalize hh1 : (h + 1) % 4294967296 = h1 at *
  have HS : Hid (∀ w4, Below V.drew.heap.size V.drew w4 → Calls Tryz.prog 150 #[.pointer (some ⟨x, 0, none⟩), .int .i64 (wd 20 P 264 p 1), .int .u64 h, .int .u64 h1, .func (.func 202) #[.pointer (some ⟨x, 0, none⟩)] #[]] w4 fun e w' => (∃ v, e = .returned v) ∧ Came w w' x (rgCells who nx cl p fr h v z ih) 154 (axSw (wd 20 P 264 p 1) h h1) (.swap 202)) := by
    intro w4 k
    have h4 : Blk w4 x (rgCells who nx cl p fr h v z ih) 154 := hB'.drew.but (But.of_below (l := []) k) (by simp)
    refine (came_swap w4 x _ 154 h4 (by simp [rgCells]) _ _ _ _).mono ?_
    rintro e w5 ⟨hv, hC⟩
    exact ⟨hv, hC.before (hU.drew.trans (But.of_below k))⟩
  have hH : Hid (V.drew.cell? ⟨x, 5, none⟩ = some (.int .u64 h)) := c5
  have KB : Hid (∀ w4, Below V.drew.heap.size V.drew w4 → w4.cell? ⟨x, 5, none⟩ = some (.int .u64 h)) := fun w4 k => (hB'.drew.but (But.of_below (l := []) k) (by simp)).cell 5 rfl
  generalize wd 20 P 264 p 1 = at' at *
  have KC : Hid (∀ w5, Came w w5 x (rgCells who nx cl p fr h v z ih) 154 (axSw at' h h1) (.swap 202) → w5.cell? ⟨x, 5, none⟩ = some (.int .u64 h)) := fun w5 hC => by
    obtain ⟨q, Lc, g1, -⟩ := hC
    exact g1.cell 5 rfl
  clear hB hB' hU hl' hl hp hxc hh hh1 ha0
  go_enter Tryz.func185, Tryz.ntmps185
  go_wp2_with fail
  try rw [hV]
  clear hV c6 f6
  go_region_held3 (fun w' => w'.cell? ⟨x, 5, none⟩ = some (.int .u64 h)) (first | exact hH.out | exact KB.out _ ‹_› | exact KC.out _ ‹_›) (first | (go_at_call 144; refine hPr.mono ?_; rintro e w4 ⟨rfl, k⟩) | (go_at_call 150; refine (HS.out _ ‹_›).mono ?_; rintro e w5 ⟨⟨v, rfl⟩, hC⟩))
  all_goals
    clear hPr k HS hH KB KC c5
    go_wp2_with fail
    go_end0
    exact ⟨⟨_, rfl⟩, hC⟩
set_option maxHeartbeats 2000000 in
theorem rg_choose_some (t : Int) (ht : 0 ≤ t ∧ t ≤ 18446744073709551615) (hh : 0 ≤ h ∧ h ≤ 18446744073709551615) (hm : 0 < (t - h) % 4294967296) : Calls Tryz.prog 169 #[.pointer (some ⟨x, 0, none⟩), .int .u64 t] w fun e w' => (∃ v, e = .returned v) ∧ Came w w' x (rgCells who nx cl p fr h wv z ih) 154 (axLd (wd 20 P 264 p (8 + h % 256))) (.told 185) := by
  have c2 := hB.cell 2 (v := .pointer (some ⟨cl, 0, none⟩)) rfl
  have c3 := hB.cell 3 (v := .int .i64 p) rfl
  have c5 := hB.cell 5 (v := .int .u64 h) rfl
  have hM := mny_any h t w hh ht
  have hPr := lrng_any (some ⟨cl, 0, none⟩) P T G p h w.drew (.some cl (hl.below ((Below.refl _ _).drew) hl.lt)) hp hh
  have HS : Hid (∀ w4, Below w.drew.heap.size w.drew w4 → Calls Tryz.prog 114 #[.pointer (some ⟨x, 0, none⟩), .int .i64 (wd 20 P 264 p (8 + h % 256)), .func (.func 185) #[.pointer (some ⟨x, 0, none⟩)] #[]] w4 fun e w' => (∃ v, e = .returned v) ∧ Came w w' x (rgCells who nx cl p fr h wv z ih) 154 (axLd (wd 20 P 264 p (8 + h % 256))) (.told 185)) := by
    intro w4 k
    have h4 : Blk w4 x (rgCells who nx cl p fr h wv z ih) 154 := hB.drew.but (But.of_below (l := []) k) (by simp)
    refine (came_load w4 x _ 154 h4 (by simp [rgCells]) _ _).mono ?_
    rintro e w5 ⟨hv, hC⟩
    exact ⟨hv, hC.before ((But.refl [x] w).drew.trans (But.of_below k))⟩
  have hd : decide (0 < (t - h) % 4294967296) = true := decide_eq_true hm
  generalize wd 20 P 264 p (8 + h % 256) = at' at *
  generalize (t - h) % 4294967296 = mm at *
  have hH : Hid (w.drew.cell? ⟨x, 2, none⟩ = some (.pointer (some ⟨cl, 0, none⟩)) ∧ w.drew.cell? ⟨x, 3, none⟩ = some (.int .i64 p) ∧ w.drew.cell? ⟨x, 5, none⟩ = some (.int .u64 h)) := ⟨c2, c3, c5⟩
  have KB : Hid (∀ w4, Below w.drew.heap.size w.drew w4 → w4.cell? ⟨x, 2, none⟩ = some (.pointer (some ⟨cl, 0, none⟩)) ∧ w4.cell? ⟨x, 3, none⟩ = some (.int .i64 p) ∧ w4.cell? ⟨x, 5, none⟩ = some (.int .u64 h)) := fun w4 k => by
    have h4 : Blk w4 x (rgCells who nx cl p fr h wv z ih) 154 := hB.drew.but (But.of_below (l := []) k) (by simp)
    exact ⟨h4.cell 2 rfl, h4.cell 3 rfl, h4.cell 5 rfl⟩
  have KC : Hid (∀ w5, Came w w5 x (rgCells who nx cl p fr h wv z ih) 154 (axLd at') (.told 185) → w5.cell? ⟨x, 2, none⟩ = some (.pointer (some ⟨cl, 0, none⟩)) ∧ w5.cell? ⟨x, 3, none⟩ = some (.int .i64 p) ∧ w5.cell? ⟨x, 5, none⟩ = some (.int .u64 h)) := fun w5 hC => by
    obtain ⟨q, Lc, h1, -⟩ := hC
    exact ⟨h1.cell 2 rfl, h1.cell 3 rfl, h1.cell 5 rfl⟩
  clear hB hl hp hh ht hm
  go_enter Tryz.func169, Tryz.ntmps169
  go_wp2_with fail
  go_at_call 138; refine hM.mono ?_; rintro e w1 ⟨rfl, rfl⟩
  clear hM
  go_wp2_with fail
  go_region_held3 (fun w' => w'.cell? ⟨x, 2, none⟩ = some (.pointer (some ⟨cl, 0, none⟩)) ∧ w'.cell? ⟨x, 3, none⟩ = some (.int .i64 p) ∧ w'.cell? ⟨x, 5, none⟩ = some (.int .u64 h)) (first | exact hH.out | exact KB.out _ ‹_› | exact KC.out _ ‹_›) (first | (go_at_call 95; refine hPr.mono ?_; rintro e w4 ⟨rfl, k⟩) | (go_at_call 114; refine (HS.out _ ‹_›).mono ?_; rintro e w5 ⟨⟨v, rfl⟩, hC⟩))
  all_goals
    clear hPr k HS hH KB KC c2 c3 c5
    go_wp2_with fail
    go_end0
    exact ⟨⟨_, rfl⟩, hC⟩
omit hl hp in
theorem rg_choose_end (t : Int) (ht : 0 ≤ t ∧ t ≤ 18446744073709551615) (hh : 0 ≤ h ∧ h ≤ 18446744073709551615) (hm : ¬ 0 < (t - h) % 4294967296) (hf : fr = false) : Calls Tryz.prog 169 #[.pointer (some ⟨x, 0, none⟩), .int .u64 t] w fun e w' => (∃ v, e = .returned v) ∧ w = w' := by
  subst hf
  have c4 := hB.cell 4 (v := .bool false) rfl
  have c5 := hB.cell 5 (v := .int .u64 h) rfl
  have hM := mny_any h t w hh ht
  have hd : decide (0 < (t - h) % 4294967296) = false := decide_eq_false hm
  generalize (t - h) % 4294967296 = mm at *
  clear hB hh ht hm
  go_enter Tryz.func169, Tryz.ntmps169
  go_wp2_with fail
  go_at_call 138; refine hM.mono ?_; rintro e w1 ⟨rfl, rfl⟩
  clear hM
  go_wp2_with fail
  go_end0
  exact ⟨⟨_, rfl⟩, rfl⟩
theorem rg_choose_on (t : Int) (ht : 0 ≤ t ∧ t ≤ 18446744073709551615) (hh : 0 ≤ h ∧ h ≤ 18446744073709551615) (hm : ¬ 0 < (t - h) % 4294967296) (hf : fr = true) : Calls Tryz.prog 169 #[.pointer (some ⟨x, 0, none⟩), .int .u64 t] w fun e w' => (∃ v, e = .returned v) ∧ Came w w' x (rgCells who nx cl p fr h wv z ih) 154 (axLd (wd 20 P 264 p 3)) (.told 146) := by
  subst hf
  have c4 := hB.cell 4 (v := .bool true) rfl
  have c5 := hB.cell 5 (v := .int .u64 h) rfl
  have hM := mny_any h t w hh ht
  have H := rg_lookNext w x cl who p P T G h wv true z ih nx hB hl hp
  have hd : decide (0 < (t - h) % 4294967296) = false := decide_eq_false hm
  generalize (t - h) % 4294967296 = mm at *
  clear hB hl hp hh ht hm
  go_enter Tryz.func169, Tryz.ntmps169
  go_wp2_with fail
  go_at_call 138; refine hM.mono ?_; rintro e w1 ⟨rfl, rfl⟩
  clear hM
  go_wp2_with fail
  go_at_call 103; refine H.mono ?_; rintro e w1 ⟨⟨v, rfl⟩, hC⟩
  clear H c4 c5
  go_wp2_with fail
  go_end0
  exact ⟨⟨_, rfl⟩, hC⟩
end
end Go.Proofs.YthhlklfioipmgaaGreat

namespace Go.Proofs.YthhlklfioipmgaaGreat
open Go Go.RowKit
set_option linter.unusedVariables false
set_option maxRecDepth 100000
set_option linter.unusedSimpArgs false

inductive RgT where
  | nx (h w : Int)
  | sn (h w : Int)
  | hd (h w : Int)
  | tl (h w : Int)
  | rg (h w : Int)
  | sh (h w : Int)
  | over (h w : Int) (z i : Bool)
def rgPM (P p : Int) (fr : Bool) : PM RgT where
  ax := fun
    | .nx _ _ => some (axLd (wd 20 P 264 p 3))
    | .sn _ w => some (axSw (wd 20 P 264 p 3) w 0)
    | .hd _ _ => some (axLd (wd 20 P 264 p 1))
    | .tl _ _ => some (axLd (wd 20 P 264 p 2))
    | .rg h _ => some (axLd (wd 20 P 264 p (8 + h % 256)))
    | .sh h _ => some (axSw (wd 20 P 264 p 1) h ((h + 1) % 4294967296))
    | .over _ _ _ _ => none
  nx := fun
    | .nx h w, v => if v = 0 then (if fr then .over h w false false else .hd h w) else .sn h v
    | .sn h w, v => if v = 0 then (if fr then .over h w false false else .hd h w) else .over h w true (!fr)
    | .hd _ w, v => .tl v w
    | .tl h w, v => if 0 < (v - h) % 4294967296 then .rg h w else if fr then .nx h w else .over h w false false
    | .rg h _, v => .sh h v
    | .sh h w, v => if v = 0 then .hd h w else .over h w true false
    | t, _ => t
def RgT.h : RgT → Int
  | .nx h _ => h
  | .sn h _ => h
  | .hd h _ => h
  | .tl h _ => h
  | .rg h _ => h
  | .sh h _ => h
  | .over h _ _ _ => h
def RgT.w : RgT → Int
  | .nx _ w => w
  | .sn _ w => w
  | .hd _ w => w
  | .tl _ w => w
  | .rg _ w => w
  | .sh _ w => w
  | .over _ w _ _ => w
def RgT.z : RgT → Bool
  | .over _ _ z _ => z
  | _ => false
def RgT.ih : RgT → Bool
  | .over _ _ _ i => i
  | _ => false
/-- Which one was got. -/
def RgT.obs (t : RgT) : Int := if t.z then gw t.w else -1
def RgT.live : RgT → Bool
  | .over _ _ _ _ => false
  | _ => true
theorem RgT.live_obs {t : RgT} (h : t.live = true) : t.obs = -1 ∧ t.ih = false := by cases t <;> first | exact ⟨rfl, rfl⟩ | cases h
def U64 (v : Int) : Prop := 0 ≤ v ∧ v ≤ 18446744073709551615
def rgFl (who : Int) (cl : Nat) (p : Int) (fr : Bool) : Fl RgT where
  T := 154
  cells := fun t nx => rgCells who nx cl p fr t.h t.w t.z t.ih
  fol := fun
    | .nx _ _ => .told 146
    | .sn _ _ => .swap 171
    | .hd _ _ => .told 145
    | .tl _ _ => .told 169
    | .rg _ _ => .told 185
    | .sh _ _ => .swap 202
    | .over _ _ _ _ => .nil
  ok := fun t => U64 t.h ∧ U64 t.w
theorem ent_rg1 : Ent 146 := fun args w => by kernel_rfl
theorem ent_rg2 : Ent 171 := fun args w => by kernel_rfl
theorem ent_rg3 : Ent 145 := fun args w => by kernel_rfl
theorem ent_rg4 : Ent 169 := fun args w => by kernel_rfl
theorem ent_rg5 : Ent 185 := fun args w => by kernel_rfl
theorem ent_rg6 : Ent 202 := fun args w => by kernel_rfl

theorem rg_laws (who P T G p : Int) (fr : Bool) (cl : Nat) (hP : 0 ≤ P ∧ P ≤ 64) : (rgFl who cl p fr).Laws (rgPM P p fr) (Rd.lay cl P T G) who where
  c0 := fun t nx => rfl
  c1 := fun t nx => rfl
  set := fun t nx nx' => rfl
  axok := fun t a hok h => by
    obtain ⟨h1, h2⟩ := hok
    cases t with
    | nx a b => cases h; exact axLd_ok _
    | sn a b => cases h; exact axSw_ok _ _ _ (by omega)
    | hd a b => cases h; exact axLd_ok _
    | tl a b => cases h; exact axLd_ok _
    | rg a b => cases h; exact axLd_ok _
    | sh a b => cases h; exact axSw_ok _ _ _ (by omega)
    | over a b z i => cases h
  ents := fun t a h => by
    cases t with
    | nx a b => exact ent_rg1
    | sn a b => exact ent_rg2
    | hd a b => exact ent_rg3
    | tl a b => exact ent_rg4
    | rg a b => exact ent_rg5
    | sh a b => exact ent_rg6
    | over a b z i => exact trivial
  ok := fun t a v hok h hv => by
    obtain ⟨h1, h2⟩ := hok
    cases t with
    | nx a b => by_cases h0 : v = 0 <;> cases fr <;> simp only [rgPM, rgFl, h0, if_true, if_false] <;> first | exact ⟨h1, h2⟩ | exact ⟨h1, hv⟩
    | sn a b => by_cases h0 : v = 0 <;> cases fr <;> simp only [rgPM, rgFl, h0, if_true, if_false] <;> first | exact ⟨h1, h2⟩ | exact ⟨h1, hv⟩
    | hd a b => exact ⟨hv, h2⟩
    | tl a b => by_cases h0 : 0 < (v - a) % 4294967296 <;> cases fr <;> simp only [rgPM, rgFl, h0, if_true, if_false] <;> exact ⟨h1, h2⟩
    | rg a b => exact ⟨h1, hv⟩
    | sh a b => by_cases h0 : v = 0 <;> simp only [rgPM, rgFl, h0, if_true, if_false] <;> exact ⟨h1, h2⟩
    | over a b z i => cases h
  fol := fun W x t a v hok h hv hB hR hxR => by
    have hcx : cl ≠ x := fun e => hxR (by rw [e]; exact List.mem_singleton.2 rfl)
    obtain ⟨hh, hw⟩ := hok
    cases t with
    | nx hh' b =>
      cases h
      by_cases h0 : v = 0
      · subst h0
        cases fr with
        | true =>
          refine (rg_next_end W x cl who p hh' b true false false none hB rfl).mono ?_
          rintro e w' ⟨hu, rfl⟩
          exact ⟨hu, hB, But.refl _ _⟩
        | false => exact rg_next_on W x cl who p P T G hh' b false false false none hB hR hP rfl
      · have e : (rgPM P p fr).nx (.nx hh' b) v = .sn hh' v := if_neg h0
        rw [e]
        exact rg_next_some W x cl who p P T G hh' b fr false false none hB hR hP v h0 hcx
    | sn hh' b =>
      cases h
      by_cases h0 : v = 0
      · subst h0
        cases fr with
        | true =>
          refine (rg_hn_end W x cl who p hh' b true false false none hB rfl).mono ?_
          rintro e w' ⟨hu, rfl⟩
          exact ⟨hu, hB, But.refl _ _⟩
        | false => exact rg_hn_on W x cl who p P T G hh' b false false false none hB hR hP rfl
      · have e : (rgPM P p fr).nx (.sn hh' b) v = .over hh' b true (!fr) := if_neg h0
        have e2 : decide (v ≠ 0) = true := decide_eq_true h0
        rw [e]
        show Calls _ _ #[_, .bool (decide (v ≠ 0))] _ _
        rw [e2]
        exact rg_hn_yes W x cl who p hh' b fr false false none hB
    | hd hh' b => cases h; exact rg_lookTail W x cl who p P T G hh' b fr false false none hB hR hP v hcx
    | tl hh' b =>
      cases h
      by_cases h0 : 0 < (v - hh') % 4294967296
      · have e : (rgPM P p fr).nx (.tl hh' b) v = .rg hh' b := if_pos h0
        rw [e]
        exact rg_choose_some W x cl who p P T G hh' b fr false false none hB hR hP v hv hh h0
      · cases fr with
        | true =>
          have e : (rgPM P p true).nx (.tl hh' b) v = .nx hh' b := if_neg h0
          rw [e]
          exact rg_choose_on W x cl who p P T G hh' b true false false none hB hR hP v hv hh h0 rfl
        | false =>
          have e : (rgPM P p false).nx (.tl hh' b) v = .over hh' b false false := if_neg h0
          rw [e]
          refine (rg_choose_end W x cl who p hh' b false false false none hB v hv hh h0 rfl).mono ?_
          rintro e w' ⟨hu, rfl⟩
          exact ⟨hu, hB, But.refl _ _⟩
    | rg hh' b => cases h; exact rg_take W x cl who p P T G hh' b fr false false none hB hR hP v hcx hh
    | sh hh' b =>
      cases h
      by_cases h0 : v = 0
      · subst h0
        exact rg_have_no W x cl who p P T G hh' b fr false false none hB hR hP hcx
      · have e : (rgPM P p fr).nx (.sh hh' b) v = .over hh' b true false := if_neg h0
        have e2 : decide (v ≠ 0) = true := decide_eq_true h0
        rw [e]
        show Calls _ _ #[_, .bool (decide (v ≠ 0))] _ _
        rw [e2]
        exact rg_have_yes W x cl who p hh' b fr false false none hB
    | over a b z i => cases h

/-- How it begins. -/
def rgS (fr : Bool) : RgT := if fr then .hd 0 0 else .nx 0 0
theorem rg_new (w : World) (cl : Nat) (who p P T G : Int) (fr : Bool) (hl : Lay w cl P T G) (hP : 0 ≤ P ∧ P ≤ 64) :
    Calls Tryz.prog 43 #[.pointer (some ⟨cl, 0, none⟩), .int .i64 who, .int .i64 p, .bool fr] w fun e w' => ∃ x L, e = .returned (.pointer (some ⟨x, 0, none⟩)) ∧ (rgFl who cl p fr).I (rgPM P p fr) w' x (rgS fr) L ∧ Below w.heap.size w w' ∧ (∀ k ∈ L, w.heap.size ≤ k) := by
  have hB := Blk.new w #[.int .i64 0, .pointer none, .pointer (some ⟨cl, 0, none⟩), .int .i64 p, .bool fr, .int .u64 0, .int .u64 0, .bool false, .bool false] 154
  have hb : Below w.heap.size w (w.alloc (.cells #[.int .i64 0, .pointer none, .pointer (some ⟨cl, 0, none⟩), .int .i64 p, .bool fr, .int .u64 0, .int .u64 0, .bool false, .bool false] 154)) := (Below.refl _ _).alloc (Nat.le_refl _) _
  have hF := fof_any _ w.heap.size _ 154 who hB (by simp)
  have HH : Hid (Blk _ w.heap.size _ 154 ∧ Below w.heap.size w _) := ⟨hB, hb⟩
  have hsz := World.size_alloc w (.cells #[.int .i64 0, .pointer none, .pointer (some ⟨cl, 0, none⟩), .int .i64 p, .bool fr, .int .u64 0, .int .u64 0, .bool false, .bool false] 154)
  have HLY : Hid (Lay w cl P T G) := hl
  clear hB hb hl
  cases fr with
  | true =>
    go_enter Tryz.func43, Tryz.ntmps43
    go_wp2_with fail
    generalize w.alloc (.cells #[.int .i64 0, .pointer none, .pointer (some ⟨cl, 0, none⟩), .int .i64 p, .bool true, .int .u64 0, .int .u64 0, .bool false, .bool false] 154) = W at *
    go_at_call 96; refine hF.mono ?_; rintro e w3 ⟨⟨v, rfl⟩, hw3⟩
    have h3 : Blk w3 w.heap.size (rgCells who none cl p true 0 0 false false) 154 := by rw [hw3]; exact HH.out.1.set 0 _
    have hb3 : Hid (Below w.heap.size w w3) := by rw [hw3]; exact HH.out.2.trans (((But.refl [w.heap.size] W).set (g := w.heap.size) (.inl (by simp)) 0 _).below (by simp) (by rw [hsz]; omega))
    have hL := rg_lookHead w3 w.heap.size cl who p P T G 0 0 true false false none h3 (HLY.out.below hb3.out HLY.out.lt) hP
    have hlt := h3.lt
    clear hF hw3 HH h3 HLY
    go_wp2_with fail
    go_at_call 102; refine hL.mono ?_; rintro e w2 ⟨⟨v2, rfl⟩, hC⟩
    obtain ⟨q, Lc, c1, c2, c3, c4⟩ := hC
    have hF : Hid ((rgFl who cl p true).I (rgPM P p true) w2 w.heap.size (rgS true) (w.heap.size :: Lc) ∧ Below w.heap.size w w2 ∧ ∀ k ∈ w.heap.size :: Lc, w.heap.size ≤ k) := by
      refine ⟨⟨⟨⟨by decide, by decide⟩, by decide, by decide⟩, q, Lc, c1, c2, fun hm => by have := c4 _ hm; omega, rfl⟩, hb3.out.trans (c3.below (by simp) hb3.out.size), fun k hk => ?_⟩
      simp at hk
      rcases hk with rfl | hk
      · exact Nat.le_refl _
      · have := c4 k hk; omega
    clear hL c1 c2 c3 c4
    go_wp2_with fail
    go_ret
    exact ⟨w.heap.size, w.heap.size :: Lc, rfl, hF.out.1, hF.out.2.1, hF.out.2.2⟩
  | false =>
    go_enter Tryz.func43, Tryz.ntmps43
    go_wp2_with fail
    generalize w.alloc (.cells #[.int .i64 0, .pointer none, .pointer (some ⟨cl, 0, none⟩), .int .i64 p, .bool false, .int .u64 0, .int .u64 0, .bool false, .bool false] 154) = W at *
    go_at_call 96; refine hF.mono ?_; rintro e w3 ⟨⟨v, rfl⟩, hw3⟩
    have h3 : Blk w3 w.heap.size (rgCells who none cl p false 0 0 false false) 154 := by rw [hw3]; exact HH.out.1.set 0 _
    have hb3 : Hid (Below w.heap.size w w3) := by rw [hw3]; exact HH.out.2.trans (((But.refl [w.heap.size] W).set (g := w.heap.size) (.inl (by simp)) 0 _).below (by simp) (by rw [hsz]; omega))
    have hL := rg_lookNext w3 w.heap.size cl who p P T G 0 0 false false false none h3 (HLY.out.below hb3.out HLY.out.lt) hP
    have hlt := h3.lt
    clear hF hw3 HH h3 HLY
    go_wp2_with fail
    go_at_call 103; refine hL.mono ?_; rintro e w2 ⟨⟨v2, rfl⟩, hC⟩
    obtain ⟨q, Lc, c1, c2, c3, c4⟩ := hC
    have hF : Hid ((rgFl who cl p false).I (rgPM P p false) w2 w.heap.size (rgS false) (w.heap.size :: Lc) ∧ Below w.heap.size w w2 ∧ ∀ k ∈ w.heap.size :: Lc, w.heap.size ≤ k) := by
      refine ⟨⟨⟨⟨by decide, by decide⟩, by decide, by decide⟩, q, Lc, c1, c2, fun hm => by have := c4 _ hm; omega, rfl⟩, hb3.out.trans (c3.below (by simp) hb3.out.size), fun k hk => ?_⟩
      simp at hk
      rcases hk with rfl | hk
      · exact Nat.le_refl _
      · have := c4 k hk; omega
    clear hL c1 c2 c3 c4
    go_wp2_with fail
    go_ret
    exact ⟨w.heap.size, w.heap.size :: Lc, rfl, hF.out.1, hF.out.2.1, hF.out.2.2⟩

theorem rget_g (w : World) (x cl : Nat) (who p h wv : Int) (fr z ih : Bool) (nx : Option Addr) (hB : Blk w x (rgCells who nx cl p fr h wv z ih) 154) :
    Calls Tryz.prog 46 #[.pointer (some ⟨x, 0, none⟩)] w fun e w' => e = .returned (.int .i64 (if z then gw wv else -1)) ∧ w = w' := by
  have c6 := hB.cell 6 (v := .int .u64 wv) rfl
  have c7 := hB.cell 7 (v := .bool z) rfl
  clear hB
  cases z with
  | false =>
    go_enter Tryz.func46, Tryz.ntmps46
    go_wp2_with fail
    go_ret
    exact ⟨rfl, rfl⟩
  | true =>
    have e : IntKind.i64.wrap (IntKind.u64.wrap (wv - 1)) = gw wv := rfl
    go_enter Tryz.func46, Tryz.ntmps46
    go_wp2_with fail
    go_ret
    exact ⟨rfl, rfl⟩
theorem rget_g_nil (w : World) : Calls Tryz.prog 46 #[.pointer none] w fun e w' => e = .returned (.int .i64 (-1)) ∧ w = w' := by
  go_enter Tryz.func46, Tryz.ntmps46
  go_wp2_with fail
  go_ret
  exact ⟨rfl, rfl⟩
theorem rg_g {who : Int} {cl : Nat} {p P : Int} {fr : Bool} {w : World} {x : Nat} {t : RgT} {L : List Nat} (h : (rgFl who cl p fr).I (rgPM P p fr) w x t L) :
    Calls Tryz.prog 46 #[.pointer (some ⟨x, 0, none⟩)] w fun e w' => e = .returned (.int .i64 t.obs) ∧ w = w' := by
  obtain ⟨nx, h1, -⟩ := Fl.blk h
  exact rget_g w x cl who p t.h t.w fr t.z t.ih nx h1
end Go.Proofs.YthhlklfioipmgaaGreat

namespace Go.Proofs.YthhlklfioipmgaaGreat
open Go Go.RowKit
set_option linter.unusedVariables false
set_option maxRecDepth 100000
set_option linter.unusedSimpArgs false

/-- A ring of one processor in a memory: from h on, with a next one (-1: none). -/
structure Rq (s : St) (h : Int) (l : List Int) (nx : Int) : Prop where
  hb : 0 ≤ h ∧ h < 4294967296
  hd : s.f 21 = h
  tl : s.f 22 = (h + l.length) % 4294967296
  nw : s.f 23 = nx + 1
  rg : ∀ i : Nat, i < l.length → s.f (28 + (h + i) % 256).toNat = l.getD i 0 + 1
  ls : ∀ y ∈ l, 0 ≤ y ∧ y < 60
  nb : -1 ≤ nx ∧ nx < 60
  bad : s.bad = 0
theorem ro_w {k : Int} (hk : 0 ≤ k ∧ k < 264) : wd 20 1 264 0 k = 20 + k := by
  unfold wd; rw [if_pos ⟨by omega, by omega, hk.1, hk.2⟩]; omega
theorem rpw_small {g : Int} (h : 0 ≤ g ∧ g < 60) : rpw g = g + 1 := by
  unfold rpw; simp [IntKind.wrap, IntKind.bits, IntKind.signed]; omega
def roP (n : Nat) : PM RpT := rpPM 0 1 0 (fun y => wd (20 + 1 * 264 + 1 * 3) 60 2 y 1)
theorem ro_ring {n : Nat} {s : St} {h : Int} {l : List Int} {nx : Int} (hn : 287 ≤ n) (hq : Rq s h l nx) (hl : l.length < 256) (d : RpD) (hg : 0 ≤ d.g ∧ d.g < 60) (k : Nat) :
    ∃ s' d', (roP n).steps 0 n (k + 4) (.hd d, s) = (.over d', s') ∧ Rq s' h (l ++ [d.g]) nx := by
  have hb := hq.hb
  obtain ⟨s1, a1, f1, b1⟩ := steps_ld (M := roP n) (who := 0) (n := n) (k := k + 3) (t := .hd d) (s := s) (i := wd 20 1 264 0 1) rfl (by rw [ro_w (by omega)]; omega)
  rw [ro_w (by omega), show (20 + 1 : Int).toNat = 21 from rfl, hq.hd] at a1
  obtain ⟨s2, a2, f2, b2⟩ := steps_ld (M := roP n) (who := 0) (n := n) (k := k + 2) (t := .tl { d with hd := h }) (s := s1) (i := wd 20 1 264 0 2) rfl (by rw [ro_w (by omega)]; omega)
  rw [ro_w (by omega), show (20 + 2 : Int).toNat = 22 from rfl, f1, hq.tl] at a2
  obtain ⟨v, hv⟩ : ∃ v, (h + l.length) % 4294967296 = v := ⟨_, rfl⟩
  rw [hv] at a2
  have e2 : (roP n).nx (.tl { d with hd := h }) v = .st { d with hd := h, tl := v } := by
    show (if (v - h) % 4294967296 < 256 then _ else _) = _
    rw [if_pos (by omega)]
  rw [e2] at a2
  have hvm : v % 256 = (h + l.length) % 256 := by omega
  obtain ⟨s3, a3, f3, b3⟩ := steps_st (M := roP n) (who := 0) (n := n) (k := k + 1) (t := .st { d with hd := h, tl := v }) (s := s2) (i := wd 20 1 264 0 (8 + v % 256)) (v := rpw d.g) rfl (by rw [ro_w (by omega)]; omega)
  rw [ro_w (by omega)] at f3
  obtain ⟨s4, a4, f4, b4⟩ := steps_st (M := roP n) (who := 0) (n := n) (k := k) (t := .ln { d with hd := h, tl := v }) (s := s3) (i := wd 20 1 264 0 2) (v := (v + 1) % 4294967296) rfl (by rw [ro_w (by omega)]; omega)
  rw [ro_w (by omega), show (20 + 2 : Int).toNat = 22 from rfl] at f4
  refine ⟨s4, { d with hd := h, tl := v, has := false }, ?_, ?_⟩
  · show (roP n).steps 0 n ((k + 3) + 1) (.hd d, s) = _
    rw [a1]
    show (roP n).steps 0 n ((k + 2) + 1) (.tl { d with hd := h }, s1) = _
    rw [a2]
    show (roP n).steps 0 n ((k + 1) + 1) (.st { d with hd := h, tl := v }, s2) = _
    rw [a3]
    show (roP n).steps 0 n (k + 1) (.ln { d with hd := h, tl := v }, s3) = _
    rw [a4]
    exact steps_no (M := roP n) (t := .over { d with hd := h, tl := v, has := false }) rfl k
  · have hf : ∀ j : Nat, s4.f j = if j = 22 then (v + 1) % 4294967296 else if j = (20 + (8 + v % 256)).toNat then rpw d.g else s.f j := fun j => by
      rw [f4, f3, f2, f1]; rfl
    refine ⟨hb, ?_, ?_, ?_, fun i hi => ?_, fun y hy => ?_, hq.nb, ?_⟩
    · rw [hf, if_neg (by omega), if_neg (by omega)]; exact hq.hd
    · rw [hf, if_pos rfl, List.length_append, List.length_singleton]; omega
    · rw [hf, if_neg (by omega), if_neg (by omega)]; exact hq.nw
    · rw [List.length_append, List.length_singleton] at hi
      rw [hf, if_neg (by omega)]
      by_cases hil : i < l.length
      · rw [if_neg (by omega), hq.rg i hil, List.getD_eq_getElem?_getD, List.getD_eq_getElem?_getD, List.getElem?_append_left hil]
      · obtain rfl : i = l.length := by omega
        rw [if_pos (by omega), rpw_small hg]
        simp
    · rcases List.mem_append.1 hy with hy | hy
      · exact hq.ls y hy
      · rw [List.mem_singleton.1 hy]; exact hg
    · rw [b4, b3, b2, b1]; exact hq.bad
theorem ro_put {n : Nat} {s : St} {h : Int} {l : List Int} {nx g : Int} (hn : 287 ≤ n) (hq : Rq s h l nx) (hl : l.length < 256) (hg : 0 ≤ g ∧ g < 60) :
    Rq ((roP n).steps 0 n 9 (rpStart g false, s)).2 h (l ++ [g]) nx := by
  obtain ⟨s', d', e, h1⟩ := ro_ring hn hq hl (rpD0 g) hg 5
  rw [show (roP n).steps 0 n 9 (rpStart g false, s) = _ from e]
  exact h1
theorem ro_next {n : Nat} {s : St} {h : Int} {l : List Int} {nx g : Int} (hn : 287 ≤ n) (hq : Rq s h l nx) (hl : l.length < 256) (hg : 0 ≤ g ∧ g < 60) :
    Rq ((roP n).steps 0 n 9 (rpStart g true, s)).2 h (if nx = -1 then l else l ++ [nx]) g := by
  have hb := hq.hb
  have hnb := hq.nb
  obtain ⟨s1, a1, f1, b1⟩ := steps_ld (M := roP n) (who := 0) (n := n) (k := 8) (t := .nx (rpD0 g)) (s := s) (i := wd 20 1 264 0 3) rfl (by rw [ro_w (by omega)]; omega)
  rw [ro_w (by omega), show (20 + 3 : Int).toNat = 23 from rfl, hq.nw] at a1
  obtain ⟨s2, a2, f2, b2⟩ := steps_sw (M := roP n) (who := 0) (n := n) (k := 7) (t := .sn { rpD0 g with nt := nx + 1 }) (s := s1) (i := wd 20 1 264 0 3) (old := nx + 1) (v := rpw g) rfl (by rw [ro_w (by omega)]; omega) (by rw [ro_w (by omega), f1]; exact hq.nw)
  rw [ro_w (by omega), show (20 + 3 : Int).toNat = 23 from rfl, f1] at f2
  have hq2 : Rq s2 h l g := by
    have hf : ∀ j : Nat, s2.f j = if j = 23 then rpw g else s.f j := fun j => by rw [f2]; rfl
    refine ⟨hb, ?_, ?_, ?_, fun i hi => ?_, hq.ls, by omega, ?_⟩
    · rw [hf, if_neg (by omega)]; exact hq.hd
    · rw [hf, if_neg (by omega)]; exact hq.tl
    · rw [hf, if_pos rfl, rpw_small hg]
    · rw [hf, if_neg (by omega)]; exact hq.rg i hi
    · rw [b2, b1]; exact hq.bad
  have e1 : (roP n).steps 0 n 9 (rpStart g true, s) = (roP n).steps 0 n 7 ((roP n).nx (.sn { rpD0 g with nt := nx + 1 }) 1, s2) := by
    show (roP n).steps 0 n (8 + 1) (.nx (rpD0 g), s) = _
    rw [a1]
    show (roP n).steps 0 n (7 + 1) (.sn { rpD0 g with nt := nx + 1 }, s1) = _
    rw [a2]
  rw [e1]
  by_cases h1 : nx = -1
  · rw [if_pos h1]
    have e2 : (roP n).nx (.sn { rpD0 g with nt := nx + 1 }) 1 = .over { rpD0 g with nt := nx + 1, has := false } := by
      show (if nx + 1 = 0 then RpT.over { rpD0 g with nt := nx + 1, has := false } else _) = _
      rw [if_pos (by omega)]
    rw [e2, steps_no (M := roP n) (t := .over { rpD0 g with nt := nx + 1, has := false }) rfl 7]
    exact hq2
  · rw [if_neg h1]
    have e2 : (roP n).nx (.sn { rpD0 g with nt := nx + 1 }) 1 = .hd { rpD0 g with nt := nx + 1, g := nx } := by
      show (if nx + 1 = 0 then _ else RpT.hd { rpD0 g with nt := nx + 1, g := gw (nx + 1) }) = _
      rw [if_neg (by omega), gw_one nx (by omega)]
    rw [e2]
    obtain ⟨s', d', e, h2⟩ := ro_ring hn hq2 hl { rpD0 g with nt := nx + 1, g := nx } (by show 0 ≤ nx ∧ nx < 60; omega) 3
    rw [e]
    exact h2
/-- What a get gets. -/
def roG (fr : Bool) (l : List Int) (nx : Int) : Int := if (fr = true ∧ l ≠ []) ∨ nx = -1 then l.headD (-1) else nx
def roL (fr : Bool) (l : List Int) (nx : Int) : List Int := if (fr = true ∧ l ≠ []) ∨ nx = -1 then l.tail else l
def roN (fr : Bool) (l : List Int) (nx : Int) : Int := if (fr = true ∧ l ≠ []) ∨ nx = -1 then nx else -1
def roM (fr : Bool) : PM RgT := rgPM 1 0 fr
/-- Out of the ring: from a load of its head on. -/
theorem ro_head {n : Nat} {s : St} {h : Int} {y nx : Int} {l : List Int} (hn : 287 ≤ n) (fr : Bool) (hq : Rq s h (y :: l) nx) (hl : (y :: l).length < 256) (a w : Int) (k : Nat) :
    ∃ s' h' t', (roM fr).steps 0 n (k + 4) (.hd a w, s) = (t', s') ∧ Rq s' h' l nx ∧ t'.obs = y ∧ (roM fr).ax t' = none := by
  have hb := hq.hb
  obtain ⟨s1, a1, f1, b1⟩ := steps_ld (M := roM fr) (who := 0) (n := n) (k := k + 3) (t := .hd a w) (s := s) (i := wd 20 1 264 0 1) rfl (by rw [ro_w (by omega)]; omega)
  rw [ro_w (by omega), show (20 + 1 : Int).toNat = 21 from rfl, hq.hd] at a1
  obtain ⟨s2, a2, f2, b2⟩ := steps_ld (M := roM fr) (who := 0) (n := n) (k := k + 2) (t := .tl h w) (s := s1) (i := wd 20 1 264 0 2) rfl (by rw [ro_w (by omega)]; omega)
  rw [ro_w (by omega), show (20 + 2 : Int).toNat = 22 from rfl, f1, hq.tl] at a2
  have hlen : (y :: l).length = l.length + 1 := rfl
  rw [hlen] at a2 hl
  have e2 : (roM fr).nx (.tl h w) ((h + ((l.length + 1 : Nat) : Int)) % 4294967296) = .rg h w := by
    show (if 0 < ((h + ((l.length + 1 : Nat) : Int)) % 4294967296 - h) % 4294967296 then _ else _) = _
    rw [if_pos (by omega)]
  rw [e2] at a2
  obtain ⟨s3, a3, f3, b3⟩ := steps_ld (M := roM fr) (who := 0) (n := n) (k := k + 1) (t := .rg h w) (s := s2) (i := wd 20 1 264 0 (8 + h % 256)) rfl (by rw [ro_w (by omega)]; omega)
  have h0 := hq.rg 0 (by simp)
  rw [show ((0 : Nat) : Int) = 0 from rfl, Int.add_zero, List.getD_cons_zero] at h0
  rw [ro_w (by omega), show (20 + (8 + h % 256) : Int) = 28 + h % 256 by omega, f2, f1, h0] at a3
  obtain ⟨s4, a4, f4, b4⟩ := steps_sw (M := roM fr) (who := 0) (n := n) (k := k) (t := .sh h (y + 1)) (s := s3) (i := wd 20 1 264 0 1) (old := h) (v := (h + 1) % 4294967296) rfl (by rw [ro_w (by omega)]; omega) (by rw [ro_w (by omega), f3, f2, f1]; exact hq.hd)
  rw [ro_w (by omega), show (20 + 1 : Int).toNat = 21 from rfl, f3, f2, f1] at f4
  have hy := hq.ls y (by simp)
  refine ⟨s4, (h + 1) % 4294967296, .over h (y + 1) true false, ?_, ?_, ?_, rfl⟩
  · show (roM fr).steps 0 n ((k + 3) + 1) (.hd a w, s) = _
    rw [a1]
    show (roM fr).steps 0 n ((k + 2) + 1) (.tl h w, s1) = _
    rw [a2]
    show (roM fr).steps 0 n ((k + 1) + 1) (.rg h w, s2) = _
    rw [a3]
    show (roM fr).steps 0 n (k + 1) (.sh h (y + 1), s3) = _
    rw [a4]
    have e4 : (roM fr).nx (.sh h (y + 1)) 1 = .over h (y + 1) true false := rfl
    rw [e4]
    exact steps_no (M := roM fr) (t := .over h (y + 1) true false) rfl k
  · have hf : ∀ j : Nat, s4.f j = if j = 21 then (h + 1) % 4294967296 else s.f j := fun j => by rw [f4]; rfl
    have htl := hq.tl
    rw [hlen] at htl
    refine ⟨by omega, ?_, ?_, ?_, fun i hi => ?_, fun z hz => hq.ls z (by simp [hz]), hq.nb, ?_⟩
    · rw [hf, if_pos rfl]
    · rw [hf, if_neg (by omega), htl]; omega
    · rw [hf, if_neg (by omega)]; exact hq.nw
    · rw [hf, if_neg (by omega)]
      have := hq.rg (i + 1) (by rw [hlen]; omega)
      rw [List.getD_cons_succ] at this
      rw [← this]
      congr 1
      omega
    · rw [b4, b3, b2, b1]; exact hq.bad
  · show gw (y + 1) = y
    exact gw_one y (by omega)
/-- The next one: from a load of it on. -/
theorem ro_nxt {n : Nat} {s : St} {h : Int} {nx : Int} {l : List Int} (hn : 287 ≤ n) (fr : Bool) (hq : Rq s h l nx) (h1 : nx ≠ -1) (a w : Int) (k : Nat) :
    ∃ s' t', (roM fr).steps 0 n (k + 2) (.nx a w, s) = (t', s') ∧ Rq s' h l (-1) ∧ t'.obs = nx ∧ (roM fr).ax t' = none := by
  have hb := hq.hb
  have hnb := hq.nb
  obtain ⟨s1, a1, f1, b1⟩ := steps_ld (M := roM fr) (who := 0) (n := n) (k := k + 1) (t := .nx a w) (s := s) (i := wd 20 1 264 0 3) rfl (by rw [ro_w (by omega)]; omega)
  rw [ro_w (by omega), show (20 + 3 : Int).toNat = 23 from rfl, hq.nw] at a1
  have e1 : (roM fr).nx (.nx a w) (nx + 1) = .sn a (nx + 1) := by
    show (if nx + 1 = 0 then _ else _) = _
    rw [if_neg (by omega)]
  rw [e1] at a1
  obtain ⟨s2, a2, f2, b2⟩ := steps_sw (M := roM fr) (who := 0) (n := n) (k := k) (t := .sn a (nx + 1)) (s := s1) (i := wd 20 1 264 0 3) (old := nx + 1) (v := 0) rfl (by rw [ro_w (by omega)]; omega) (by rw [ro_w (by omega), f1]; exact hq.nw)
  rw [ro_w (by omega), show (20 + 3 : Int).toNat = 23 from rfl, f1] at f2
  refine ⟨s2, .over a (nx + 1) true (!fr), ?_, ?_, ?_, rfl⟩
  · show (roM fr).steps 0 n ((k + 1) + 1) (.nx a w, s) = _
    rw [a1]
    show (roM fr).steps 0 n (k + 1) (.sn a (nx + 1), s1) = _
    rw [a2]
    have e4 : (roM fr).nx (.sn a (nx + 1)) 1 = .over a (nx + 1) true (!fr) := rfl
    rw [e4]
    exact steps_no (M := roM fr) (t := .over a (nx + 1) true (!fr)) rfl k
  · have hf : ∀ j : Nat, s2.f j = if j = 23 then 0 else s.f j := fun j => by rw [f2]; rfl
    refine ⟨hb, ?_, ?_, ?_, fun i hi => ?_, hq.ls, by omega, ?_⟩
    · rw [hf, if_neg (by omega)]; exact hq.hd
    · rw [hf, if_neg (by omega)]; exact hq.tl
    · rw [hf, if_pos rfl]; rfl
    · rw [hf, if_neg (by omega)]; exact hq.rg i hi
    · rw [b2, b1]; exact hq.bad
  · show gw (nx + 1) = nx
    exact gw_one nx (by omega)
/-- One look at the ring, or at the next one, that finds none. -/
theorem ro_none {n : Nat} {s : St} {h : Int} {nx : Int} (hn : 287 ≤ n) (fr : Bool) (hq : Rq s h [] nx) (a w : Int) (k : Nat) :
    ∃ s', (roM fr).steps 0 n (k + 2) (.hd a w, s) = (roM fr).steps 0 n k (if fr then .nx h w else .over h w false false, s') ∧ Rq s' h [] nx := by
  have hb := hq.hb
  obtain ⟨s1, a1, f1, b1⟩ := steps_ld (M := roM fr) (who := 0) (n := n) (k := k + 1) (t := .hd a w) (s := s) (i := wd 20 1 264 0 1) rfl (by rw [ro_w (by omega)]; omega)
  rw [ro_w (by omega), show (20 + 1 : Int).toNat = 21 from rfl, hq.hd] at a1
  obtain ⟨s2, a2, f2, b2⟩ := steps_ld (M := roM fr) (who := 0) (n := n) (k := k) (t := .tl h w) (s := s1) (i := wd 20 1 264 0 2) rfl (by rw [ro_w (by omega)]; omega)
  have htl := hq.tl
  rw [show (([] : List Int).length : Int) = 0 from rfl] at htl
  rw [ro_w (by omega), show (20 + 2 : Int).toNat = 22 from rfl, f1, htl] at a2
  have e2 : (roM fr).nx (.tl h w) ((h + 0) % 4294967296) = (if fr then .nx h w else .over h w false false) := by
    show (if 0 < ((h + 0) % 4294967296 - h) % 4294967296 then _ else if fr then _ else _) = _
    rw [if_neg (by omega)]
  rw [e2] at a2
  refine ⟨s2, ?_, hb, ?_, ?_, ?_, fun i hi => absurd hi (by simp), hq.ls, hq.nb, ?_⟩
  · show (roM fr).steps 0 n ((k + 1) + 1) (.hd a w, s) = _
    rw [a1]
    show (roM fr).steps 0 n (k + 1) (.tl h w, s1) = _
    rw [a2]
  · rw [f2, f1]; exact hq.hd
  · rw [f2, f1]; exact hq.tl
  · rw [f2, f1]; exact hq.nw
  · rw [b2, b1]; exact hq.bad
theorem ro_nonx {n : Nat} {s : St} {h : Int} {l : List Int} (hn : 287 ≤ n) (fr : Bool) (hq : Rq s h l (-1)) (a w : Int) (k : Nat) :
    ∃ s', (roM fr).steps 0 n (k + 1) (.nx a w, s) = (roM fr).steps 0 n k (if fr then .over a w false false else .hd a w, s') ∧ Rq s' h l (-1) := by
  have hb := hq.hb
  obtain ⟨s1, a1, f1, b1⟩ := steps_ld (M := roM fr) (who := 0) (n := n) (k := k) (t := .nx a w) (s := s) (i := wd 20 1 264 0 3) rfl (by rw [ro_w (by omega)]; omega)
  rw [ro_w (by omega), show (20 + 3 : Int).toNat = 23 from rfl, hq.nw] at a1
  have e1 : (roM fr).nx (.nx a w) (-1 + 1) = (if fr then .over a w false false else .hd a w) := by
    cases fr <;> rfl
  rw [e1] at a1
  refine ⟨s1, a1, hb, ?_, ?_, ?_, fun i hi => ?_, hq.ls, hq.nb, ?_⟩
  · rw [f1]; exact hq.hd
  · rw [f1]; exact hq.tl
  · rw [f1]; exact hq.nw
  · rw [f1]; exact hq.rg i hi
  · rw [b1]; exact hq.bad
theorem ro_get {n : Nat} {s : St} {h : Int} {l : List Int} {nx : Int} (hn : 287 ≤ n) (hq : Rq s h l nx) (hl : l.length < 256) (fr : Bool) :
    ((roM fr).ax ((roM fr).steps 0 n 9 (rgS fr, s)).1) = none ∧ ((roM fr).steps 0 n 9 (rgS fr, s)).1.obs = roG fr l nx ∧ ∃ h', Rq ((roM fr).steps 0 n 9 (rgS fr, s)).2 h' (roL fr l nx) (roN fr l nx) := by
  cases fr with
  | true =>
    cases l with
    | nil =>
      obtain ⟨s1, e1, q1⟩ := ro_none hn true hq 0 0 7
      have e1 : (roM true).steps 0 n 9 (rgS true, s) = (roM true).steps 0 n 7 (.nx h 0, s1) := e1
      by_cases hx : nx = -1
      · subst hx
        obtain ⟨s2, e2, q2⟩ := ro_nonx hn true q1 h 0 6
        have e2 : (roM true).steps 0 n 7 (.nx h 0, s1) = (roM true).steps 0 n 6 (.over h 0 false false, s2) := e2
        rw [e1, e2, steps_no (M := roM true) (t := .over h 0 false false) rfl 6]
        exact ⟨rfl, rfl, h, q2⟩
      · obtain ⟨s2, t2, e2, q2, o2, x2⟩ := ro_nxt hn true q1 hx h 0 5
        rw [e1, e2]
        have hc : ¬ ((true = true ∧ ([] : List Int) ≠ []) ∨ nx = -1) := by simp [hx]
        exact ⟨x2, by rw [o2]; unfold roG; rw [if_neg hc], h, by unfold roL roN; rw [if_neg hc, if_neg hc]; exact q2⟩
    | cons y r =>
      obtain ⟨s1, h1, t1, e1, q1, o1, x1⟩ := ro_head hn true hq hl 0 0 5
      have e1 : (roM true).steps 0 n 9 (rgS true, s) = (t1, s1) := e1
      rw [e1]
      have hc : ((true = true ∧ (y :: r) ≠ []) ∨ nx = -1) := .inl ⟨rfl, by simp⟩
      exact ⟨x1, by rw [o1]; unfold roG; rw [if_pos hc]; rfl, h1, by unfold roL roN; rw [if_pos hc, if_pos hc]; exact q1⟩
  | false =>
    by_cases hx : nx = -1
    · subst hx
      obtain ⟨s1, e1, q1⟩ := ro_nonx hn false hq 0 0 8
      have e1 : (roM false).steps 0 n 9 (rgS false, s) = (roM false).steps 0 n 8 (.hd 0 0, s1) := e1
      have hc : ((false = true ∧ l ≠ []) ∨ (-1 : Int) = -1) := .inr rfl
      cases l with
      | nil =>
        obtain ⟨s2, e2, q2⟩ := ro_none hn false q1 0 0 6
        have e2 : (roM false).steps 0 n 8 (.hd 0 0, s1) = (roM false).steps 0 n 6 (.over h 0 false false, s2) := e2
        rw [e1, e2, steps_no (M := roM false) (t := .over h 0 false false) rfl 6]
        exact ⟨rfl, by unfold roG; rw [if_pos hc]; rfl, h, by unfold roL roN; rw [if_pos hc, if_pos hc]; exact q2⟩
      | cons y r =>
        obtain ⟨s2, h2, t2, e2, q2, o2, x2⟩ := ro_head hn false q1 hl 0 0 4
        rw [e1, e2]
        exact ⟨x2, by rw [o2]; unfold roG; rw [if_pos hc]; rfl, h2, by unfold roL roN; rw [if_pos hc, if_pos hc]; exact q2⟩
    · obtain ⟨s2, t2, e2, q2, o2, x2⟩ := ro_nxt hn false hq hx 0 0 7
      have e2 : (roM false).steps 0 n 9 (rgS false, s) = (t2, s2) := e2
      rw [e2]
      have hc : ¬ ((false = true ∧ l ≠ []) ∨ nx = -1) := by simp [hx]
      exact ⟨x2, by rw [o2]; unfold roG; rw [if_neg hc], h, by unfold roL roN; rw [if_neg hc, if_neg hc]; exact q2⟩
end Go.Proofs.YthhlklfioipmgaaGreat

namespace Go.Proofs.YthhlklfioipmgaaGreat
open Go Go.RowKit Go.Maps
set_option linter.unusedVariables false
set_option maxRecDepth 100000
set_option linter.unusedSimpArgs false

namespace RI
/-- A list of ints that the call made. -/
structure IntsOn (w : World) (base : Nat) (v : Value) (l : List Int) : Prop where
  own : w.ownsRow base 3 1 v l.length (l.map (Value.int .i64))
theorem lists_info3 : (Tryz.prog.info? 3).map (fun i => (i.zero, i.size, i.bytes)) = some (some (.int .i64 0), 1, 8) := by kernel_rfl
theorem row_but {w w' : World} {base : Nat} {e : TypeId} {size : Nat} {v : Value} {n : Nat} {xs : List Value} {l : List Nat} (h : w.ownsRow base e size v n xs) (hB : But l w w') (hl : ∀ b ∈ l, b < base) : w'.ownsRow base e size v n xs := by
  refine ⟨h.1, ?_⟩
  rcases h.2 with h0 | ⟨gb, cp, cur, e0, hb, hh, rest⟩
  · exact .inl h0
  · exact .inr ⟨gb, cp, cur, e0, hb, (hB.block gb (block_lt hh) (fun hm => absurd (hl gb hm) (by omega))).trans hh, rest⟩
theorem row_below {w w' : World} {base : Nat} {e : TypeId} {size : Nat} {v : Value} {n : Nat} {xs : List Value} (h : w.ownsRow base e size v n xs) (hB : Below w.heap.size w w') : w'.ownsRow base e size v n xs := row_but h (But.of_below (l := []) hB) (fun b hb => by cases hb)
theorem lists_slice {w : World} {base : Nat} {e : TypeId} {size : Nat} {v : Value} {n : Nat} {xs : List Value} (h : w.ownsRow base e size v n xs) : ∃ A cap, v = .slice A n cap := by
  rcases h.2 with ⟨e0, h0⟩ | ⟨gb, cp, cur, e0, hb, hh, rest⟩
  · subst h0; exact ⟨none, 0, e0⟩
  · exact ⟨_, _, e0⟩
theorem IntsOn.cell {w : World} {base : Nat} {v : Value} {l : List Int} (h : IntsOn w base v l) {j : Nat} (hj : j < l.length) : ∃ gb cap, v = .slice (some ⟨gb, 0, none⟩) l.length cap ∧ w.cell? ⟨gb, j, none⟩ = some (.int .i64 (l.getD j 0)) := by
  rcases h.own.2 with ⟨e, h0⟩ | ⟨gb, cp, cur, e, hb, hh, hnc, hcm, hcs, htk⟩
  · omega
  · subst e
    refine ⟨gb, cp, rfl, ?_⟩
    have hc := h.own.cellAt j (by omega)
    rw [List.getElem?_map, List.getElem?_eq_getElem hj] at hc
    rw [List.getD_eq_getElem?_getD, List.getElem?_eq_getElem hj]
    exact hc
/-- A slice of ints, seen in memory. -/
def SeesL (w : World) (v : Value) (l : List Int) : Prop := ∃ A cap, v = .slice A l.length cap ∧ (A = none → l.length = 0 ∧ cap = 0) ∧ (0 < l.length → ∃ b off : Nat, A = some ⟨b, off, none⟩ ∧ b < w.heap.size ∧ ∀ j, j < l.length → w.cell? ⟨b, off + j, none⟩ = some (.int .i64 (l.getD j 0)))
theorem SeesL.below {w w' : World} {v : Value} {l : List Int} (h : SeesL w v l) (hb : Below w.heap.size w w') : SeesL w' v l := by
  obtain ⟨A, cap, e, h1, h2⟩ := h
  refine ⟨A, cap, e, h1, fun hn => ?_⟩
  obtain ⟨b, off, e1, h3, h4⟩ := h2 hn
  exact ⟨b, off, e1, Nat.lt_of_lt_of_le h3 hb.size, fun j hj => (hb.cell (p := ⟨b, off + j, none⟩) h3).trans (h4 j hj)⟩
theorem IntsOn.sees {w : World} {base : Nat} {v : Value} {l : List Int} (h : IntsOn w base v l) : SeesL w v l := by
  by_cases h0 : 0 < l.length
  · obtain ⟨gb, cap, e, -⟩ := h.cell h0
    refine ⟨_, cap, e, (fun h => by cases h), fun hn => ⟨gb, 0, rfl, ?_, fun j hj => ?_⟩⟩
    · obtain ⟨gb', cap', e', hc⟩ := h.cell hn
      rw [e] at e'; cases e'
      exact cell_lt hc
    · obtain ⟨gb', cap', e', hc⟩ := h.cell hj
      rw [e] at e'; cases e'
      rw [Nat.zero_add]; exact hc
  · rcases h.own.2 with ⟨e, h1⟩ | ⟨gb, cp, cur, e, -⟩
    · exact ⟨none, 0, by rw [e, h1], fun _ => ⟨h1, rfl⟩, fun h => absurd h h0⟩
    · exact ⟨_, cp, e, (fun h => by cases h), fun h => absurd h h0⟩

theorem lsame_any (w : World) (v v' : Value) (l : List Int) (hn : l.length ≤ 1000000) (h : SeesL w v l) (h' : SeesL w v' l) :
    Calls Tryz.prog 16 #[v, v'] w fun e w' => e = .returned (.bool true) ∧ Below w.heap.size w w' := by
  obtain ⟨A, cap, rfl, -, h2⟩ := h
  obtain ⟨A', cap', rfl, -, h2'⟩ := h'
  have H : Hid (0 < l.length → ∃ b off : Nat, A = some ⟨b, off, none⟩ ∧ b < w.heap.size ∧ ∀ j, j < l.length → w.cell? ⟨b, off + j, none⟩ = some (.int .i64 (l.getD j 0))) := h2
  have H' : Hid (0 < l.length → ∃ b off : Nat, A' = some ⟨b, off, none⟩ ∧ b < w.heap.size ∧ ∀ j, j < l.length → w.cell? ⟨b, off + j, none⟩ = some (.int .i64 (l.getD j 0))) := h2'
  clear h2 h2'
  have HF : Hid (∃ (f : Nat → Int) (n : Nat), (fun j => l.getD j 0) = f ∧ l.length = n) := ⟨_, _, rfl, rfl⟩
  obtain ⟨f, n, hf, hl⟩ := HF.out
  have hfe : ∀ j, l.getD j 0 = f j := fun j => congrFun hf j
  simp only [hfe] at H H'
  rw [hl] at H H' hn ⊢
  clear HF hf hl hfe
  go_enter Tryz.func16, Tryz.ntmps16
  go_wp2_with fail
  go_loopw [5] (fun i wr => ∃ k m : Nat, k ≤ n ∧ i = .int .i64 k ∧ wr = w.drewN m) (fun i _ => n - (intOf i).toNat)
  case atStart => exact ⟨0, 0, Nat.zero_le _, rfl, rfl⟩
  case round =>
    obtain ⟨k, m, hk, rfl, rfl⟩ := hrel
    by_cases hlt : k < n
    · obtain ⟨b, off, rfl, hbB, hcell⟩ := H.out (by omega)
      obtain ⟨b', off', rfl, hbB', hcell'⟩ := H'.out (by omega)
      have e0 : w.cell? ⟨b, off + k, none⟩ = some (.int .i64 (f k)) := hcell k hlt
      have e1 : w.cell? ⟨b', off' + k, none⟩ = some (.int .i64 (f k)) := hcell' k hlt
      clear hcell hcell'
      generalize f k = x at e0 e1
      go_wp2_with fail
      go_quiet (fail)
      go_wp2_with fail
      go_roundw
      case rel => exact ⟨k + 1, _, by omega, by go_num, rfl⟩
      case measure => simp [intOf]; omega
    · obtain rfl : k = n := by omega
      go_wp2_with fail
      go_ret
      exact ⟨rfl, Below.drewN' (Below.refl _ _) m⟩
end RI
theorem But.grown {l : List Nat} {a w w' : World} {r : Option Nat} (h : But l a w) (hg : w.grownBy w' r) (hr : ∀ k, r = some k → k ∈ l ∨ a.heap.size ≤ k) : But l a w' :=
  ⟨hg.os.trans h.os, hg.tape.trans h.tape, hg.output.trans h.output, Nat.le_trans h.size hg.size, fun k hk hc => (hg.block k (Nat.lt_of_lt_of_le hk h.size) (fun e => by rcases hr k e.symm with h1 | h1; exact hc h1; omega)).trans (h.block k hk hc)⟩
def rowB (v : Value) : List Nat := match v.ownBlock with
  | some k => [k]
  | none => []
theorem rowB_mem {v : Value} {k : Nat} (h : v.ownBlock = some k) : k ∈ rowB v := by unfold rowB; rw [h]; simp
theorem mem_rowB {v : Value} {k : Nat} (h : k ∈ rowB v) : v.ownBlock = some k := by
  unfold rowB at h
  split at h
  · rename_i h'; simp at h; rw [h', h]
  · cases h
theorem RI.IntsOn.keep {w w' : World} {base : Nat} {v : Value} {l : List Int} {ll : List Nat} (h : RI.IntsOn w base v l) (hB : But ll w w') (hk : ∀ k ∈ rowB v, k ∉ ll) : RI.IntsOn w' base v l := by
  refine ⟨h.own.1, ?_⟩
  rcases h.own.2 with h0 | ⟨gb, cp, cur, e0, hb, hh, rest⟩
  · exact .inl h0
  · exact .inr ⟨gb, cp, cur, e0, hb, (hB.block gb (block_lt hh) (hk gb (rowB_mem (by rw [e0]; rfl)))).trans hh, rest⟩
theorem RI.IntsOn.up {w : World} {base : Nat} {v : Value} {l : List Int} (h : RI.IntsOn w base v l) : ∀ k ∈ rowB v, base ≤ k ∧ k < w.heap.size := fun k hk => h.own.lt k (mem_rowB hk)
/-- A list of ints that is only read. -/
def Rd.ints (base : Nat) (v : Value) (l : List Int) : Rd := ⟨rowB v, fun w => RI.IntsOn w base v l, fun w w' ll h hb hk => h.keep hb hk⟩
end Go.Proofs.YthhlklfioipmgaaGreat

namespace Go.Proofs.YthhlklfioipmgaaGreat
open Go Go.RowKit Go.Maps
set_option linter.unusedVariables false
set_option maxRecDepth 100000
set_option linter.unusedSimpArgs false

def raA (i : Nat) : Int := if i = 0 then 22 else if i = 1 then 23 else if i = 2 then 28 else 29
def raV (i : Nat) : Int := if i = 0 then 2 else if i = 1 then 4 else if i = 2 then 2 else 3
def raM (fr : Bool) : PM RgT := rgPM 1 0 fr
def raAt (fr : Bool) : Nat → St
  | 0 => fresh (putF raA raV 295 4)
  | i + 1 => ((raM fr).steps 0 295 9 (rgS fr, raAt fr i)).2
def raT (fr : Bool) (j : Nat) : RgT := ((raM fr).steps 0 295 9 (rgS fr, raAt fr j)).1
def raW (fr : Bool) : List Int := if fr then [1, 2, 3, -1] else [3, 1, 2, -1]
theorem raW_len (fr : Bool) : (raW fr).length = 4 := by cases fr <;> rfl
theorem raT_obs : ∀ (fr : Bool) (j : Nat), j < 4 → (raW fr).take (j + 1) = (raW fr).take j ++ [(raT fr j).obs] := by
  intro fr j hj
  rcases (by omega : j = 0 ∨ j = 1 ∨ j = 2 ∨ j = 3) with rfl | rfl | rfl | rfl <;> cases fr <;> decide +kernel
theorem raAt_low (fr : Bool) : ∀ j, Low (raAt fr j) (9 * j)
  | 0 => low_fresh _
  | j + 1 => (PM.steps_low (raM fr) 0 295 9 (rgS fr, raAt fr j) (raAt_low fr j)).more (by omega)

section
variable {σ : Type} {I : MI σ} {M : PM σ} {R Rm : Rd} {W0 w w' : World} {A : Option Addr} {cap c b n : Nat} {s : St} {x : Nat} {t : σ} {L : List Nat}
theorem Solo.step' (hG : I.Good M) {F : Nat} {who : Int} (hS : Steps M I Rm F who) (hRm : ∀ w, R.P w → Rm.P w) (hRb : ∀ k ∈ Rm.B, k ∈ R.B) (h : Solo I R W0 w A cap c b n s x t L) (hn : n ≤ 1000000) (hl : Low s 1000000) :
    Calls Tryz.prog F #[.pointer (some ⟨x, 0, none⟩), .pointer (some ⟨c, 0, none⟩)] w fun e w' => (e = .returned (.bool (M.ax (M.goT n t s)).isNone)) ∧ w.heap.size ≤ w'.heap.size ∧ ∃ L', Solo I R W0 w' A cap c b n (M.goS who n t s) x (M.goT n t s) L' := by
  refine (hS w A cap c b n s x t L h.mach (hRm w h.rd) h.mem hn hl (fun k hk => ⟨(h.far k hk).1, (h.far k hk).2.1, fun hr => (h.far k hk).2.2 (hRb k hr)⟩) ⟨fun hr => h.rfar.1 (hRb c hr), fun hr => h.rfar.2 (hRb b hr)⟩).mono ?_
  rintro e w' ⟨rfl, L', a1, a2, a3, a4⟩
  have hsz := h.below.size
  have k1 := h.mem.lt
  have k2 := h.mem.bl
  refine ⟨rfl, a3.size, L', a2, a1, R.keep _ _ _ h.rd a3 (fun k hk => ?_), fun k hk => ?_, h.rfar, ⟨h.up.1, h.up.2.1, fun k hk => ?_⟩, fun k hk => Nat.lt_of_lt_of_le (h.rlt k hk) a3.size, h.below.trans (a3.below ?_ hsz)⟩
  · simp only [List.mem_cons, not_or]
    exact ⟨fun e => h.rfar.1 (e ▸ hk), fun e => h.rfar.2 (e ▸ hk), fun hm => (h.far k hm).2.2 hk⟩
  · rcases a4 k hk with h1 | h1
    · exact h.far k h1
    · exact ⟨by omega, by omega, fun hr => by have := h.rlt k hr; omega⟩
  · rcases a4 k hk with h1 | h1
    · exact h.up.2.2 k h1
    · omega
  · intro k hk
    simp only [List.mem_cons] at hk
    rcases hk with rfl | rfl | hk
    · exact h.up.1
    · exact h.up.2.1
    · exact h.up.2.2 k hk
end
set_option maxHeartbeats 4000000 in
theorem drained_any (w : World) (fr : Bool) : Calls Tryz.prog 101 #[.bool fr] w fun e w' => ∃ v, e = .returned v ∧ RI.SeesL w' v (raW fr) ∧ Below w.heap.size w w' := by
  obtain ⟨i0, hi, hz0, hz1, hz2⟩ := info_parts RI.lists_info3
  have HL0 : Hid (∀ (E : Option Addr) (W : World), SeesP W W.heap.size E 4 raA raV → Calls Tryz.prog 9 #[.agg #[.int .i64 1, .int .i64 1, .int .i64 4, .slice E (4 : Nat) 4]] W fun e w' => ∃ (cl : Nat) (A A' : Option Addr) (cap cap' c b c' b' : Nat), e = .returned (.tuple #[.pointer (some ⟨cl, 0, none⟩), .pointer (some ⟨c, 0, none⟩), .pointer (some ⟨c', 0, none⟩), .bool true]) ∧ Laid W w' 1 1 4 295 (putF raA raV 295 4) cl A A' cap cap' c b c' b') := fun E W hs =>
    lay_some 1 1 4 E 4 4 295 raA raV W (by omega) ⟨⟨by omega⟩, by omega, by omega, by omega⟩ (by omega) hs (fun i hi => by rcases (by omega : i = 0 ∨ i = 1 ∨ i = 2 ∨ i = 3) with rfl | rfl | rfl | rfl <;> exact ⟨by decide, by decide⟩)
  have HLM : Hid (∀ cl, (rgFl 0 cl 0 fr).Laws (raM fr) (Rd.lay cl 1 1 4) 0) := fun cl => rg_laws 0 1 1 4 0 fr cl (by omega)
  have HW4 : Hid ((raW fr).length = 4) := raW_len fr
  have hb0 : Below w.heap.size w (w.alloc (.cells #[.int .i64 22, .int .u64 2, .int .i64 23, .int .u64 4, .int .i64 28, .int .u64 2, .int .i64 29, .int .u64 3] 82)) := (Below.refl _ _).alloc (Nat.le_refl _) _
  have hX := Blk.new w #[.int .i64 22, .int .u64 2, .int .i64 23, .int .u64 4, .int .i64 28, .int .u64 2, .int .i64 29, .int .u64 3] 82
  have hL := HL0.out (some ⟨w.heap.size, 0, none⟩) _ (fun _ => ⟨w.heap.size, 0, rfl, hX.lt, fun j hj => by
    rcases (by omega : j = 0 ∨ j = 1 ∨ j = 2 ∨ j = 3) with rfl | rfl | rfl | rfl
    · exact ⟨hX.cell 0 rfl, hX.cell 1 rfl⟩
    · exact ⟨hX.cell 2 rfl, hX.cell 3 rfl⟩
    · exact ⟨hX.cell 4 rfl, hX.cell 5 rfl⟩
    · exact ⟨hX.cell 6 rfl, hX.cell 7 rfl⟩⟩)
  have HB0 : Hid (Below w.heap.size w (w.alloc (.cells #[.int .i64 22, .int .u64 2, .int .i64 23, .int .u64 4, .int .i64 28, .int .u64 2, .int .i64 29, .int .u64 3] 82))) := hb0
  clear HL0 hX hb0
  go_enter Tryz.func101, Tryz.ntmps101
  go_wp2_with fail
  generalize w.alloc (.cells #[.int .i64 22, .int .u64 2, .int .i64 23, .int .u64 4, .int .i64 28, .int .u64 2, .int .i64 29, .int .u64 3] 82) = W at *
  go_at_call 9; refine hL.mono ?_; rintro e w1 ⟨cl, A, A', cap, cap', c, b, c', b', rfl, hLd⟩
  have hszW := HB0.out.size
  have HB1 : Hid (Below w.heap.size w w1) := HB0.out.trans (hLd.below.mono hszW)
  have HI0 : Hid (Is w1 136 A cap c b 295 (raAt fr 0)) := hLd.two.m
  have HY0 : Hid (Lay w1 cl 1 1 4) := hLd.lay
  have hne : Hid (cl ≠ c ∧ cl ≠ b) := lay_ne hLd.lay (by decide) hLd.two.m (by omega)
  have hup : Hid (w.heap.size ≤ c ∧ w.heap.size ≤ b) := ⟨by have := hLd.up.2.1; omega, by have := hLd.up.2.2.1; omega⟩
  have hlo : Hid (c < w1.heap.size ∧ b < w1.heap.size ∧ cl < w1.heap.size) := ⟨hLd.two.m.lt, hLd.two.m.bl, hLd.lay.lt⟩
  have HR0 : Hid (RI.IntsOn w1 w1.heap.size (.slice none 0 0) ((raW fr).take 0)) := ⟨World.ownsRow_nil _ _ _ _⟩
  have HBS : Hid (w.heap.size ≤ w1.heap.size) := HB1.out.size
  generalize hbb : w1.heap.size = B0 at HR0 hlo HBS
  have HBB : Hid (B0 ≤ w1.heap.size) := (by omega : B0 ≤ w1.heap.size)
  clear hL hLd HB0 hszW hbb
  go_wp2_with fail
  go_loopw [7, 8] (fun vv i wr => ∃ (j : Nat) (v : Value), v = vv ∧ j ≤ 4 ∧ i = .int .i64 j ∧ Hid (Is wr 136 A cap c b 295 (raAt fr j)) ∧ Hid (Lay wr cl 1 1 4) ∧ Hid (Below w.heap.size w wr) ∧ Hid (RI.IntsOn wr B0 v ((raW fr).take j)) ∧ Hid (B0 ≤ wr.heap.size)) (fun v i _ => 4 - (intOf i).toNat)
  case atStart => exact ⟨0, _, rfl, by omega, rfl, HI0, HY0, HB1, HR0, HBB⟩
  case round =>
    clear HI0 HY0 HB1 HR0 HBB
    obtain ⟨j, v, rfl, hj, rfl, HI, HY, HB, HV, HBB⟩ := hrel
    by_cases hlt : j < 4
    · have hN := rg_new wr cl 0 0 1 1 4 fr HY.out (by omega)
      have hk1 : (j : Int) < 4 := by omega
      have hk0 : (0 : Int) ≤ (j : Int) := by omega
      go_wp2_with fail
      go_at_call 43; refine hN.mono ?_; rintro e w3 ⟨x, L0, rfl, hi0, hb3, hu1⟩
      have HLA := HLM.out cl
      have HUP : Hid (∀ k ∈ rowB v, B0 ≤ k ∧ k < wr.heap.size) := HV.out.up
      have HS0 : Hid (Solo ((rgFl 0 cl 0 fr).I (raM fr)) ((Rd.lay cl 1 1 4).and (Rd.ints B0 v ((raW fr).take j))) w w3 A cap c b 295 ((raM fr).steps 0 295 0 (rgS fr, raAt fr j)).2 x ((raM fr).steps 0 295 0 (rgS fr, raAt fr j)).1 L0) := Solo.begin HI.out hb3 HB.out hup.out hi0 hu1 ⟨HY.out, HV.out⟩ (fun k hk => by
        rcases List.mem_append.1 hk with hk | hk
        · have : k = cl := List.mem_singleton.1 hk
          rw [this]; exact HY.out.lt
        · exact (HUP.out k hk).2) ⟨fun hm => by
          rcases List.mem_append.1 hm with hm | hm
          · exact hne.out.1 (List.mem_singleton.1 hm).symm
          · have h1 := (HUP.out _ hm).1; have h2 := hlo.out; omega, fun hm => by
          rcases List.mem_append.1 hm with hm | hm
          · exact hne.out.2 (List.mem_singleton.1 hm).symm
          · have h1 := (HUP.out _ hm).1; have h2 := hlo.out; omega⟩
      have hG : Hid (((rgFl 0 cl 0 fr).I (raM fr)).Good (raM fr) ∧ Steps (raM fr) ((rgFl 0 cl 0 fr).I (raM fr)) (Rd.lay cl 1 1 4) 44 0) := ⟨Fl.good HLA, Fl.steps HLA stepby_rget⟩
      have HLO : Hid (∀ q : Nat, q ≤ 9 → Low ((raM fr).steps 0 295 q (rgS fr, raAt fr j)).2 1000000) := fun q hq => (PM.steps_low (raM fr) 0 295 q (rgS fr, raAt fr j) (raAt_low fr j)).more (by omega)
      have HB3 : Hid (B0 ≤ w3.heap.size) := Nat.le_trans HBB.out hb3.size
      clear hN hi0 hb3 hu1 HI HY HB HLA HV HBB HUP
      go_wp2_with fail
      go_loopw [10] (fun k wi => ∃ (q : Nat) (L : List Nat), q ≤ 9 ∧ k = .int .i64 q ∧ Hid (Solo ((rgFl 0 cl 0 fr).I (raM fr)) ((Rd.lay cl 1 1 4).and (Rd.ints B0 v ((raW fr).take j))) w wi A cap c b 295 ((raM fr).steps 0 295 q (rgS fr, raAt fr j)).2 x ((raM fr).steps 0 295 q (rgS fr, raAt fr j)).1 L) ∧ Hid (B0 ≤ wi.heap.size)) (fun k _ => 9 - (intOf k).toNat)
      case atStart => exact ⟨0, L0, by omega, rfl, HS0, HB3⟩
      case round =>
        clear HS0 HB3
        obtain ⟨q, L, hq, rfl, HS, HBB⟩ := hrel
        by_cases hq9 : q < 9
        · have hSt := HS.out.step' hG.out.1 hG.out.2 (fun Y (h : ((Rd.lay cl 1 1 4).and (Rd.ints B0 v ((raW fr).take j))).P Y) => h.1) (fun k hk => List.mem_append_left _ hk) (by omega) (HLO.out q hq)
          rw [show (raM fr).goS 0 295 ((raM fr).steps 0 295 q (rgS fr, raAt fr j)).1 ((raM fr).steps 0 295 q (rgS fr, raAt fr j)).2 = ((raM fr).steps 0 295 (q + 1) (rgS fr, raAt fr j)).2 by rw [PM.steps_succ], show (raM fr).goT 295 ((raM fr).steps 0 295 q (rgS fr, raAt fr j)).1 ((raM fr).steps 0 295 q (rgS fr, raAt fr j)).2 = ((raM fr).steps 0 295 (q + 1) (rgS fr, raAt fr j)).1 by rw [PM.steps_succ]] at hSt
          have hq1 : (q : Int) < 9 := by omega
          have hq0 : (0 : Int) ≤ (q : Int) := by omega
          have HUP : Hid (∀ k ∈ rowB v, B0 ≤ k) := fun k hk => ((HS.out.rd.2 : RI.IntsOn _ B0 v _).up k hk).1
          clear HS
          go_wp2_with fail
          go_at_call 44; refine hSt.mono ?_; rintro e w4 ⟨rfl, hsz', L', hS'⟩
          have HS' : Hid _ := hS'
          have HBB' : Hid (B0 ≤ w4.heap.size) := Nat.le_trans HBB.out hsz'
          clear hSt hS'
          go_wp2_with fail
          go_roundw
          case rel => exact ⟨q + 1, L', by omega, by go_num, HS', HBB'⟩
          case measure => simp [intOf]; omega
        · obtain rfl : q = 9 := by omega
          have HT : Hid ((raW fr).take (j + 1) = (raW fr).take j ++ [(raT fr j).obs]) := raT_obs fr j hlt
          have hGv := rg_g HS.out.mach
          rw [show ((raM fr).steps 0 295 9 (rgS fr, raAt fr j)).1.obs = (raT fr j).obs from rfl] at hGv
          have HO : Hid (RI.IntsOn _ B0 v ((raW fr).take j)) := HS.out.rd.2
          have hOO := HO.out.own
          have hln : ((raW fr).take j).length = j := by rw [List.length_take, HW4.out]; omega
          have HLN : Hid _ := hln
          rw [hln] at hOO
          have HF : Hid _ := HS.out
          generalize (raT fr j).obs = gv at *
          clear HS hln
          go_wp2_with fail
          go_at_call 46; refine hGv.mono ?_; rintro e w4 ⟨rfl, rfl⟩
          go_wp2_with (at_builtin; refine wpList_append_own _ rfl _ _ 27 rfl B0 3 i0 (.int .i64 0) 1 8 Tryz.underlying27 hi hz0 hz1 hz2 rfl (by decide) _ _ _ rfl (hOO.alloc _) ⟨wr.heap.size, 0, none⟩ 1 1 [.int .i64 gv] rfl rfl (cell_one_new _ _ _) (ints_oneCell .i64 [gv]) (by unfold maxLen; omega) (by omega) (by have := HBB.out; simp; omega) ?_; intro v' w5 hown' hgrow2 hnil2)
          have hBu : But (rowB v) wr w5 := ((But.refl _ _).alloc _).grown hgrow2 (fun k hk => .inl (rowB_mem hk))
          have hUP := HO.out.up
          have HI5 : Hid (Is w5 136 A cap c b 295 (raAt fr (j + 1))) := HF.out.mem.but hBu (fun hm => HF.out.rfar.1 (List.mem_append_right _ hm)) (fun hm => HF.out.rfar.2 (List.mem_append_right _ hm))
          have HY5 : Hid (Lay w5 cl 1 1 4) := (hBu.block cl (HF.out.rd.1 : Lay wr cl 1 1 4).lt (fun hm => by have h1 := (hUP _ hm).1; have h2 := hlo.out; omega)).trans (HF.out.rd.1 : Lay wr cl 1 1 4)
          have HB5 : Hid (Below w.heap.size w w5) := HF.out.below.trans (hBu.below (fun k hk => by have h1 := (hUP _ hk).1; have := HBS.out; omega) HF.out.below.size)
          have HBB5 : Hid (B0 ≤ w5.heap.size) := Nat.le_trans HBB.out hBu.size
          have HV5 : Hid (RI.IntsOn w5 B0 v' ((raW fr).take (j + 1))) := ⟨by
            rw [HT.out, List.map_append, List.length_append, HLN.out]
            exact hown'⟩
          clear hown' hgrow2 hnil2 hBu hUP hOO HO HF
          go_wp2_with fail
          go_roundw
          case rel => exact ⟨j + 1, v', rfl, by omega, by go_num, HI5, HY5, HB5, HV5, HBB5⟩
          case measure => simp [intOf]; omega
    · obtain rfl : j = 4 := by omega
      have HF : Hid (RI.SeesL wr v (raW fr)) := by
        have := HV.out.sees
        rw [List.take_of_length_le (by rw [HW4.out]; omega)] at this
        exact this
      have HBF : Hid _ := HB.out
      clear HI HY HV HB
      go_wp2_with fail
      go_ret
      exact ⟨v, rfl, HF.out, HBF.out⟩
/-- A list that is spelled out. -/
theorem lit4_sees (w : World) (a b c d : Int) : RI.SeesL (w.alloc (.cells #[.int .i64 a, .int .i64 b, .int .i64 c, .int .i64 d] 3)) (.slice (some ⟨w.heap.size, 0, none⟩) 4 4) [a, b, c, d] := by
  have hX := Blk.new w #[.int .i64 a, .int .i64 b, .int .i64 c, .int .i64 d] 3
  refine ⟨_, 4, rfl, (fun h => by cases h), fun _ => ⟨w.heap.size, 0, rfl, hX.lt, fun j hj => ?_⟩⟩
  have hj4 : j < 4 := hj
  rcases (by omega : j = 0 ∨ j = 1 ∨ j = 2 ∨ j = 3) with rfl | rfl | rfl | rfl
  · exact hX.cell 0 rfl
  · exact hX.cell 1 rfl
  · exact hX.cell 2 rfl
  · exact hX.cell 3 rfl
set_option maxHeartbeats 4000000 in
theorem rget_awake (w : World) : Calls Tryz.prog 42 #[] w fun e w' => e = .returned (.bool true) ∧ Below w.heap.size w w' := by
  have hD := drained_any w false
  go_enter Tryz.func42, Tryz.ntmps42
  go_wp2_with fail
  go_at_call 101; refine hD.mono ?_; rintro e w1 ⟨v1, rfl, hs1, hb1⟩
  have HB1 : Hid (Below w.heap.size w w1) := hb1
  have hS1 := RI.lsame_any (w1.alloc (.cells #[.int .i64 3, .int .i64 1, .int .i64 2, .int .i64 (-1)] 3)) v1 _ (raW false) (by decide) (hs1.below ((Below.refl _ _).alloc (Nat.le_refl _) _)) (lit4_sees w1 3 1 2 (-1))
  have HA1 : Hid (Below w1.heap.size w1 (w1.alloc (.cells #[.int .i64 3, .int .i64 1, .int .i64 2, .int .i64 (-1)] 3))) := (Below.refl _ _).alloc (Nat.le_refl _) _
  clear hD hs1 hb1
  go_wp2_with fail
  go_at_call 16; refine hS1.mono ?_; rintro e w2 ⟨rfl, hb2⟩
  have HB2 : Hid (Below w.heap.size w w2) := seq (seq HB1.out HA1.out) hb2
  have hD := drained_any w2 true
  clear hS1 HA1 HB1 hb2
  go_wp2_with fail
  go_at_call 101; refine hD.mono ?_; rintro e w3 ⟨v3, rfl, hs3, hb3⟩
  have HB3 : Hid (Below w.heap.size w w3) := seq HB2.out hb3
  have hS3 := RI.lsame_any (w3.alloc (.cells #[.int .i64 1, .int .i64 2, .int .i64 3, .int .i64 (-1)] 3)) v3 _ (raW true) (by decide) (hs3.below ((Below.refl _ _).alloc (Nat.le_refl _) _)) (lit4_sees w3 1 2 3 (-1))
  have HA3 : Hid (Below w3.heap.size w3 (w3.alloc (.cells #[.int .i64 1, .int .i64 2, .int .i64 3, .int .i64 (-1)] 3))) := (Below.refl _ _).alloc (Nat.le_refl _) _
  clear hD hs3 hb3 HB2
  go_wp2_with fail
  go_at_call 16; refine hS3.mono ?_; rintro e w4 ⟨rfl, hb4⟩
  have HB4 : Hid (Below w.heap.size w w4) := seq (seq HB3.out HA3.out) hb4
  clear hS3 HA3 HB3 hb4
  go_wp2_with fail
  go_ret
  exact ⟨rfl, HB4.out⟩
end Go.Proofs.YthhlklfioipmgaaGreat

namespace Go.Proofs.YthhlklfioipmgaaGreat
open Go Go.RowKit
set_option linter.unusedVariables false
set_option maxRecDepth 100000
set_option linter.unusedSimpArgs false

theorem tmod_nat (a b : Nat) : (a : Int).tmod (b : Int) = ((a % b : Nat) : Int) := by rw [Int.tmod_eq_emod_of_nonneg (by omega)]; simp

/-- Numbers below 256 of a slice. -/
def SeesB8 (w : World) (B : Nat) (A : Option Addr) (n : Nat) (f : Nat → Nat) : Prop :=
  0 < n → ∃ b off, A = some ⟨b, off, none⟩ ∧ b < B ∧ ∀ i, i < n → w.cell? ⟨b, off + i, none⟩ = some (.int .u8 (f i)) ∧ f i ≤ 255
open Go.ChangeShapes Go.WideShapes Go.ChangeAt Go.Deep in
theorem sees_bytes {H : Type} {enc : TypeId × Value → H} {P : Program} {W : World} {base b0 : Nat} {t e : TypeId} {v : Value} {d : DataW H} {p : List MemPlace} (ht : P.underlying t = some (.slice e)) (he : P.underlying e = some (.int .u8)) (hc : P.cellsOf e = 1)
    (hv : Value.okWide P W .any b0 t v) (h : DataW.Trod enc P W base (fun _ => true) true t v d p) :
    ∃ (A : Option Addr) (n cap : Nat) (f : Nat → Nat), v = .slice A n cap ∧ n ≤ maxLen ∧ SeesB8 W W.heap.size A n f := by
  obtain ⟨A, n, cap, rfl⟩ := okWide_slice ht hv
  obtain ⟨fuel, hf⟩ := h
  rcases open_ints ht he hc hf with ⟨hcs, _⟩ | ⟨x, l, c, zs, hcs, _, hl, hm, hz, _, hcell, hwz⟩
  · simp [Value.cells] at hcs
    obtain ⟨rfl, rfl, rfl⟩ := hcs
    exact ⟨none, 0, 0, fun _ => 0, rfl, Nat.zero_le _, fun h => absurd h (Nat.lt_irrefl 0)⟩
  · simp [Value.cells] at hcs
    obtain ⟨rfl, rfl, rfl⟩ := hcs
    have hz' : zs.length = cap := by simpa using hz
    refine ⟨some x, n, cap, fun i => (zs.getD i 0).toNat, rfl, Nat.le_trans hl hm, ?_⟩
    intro hn
    obtain ⟨b, off, spot⟩ := x
    have hs : spot = none := by
      have := hcell 0 (by omega)
      simpa [Addr.add] using World.cell?_spot this
    subst hs
    have hc0 := hcell 0 (by omega)
    simp [Addr.add] at hc0
    have hpos : ∀ i, i < n → 0 ≤ zs.getD i 0 ∧ zs.getD i 0 ≤ 255 := fun i hi => by
      have : zs.getD i 0 ∈ zs := by
        rw [List.getD_eq_getElem?_getD, List.getElem?_eq_getElem (by omega)]
        exact List.getElem_mem _
      exact bounds_u8 (hwz _ this)
    refine ⟨b, off, rfl, cell_lt hc0, fun i hi => ⟨?_, by have := hpos i hi; show (zs.getD i 0).toNat ≤ 255; omega⟩⟩
    have := hcell i (by omega)
    rw [show (((zs.getD i 0).toNat : Nat) : Int) = zs.getD i 0 from Int.toNat_of_nonneg (hpos i hi).1]
    by_cases h0 : i = 0
    · subst h0; simpa [Addr.add] using this
    · simpa [Addr.add, h0] using this

end Go.Proofs.YthhlklfioipmgaaGreat

namespace Go.Proofs.YthhlklfioipmgaaGreat
open Go Go.RowKit Go.Maps
set_option linter.unusedVariables false
set_option maxRecDepth 100000
set_option linter.unusedSimpArgs false

namespace RI
/-- A list of ints, anywhere in a row of the call's own. -/
structure TL (w : World) (base : Nat) (v : Value) (l : List Int) : Prop where
  ex : ∃ (A : Option Addr) (cap : Nat), v = .slice A l.length cap ∧ cap ≤ maxLen ∧ l.length ≤ cap ∧ ((A = none ∧ cap = 0) ∨ ∃ b off cur, A = some ⟨b, off, none⟩ ∧ base ≤ b ∧ w.heap[b]? = some (.cells cur 3 (0, 0)) ∧ off + cap ≤ cur.size ∧ ∀ j, j < l.length → cur[off + j]? = some (.int .i64 (l.getD j 0)))
theorem TL.nil (w : World) (base : Nat) : TL w base (.slice none 0 0) [] := ⟨none, 0, rfl, Nat.zero_le _, Nat.le_refl _, .inl ⟨rfl, rfl⟩⟩
theorem TL.keep {w w' : World} {base : Nat} {v : Value} {l : List Int} {ll : List Nat} (h : TL w base v l) (hB : But ll w w') (hk : ∀ k ∈ rowB v, k ∉ ll) : TL w' base v l := by
  obtain ⟨A, cap, e, h1, h2, h3⟩ := h
  refine ⟨A, cap, e, h1, h2, ?_⟩
  rcases h3 with h0 | ⟨b, off, cur, eA, hb, hh, hs, hc⟩
  · exact .inl h0
  · exact .inr ⟨b, off, cur, eA, hb, (hB.block b (block_lt hh) (hk b (rowB_mem (by rw [e, eA]; rfl)))).trans hh, hs, hc⟩
theorem TL.below {w w' : World} {base : Nat} {v : Value} {l : List Int} (h : TL w base v l) (hB : Below w.heap.size w w') : TL w' base v l := h.keep (But.of_below (l := []) hB) (fun k _ h => by cases h)
theorem TL.up {w : World} {base : Nat} {v : Value} {l : List Int} (h : TL w base v l) : ∀ k ∈ rowB v, base ≤ k ∧ k < w.heap.size := fun k hk => by
  obtain ⟨A, cap, e, h1, h2, h3⟩ := h
  have hk := mem_rowB hk
  rcases h3 with ⟨e0, -⟩ | ⟨b, off, cur, eA, hb, hh, hs, hc⟩
  · rw [e, e0] at hk; cases hk
  · rw [e, eA] at hk
    injection hk with hk
    have hk : b = k := hk
    subst hk
    exact ⟨hb, block_lt hh⟩
theorem TL.shape {w : World} {base : Nat} {v : Value} {l : List Int} (h : TL w base v l) : ∃ A cap, v = .slice A l.length cap := by
  obtain ⟨A, cap, e, -⟩ := h
  exact ⟨A, cap, e⟩
theorem TL.sees {w : World} {base : Nat} {v : Value} {l : List Int} (h : TL w base v l) : SeesL w v l := by
  obtain ⟨A, cap, e, h1, h2, h3⟩ := h
  rcases h3 with ⟨e0, e1⟩ | ⟨b, off, cur, eA, hb, hh, hs, hc⟩
  · subst e0 e1
    have hl : l.length = 0 := by omega
    exact ⟨none, 0, e, fun _ => ⟨hl, rfl⟩, fun h => absurd h (by omega)⟩
  · exact ⟨A, cap, e, (fun h => by rw [eA] at h; cases h), fun _ => ⟨b, off, eA, block_lt hh, fun j hj => by simp [World.cell?, hh, hc j hj]⟩⟩
theorem TL.uncons {w : World} {base : Nat} {v : Value} {x : Int} {r : List Int} (h : TL w base v (x :: r)) : ∃ b off cap : Nat, v = .slice (some ⟨b, off, none⟩) (r.length + 1) cap ∧ r.length + 1 ≤ cap ∧ cap ≤ maxLen ∧ w.cell? ⟨b, off, none⟩ = some (.int .i64 x) ∧ TL w base (.slice (if cap = 1 then some ⟨b, off, none⟩ else some ⟨b, off + 1, none⟩) r.length (cap - 1)) r := by
  obtain ⟨A, cap, e, h1, h2, h3⟩ := h
  rw [List.length_cons] at h2 e
  rcases h3 with ⟨e0, e1⟩ | ⟨b, off, cur, eA, hb, hh, hs, hc⟩
  · omega
  · subst eA
    have h0 := hc 0 (by simp)
    refine ⟨b, off, cap, e, h2, h1, by simpa [World.cell?, hh] using h0, ?_⟩
    refine ⟨_, cap - 1, rfl, by omega, by omega, .inr ?_⟩
    by_cases hc1 : cap = 1
    · rw [if_pos hc1]
      refine ⟨b, off, cur, rfl, hb, hh, by omega, fun j hj => by omega⟩
    · rw [if_neg hc1]
      refine ⟨b, off + 1, cur, rfl, hb, hh, by omega, fun j hj => ?_⟩
      have := hc (j + 1) (by simp; omega)
      rw [show off + (j + 1) = off + 1 + j by omega] at this
      simpa using this
theorem TL.of_own {w : World} {base b' : Nat} {v : Value} {l : List Int} (h : w.ownsRow b' 3 1 v l.length (l.map (Value.int .i64))) (hb : base ≤ b') : TL w base v l := by
  obtain ⟨h1, h2⟩ := h
  rcases h2 with ⟨e0, hl⟩ | ⟨g, cap, cur, e0, h3, h4, h5, h6, h7, h8⟩
  · exact ⟨none, 0, by rw [e0, hl], Nat.zero_le _, by omega, .inl ⟨rfl, rfl⟩⟩
  · refine ⟨some ⟨g, 0, none⟩, cap, e0, h6, h5, .inr ⟨g, 0, cur, rfl, Nat.le_trans hb h3, h4, by omega, fun j hj => ?_⟩⟩
    have e1 : (cur.toList.take (l.length * 1))[j]? = (l.map (Value.int .i64))[j]? := by rw [h8]
    rw [List.getElem?_take, if_pos (by omega), List.getElem?_map, List.getElem?_eq_getElem hj] at e1
    rw [Nat.zero_add, List.getD_eq_getElem?_getD, List.getElem?_eq_getElem hj]
    simpa using e1
/-- One more, behind. -/
theorem tl_append {ops : Array Oper} {rest : List Oper} {o : Oper} {a : Act} {Q : Exit → Act → World → Prop} (w : World) (hgd : o.guard = none) (s x : Operand) (ho : o.op = .call { callee := .builtin .append, args := #[s, x], argTypes := #[27, 27] }) {base : Nat} {v : Value} {l : List Int} (hv : a.eval s = v) (h : TL w base v l) (ad : Addr) (c : Nat) (g : Int) (hx : a.eval x = .slice (some ad) 1 c) (hnews : ∀ j u, ([.int .i64 g] : List Value)[j]? = some u → w.cell? (ad.add j) = some u) (hlen : l.length ≤ 1000000) (hbase : base ≤ w.heap.size)
    (hK : ∀ v' w', TL w' base v' (l ++ [g]) → But (rowB v) w w' → (∀ k ∈ rowB v', k ∈ rowB v ∨ w.heap.size ≤ k) → wpList Tryz.prog ops Q rest (a.put o.dst v') w') : wpList Tryz.prog ops Q (o :: rest) a w := by
  obtain ⟨i0, hi, hz0, hz1, hz2⟩ := info_parts lists_info3
  have h1c := ints_oneCell .i64 [g]
  have hmx : l.length + 1 ≤ maxLen := by unfold maxLen; omega
  have hby : (l.length + 1) * 8 ≤ 140737488355328 := by omega
  have hgrow : ∀ v' w', w'.ownsRow w.heap.size 3 1 v' (l.length + 1) (l.map (Value.int .i64) ++ [.int .i64 g]) → w.grownBy w' none → wpList Tryz.prog ops Q rest (a.put o.dst v') w' := fun v' w' h1 h2 => by
    have hT : TL w' w.heap.size v' (l ++ [g]) := TL.of_own (by simpa using h1) (Nat.le_refl _)
    refine hK v' w' (TL.of_own (by simpa using h1) hbase) ((But.refl _ _).grown h2 (fun k hk => by cases hk)) (fun k hk => .inr (hT.up k hk).1)
  obtain ⟨A, cap, e, h1, h2, h3⟩ := h
  rw [e] at hv
  rcases h3 with ⟨e0, e1⟩ | ⟨b, off, cur, eA, hb, hh, hs, hcl⟩
  · subst e0 e1
    obtain rfl : l = [] := List.eq_nil_of_length_eq_zero (by omega)
    exact wpList_append_grows w hgd s x 27 ho 3 i0 (.int .i64 0) 1 8 Tryz.underlying27 hi hz0 hz1 hz2 rfl (by decide) none 0 0 [] hv (fun _ => ⟨rfl, rfl⟩) rfl (fun b hb => by cases hb) ad 1 c [.int .i64 g] hx rfl hnews h1c (by omega) hmx hby (by simpa using hgrow)
  · subst eA
    have holds : ∀ j u, (l.map (Value.int .i64))[j]? = some u → w.cell? ⟨b, off + j, none⟩ = some u := fun j u hj => by
      have hjl : j < l.length := by have := (List.getElem?_eq_some_iff.1 hj).1; simpa using this
      rw [List.getElem?_map, List.getElem?_eq_getElem hjl] at hj
      have := hcl j hjl
      rw [List.getD_eq_getElem?_getD, List.getElem?_eq_getElem hjl] at this
      simp only [World.cell?, hh]
      rw [this]
      simpa using hj
    refine wpList_append_arg w hgd s x 27 ho 3 i0 (.int .i64 0) 1 8 Tryz.underlying27 hi hz0 hz1 hz2 rfl (by decide) b off l.length cap (l.map (Value.int .i64)) hv (by simp) holds ad 1 c [.int .i64 g] hx rfl hnews h1c (fun hr j hj => ?_) hmx hby (fun hr => ?_) (fun _ v' w' => hgrow v' w')
    · have hj0 : j = 0 := by simpa using hj
      subst hj0
      have hlt : off + l.length * 1 + 0 < cur.size := by omega
      exact ⟨by simp [World.cell?, hh, Array.getElem?_eq_getElem hlt] <;> omega, by simp [World.frozen?, hh]⟩
    · rw [show off + l.length * 1 = off + l.length by omega]
      have hset : w.setCells b (off + l.length) [.int .i64 g] = w.setCell ⟨b, off + l.length, none⟩ (.int .i64 g) := rfl
      rw [hset]
      have hB : But (rowB v) w (w.setCell ⟨b, off + l.length, none⟩ (.int .i64 g)) := (But.refl _ w).set (g := b) (.inl (rowB_mem (by rw [e]; rfl))) _ _
      refine hK _ _ ⟨some ⟨b, off, none⟩, cap, by simp, h1, by simpa using hr, .inr ⟨b, off, cur.setIfInBounds (off + l.length) (.int .i64 g), rfl, hb, heap_set hh _ _, by simpa using hs, fun j hj => ?_⟩⟩ hB (fun k hk => .inl ?_)
      · simp only [List.length_append, List.length_singleton] at hj
        rw [Array.getElem?_setIfInBounds]
        by_cases hjl : j < l.length
        · rw [if_neg (by omega), hcl j hjl]
          rw [List.getD_eq_getElem?_getD, List.getD_eq_getElem?_getD, List.getElem?_append_left hjl]
        · obtain rfl : j = l.length := by omega
          rw [if_pos rfl, if_pos (by omega)]
          simp
      · rw [e]; exact hk
end RI
/-- Such a list, that is only read. -/
def Rd.tl (base : Nat) (v : Value) (l : List Int) : Rd := ⟨rowB v, fun w => RI.TL w base v l, fun w w' ll h hb hk => h.keep hb hk⟩
end Go.Proofs.YthhlklfioipmgaaGreat

namespace Go.Proofs.YthhlklfioipmgaaGreat
open Go Go.RowKit
set_option linter.unusedVariables false
set_option maxRecDepth 100000
set_option linter.unusedSimpArgs false

/-- A machine that is only kept. -/
def Rd.mach {σ : Type} {I : MI σ} {M : PM σ} (hG : I.Good M) (x : Nat) (t : σ) (L : List Nat) : Rd := ⟨L, fun w => I w x t L, fun w w' l h hb hk => hG.keep h hb hk⟩
section
variable {σ : Type} {I : MI σ} {M : PM σ} {R Rm : Rd} {W0 w w' : World} {A : Option Addr} {cap c b n : Nat} {s : St} {x : Nat} {t : σ} {L : List Nat}
theorem Solo.again (h : Solo I R W0 w A cap c b n s x t L) {τ : Type} {J : MI τ} {R2 : Rd} {y : Nat} {u : τ} {K : List Nat} (hm : J w y u K) (hr : R2.P w) (hB : ∀ k ∈ K, k ∈ R.B) (hR : ∀ k ∈ R2.B, k ∈ R.B) (hK : ∀ k ∈ K, k ∉ R2.B) (hup : ∀ k ∈ K, W0.heap.size ≤ k) : Solo J R2 W0 w A cap c b n s y u K :=
  ⟨h.mem, hm, hr, fun k hk => ⟨fun e => h.rfar.1 (e ▸ hB k hk), fun e => h.rfar.2 (e ▸ hB k hk), hK k hk⟩, ⟨fun hm => h.rfar.1 (hR _ hm), fun hm => h.rfar.2 (hR _ hm)⟩, ⟨h.up.1, h.up.2.1, hup⟩, fun k hk => h.rlt k (hR k hk), h.below⟩
end
theorem lit1_sees (w : World) (a : Int) : RI.SeesL (w.alloc (.cells #[.int .i64 a] 3)) (.slice (some ⟨w.heap.size, 0, none⟩) 1 1) [a] := by
  have hX := Blk.new w #[.int .i64 a] 3
  refine ⟨_, 1, rfl, (fun h => by cases h), fun _ => ⟨w.heap.size, 0, rfl, hX.lt, fun j hj => ?_⟩⟩
  have hj4 : j < 1 := hj
  obtain rfl : j = 0 := by omega
  exact hX.cell 0 rfl
theorem lit2_sees (w : World) (a b : Int) : RI.SeesL (w.alloc (.cells #[.int .i64 a, .int .i64 b] 3)) (.slice (some ⟨w.heap.size, 0, none⟩) 2 2) [a, b] := by
  have hX := Blk.new w #[.int .i64 a, .int .i64 b] 3
  refine ⟨_, 2, rfl, (fun h => by cases h), fun _ => ⟨w.heap.size, 0, rfl, hX.lt, fun j hj => ?_⟩⟩
  have hj4 : j < 2 := hj
  rcases (by omega : j = 0 ∨ j = 1) with rfl | rfl
  · exact hX.cell 0 rfl
  · exact hX.cell 1 rfl
theorem lit3_sees (w : World) (a b c : Int) : RI.SeesL (w.alloc (.cells #[.int .i64 a, .int .i64 b, .int .i64 c] 3)) (.slice (some ⟨w.heap.size, 0, none⟩) 3 3) [a, b, c] := by
  have hX := Blk.new w #[.int .i64 a, .int .i64 b, .int .i64 c] 3
  refine ⟨_, 3, rfl, (fun h => by cases h), fun _ => ⟨w.heap.size, 0, rfl, hX.lt, fun j hj => ?_⟩⟩
  have hj4 : j < 3 := hj
  rcases (by omega : j = 0 ∨ j = 1 ∨ j = 2) with rfl | rfl | rfl
  · exact hX.cell 0 rfl
  · exact hX.cell 1 rfl
  · exact hX.cell 2 rfl

section
variable {σ : Type} {I : MI σ} {M : PM σ} {R Rm : Rd} {W0 w w' : World} {A : Option Addr} {cap c b n : Nat} {s : St} {x : Nat} {t : σ} {L : List Nat}
theorem Solo.stepUp (hG : I.Good M) {F : Nat} {who : Int} (hS : Steps M I Rm F who) (hRm : ∀ w, R.P w → Rm.P w) (hRb : ∀ k ∈ Rm.B, k ∈ R.B) (h : Solo I R W0 w A cap c b n s x t L) (hn : n ≤ 1000000) (hl : Low s 1000000) :
    Calls Tryz.prog F #[.pointer (some ⟨x, 0, none⟩), .pointer (some ⟨c, 0, none⟩)] w fun e w' => (e = .returned (.bool (M.ax (M.goT n t s)).isNone)) ∧ w.heap.size ≤ w'.heap.size ∧ ∃ L', Solo I R W0 w' A cap c b n (M.goS who n t s) x (M.goT n t s) L' := by
  refine (hS w A cap c b n s x t L h.mach (hRm w h.rd) h.mem hn hl (fun k hk => ⟨(h.far k hk).1, (h.far k hk).2.1, fun hr => (h.far k hk).2.2 (hRb k hr)⟩) ⟨fun hr => h.rfar.1 (hRb c hr), fun hr => h.rfar.2 (hRb b hr)⟩).mono ?_
  rintro e w' ⟨rfl, L', a1, a2, a3, a4⟩
  have hsz := h.below.size
  have k1 := h.mem.lt
  have k2 := h.mem.bl
  refine ⟨rfl, a3.size, L', a2, a1, R.keep _ _ _ h.rd a3 (fun k hk => ?_), fun k hk => ?_, h.rfar, ⟨h.up.1, h.up.2.1, fun k hk => ?_⟩, fun k hk => Nat.lt_of_lt_of_le (h.rlt k hk) a3.size, h.below.trans (a3.below ?_ hsz)⟩
  · simp only [List.mem_cons, not_or]
    exact ⟨fun e => h.rfar.1 (e ▸ hk), fun e => h.rfar.2 (e ▸ hk), fun hm => (h.far k hm).2.2 hk⟩
  · rcases a4 k hk with h1 | h1
    · exact h.far k h1
    · exact ⟨by omega, by omega, fun hr => by have := h.rlt k hr; omega⟩
  · rcases a4 k hk with h1 | h1
    · exact h.up.2.2 k h1
    · omega
  · intro k hk
    simp only [List.mem_cons] at hk
    rcases hk with rfl | rfl | hk
    · exact h.up.1
    · exact h.up.2.1
    · exact h.up.2.2 k hk
end
theorem lit4b_sees (w : World) (a b c d : Int) : RI.SeesL (w.alloc (.cells #[.int .i64 a, .int .i64 b, .int .i64 c, .int .i64 d] 3)) (.slice (some ⟨w.heap.size, 0, none⟩) 4 4) [a, b, c, d] := by
  have hX := Blk.new w #[.int .i64 a, .int .i64 b, .int .i64 c, .int .i64 d] 3
  refine ⟨_, 4, rfl, (fun h => by cases h), fun _ => ⟨w.heap.size, 0, rfl, hX.lt, fun j hj => ?_⟩⟩
  have hj4 : j < 4 := hj
  rcases (by omega : j = 0 ∨ j = 1 ∨ j = 2 ∨ j = 3) with rfl | rfl | rfl | rfl
  · exact hX.cell 0 rfl
  · exact hX.cell 1 rfl
  · exact hX.cell 2 rfl
  · exact hX.cell 3 rfl
end Go.Proofs.YthhlklfioipmgaaGreat
