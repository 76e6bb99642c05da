/- The document's routine that puts into a ring: it keeps step with the machine. -/
import Derived.Test.YtfdpikkinlljlaaGreatHNAJ
import Derived.Test.YtfdpikkinlljlaaGreatHNAC
namespace Go.Proofs.YtfdpikkinlljlaaGreat
open Go Go.RowKit
set_option linter.unusedVariables false
set_option maxRecDepth 100000
set_option linter.unusedSimpArgs false

/-- The answers of swaps. -/
def RpSw {σ : Type} (M : PM σ) (s0 : σ) (g : Nat → Int) (m : Nat) : Prop := ∀ j, j < m → ∀ a, M.ax (M.run s0 g j) = some a → a.k = 3 → g j ≤ 1
theorem RpSw.one {σ : Type} {M : PM σ} {s0 t : σ} {g : Nat → Int} {m j : Nat} {Q : σ → Prop} {v : Int} {a : Ax} (h : RpSw M s0 g m) (hS : Syn M s0 g m j t Q) (ha : M.ax t = some a) (hk : a.k = 3) (hv : j < m → v = g j) (hz : m ≤ j → v = 0) (hb : 0 ≤ v) : v = 0 ∨ v = 1 := by
  by_cases hj : j < m
  · have := h j hj a (by rw [hS.at' (by omega)]; exact ha) hk
    rw [hv hj] at hb ⊢
    omega
  · exact .inl (hz (by omega))

theorem Syn.reset {σ : Type} {M : PM σ} {s0 t : σ} {g : Nat → Int} {m j : Nat} {Q : σ → Prop} (h : Syn M s0 g m j t Q) (hj : j ≤ m) (Q' : σ → Prop) : Syn M s0 g m j t Q' := ⟨h.at', fun hm => absurd hj (by omega)⟩
structure RpEq (M : PM RpT) (P p : Int) : Prop where
  a1 : ∀ d, M.ax (.nx d) = some (axLd (wd 20 P 264 p 3))
  a2 : ∀ d, M.ax (.sn d) = some (axSw (wd 20 P 264 p 3) d.nt (rpw d.g))
  a3 : ∀ d, M.ax (.hd d) = some (axLd (wd 20 P 264 p 1))
  a4 : ∀ d, M.ax (.tl d) = some (axLd (wd 20 P 264 p 2))
  a5 : ∀ d, M.ax (.st d) = some (axSt (wd 20 P 264 p (8 + d.tl % 256)) (rpw d.g))
  a6 : ∀ d, M.ax (.ln d) = some (axSt (wd 20 P 264 p 2) ((d.tl + 1) % 4294967296))
  a7 : ∀ d k, M.ax (.gl d k) = some (axLd (wd 20 P 264 p (8 + IntKind.u64.wrap (d.hd + k) % 256)))
  a8 : ∀ d, M.ax (.sh d) = some (axSw (wd 20 P 264 p 1) d.hd ((d.hd + 128) % 4294967296))
  a9 : ∀ d, M.ax (.over d) = none
  n1 : ∀ d v, M.nx (.nx d) v = .sn { d with nt := v }
  n2 : ∀ d v, M.nx (.sn d) v = if v = 0 then .nx d else if d.nt = 0 then .over { d with has := false } else .hd { d with g := gw d.nt }
  n3 : ∀ d v, M.nx (.hd d) v = .tl { d with hd := v }
  n4 : ∀ d v, M.nx (.tl d) v = if (v - d.hd) % 4294967296 < 256 then .st { d with tl := v } else .gl { d with tl := v, ld := 0 } 0
  n5 : ∀ d v, M.nx (.st d) v = .ln d
  n6 : ∀ d v, M.nx (.ln d) v = .over { d with has := false }
  n7 : ∀ d k v, M.nx (.gl d k) v = if k + 1 < 128 then .gl (d.take1 k v) (k + 1) else .sh (d.take1 k v)
  n8 : ∀ d v, M.nx (.sh d) v = if v = 0 then .hd d else .acq d .fresh
  rl : ∀ d q, M.ax (.rel d q .over) = none
theorem rp_eq (who P p : Int) (gl : Int → Int) : RpEq (rpPM who P p gl) P p := ⟨fun _ => rfl, fun _ => rfl, fun _ => rfl, fun _ => rfl, fun _ => rfl, fun _ => rfl, fun _ _ => rfl, fun _ => rfl, fun _ => rfl, fun _ _ => rfl, fun _ _ => rfl, fun _ _ => rfl, fun _ _ => rfl, fun _ _ => rfl, fun _ _ => rfl, fun _ _ _ => rfl, fun _ _ => rfl, fun _ _ => rfl⟩
/-- One in the hand, none moved. -/
def RpOne (gg : Int) (r : RpT) : Prop := r.holds = [gg] ∧ r.moved = 0
/-- What it has: one in the hand. -/
def RpHas (d : RpD) (gg : Int) : Prop := d.g = gg ∧ d.has = true ∧ d.gv.length = 128
section
variable {d : RpD} {gg : Int} (h : RpHas d gg)
include h
theorem rpone_nx : RpOne gg (.nx d) := ⟨by show (if d.has = true then [d.g] else []) = _; rw [if_pos h.2.1, h.1], rfl⟩
theorem rpone_sn : RpOne gg (.sn d) := ⟨by show (if d.has = true then [d.g] else []) = _; rw [if_pos h.2.1, h.1], rfl⟩
theorem rpone_hd : RpOne gg (.hd d) := ⟨by show (if d.has = true then [d.g] else []) = _; rw [if_pos h.2.1, h.1], rfl⟩
theorem rpone_tl : RpOne gg (.tl d) := ⟨by show (if d.has = true then [d.g] else []) = _; rw [if_pos h.2.1, h.1], rfl⟩
theorem rpone_st : RpOne gg (.st d) := ⟨by show (if d.has = true then [d.g] else []) = _; rw [if_pos h.2.1, h.1], rfl⟩
theorem rpone_ln : RpOne gg (.ln d) := ⟨by show (if d.has = true then [d.g] else []) = _; rw [if_pos h.2.1, h.1], rfl⟩
theorem rpone_gl (k : Nat) : RpOne gg (.gl d k) := ⟨by show (if d.has = true then [d.g] else []) = _; rw [if_pos h.2.1, h.1], rfl⟩
theorem rpone_sh : RpOne gg (.sh d) := ⟨by show (if d.has = true then [d.g] else []) = _; rw [if_pos h.2.1, h.1], rfl⟩
omit h in
end
theorem hand_put {w v1 : World} {x B : Nat} {A : Option Addr} {cap m : Nat} {g : Nat → Int} {r : Rn} {a0 b0 : Value} (hY : Blk v1 B #[a0, b0] 135) (hR : RunOn v1 x A cap m g r) (hB : But [x] w v1) (hx : x ≠ B) (hw : w.heap.size ≤ B) (hf : GotFar A [B]) (a b : Value) :
    Blk ((v1.setCell ⟨B, 0, none⟩ a).setCell ⟨B, 1, none⟩ b) B #[a, b] 135 ∧ RunOn ((v1.setCell ⟨B, 0, none⟩ a).setCell ⟨B, 1, none⟩ b) x A cap m g r ∧ But [x] w ((v1.setCell ⟨B, 0, none⟩ a).setCell ⟨B, 1, none⟩ b) ∧ But [B] v1 ((v1.setCell ⟨B, 0, none⟩ a).setCell ⟨B, 1, none⟩ b) := by
  have hb : But [B] v1 ((v1.setCell ⟨B, 0, none⟩ a).setCell ⟨B, 1, none⟩ b) := ((But.refl [B] v1).set (g := B) (.inl (by simp)) 0 _).set (g := B) (.inl (by simp)) 1 _
  exact ⟨(hY.set 0 a).set 1 b, hR.but hb (by simpa using hx) hf, (hB.set (g := B) (.inr hw) 0 _).set (g := B) (.inr hw) 1 _, hb⟩
def rpGl (d : RpD) (k : Nat) : RpT := if k < 128 then .gl d k else .sh d
theorem one_sees {w : World} {B : Nat} {g : Int} {W : World} (hb : But [B] (w.alloc (.cells #[.int .i64 g] 3)) W) (hB : B < w.heap.size) : SeesL W (.slice (some ⟨w.heap.size, 0, none⟩) 1 1) [g] := by
  have hX := Blk.new w #[.int .i64 g] 3
  have hX2 := hX.but hb (by simp; omega)
  refine ⟨_, 1, rfl, (fun h => by cases h), fun _ => ⟨w.heap.size, 0, rfl, hX2.lt, fun j hj => ?_⟩⟩
  have hj4 : j < 1 := hj
  obtain rfl : j = 0 := by omega
  exact hX2.cell 0 rfl

theorem rpQ_held {d : RpD} {held : List Int} {r : RpT} (h : RpQ (fun _ => False) d held r) (hd : d.has = true) : held = d.all ∨ held = [] := by
  rcases h with ⟨hf, -⟩ | ⟨h1, h2, h3⟩
  · exact hf.elim
  have e := h3 hd
  cases r with
  | acq d' p =>
    obtain rfl : d' = d := h1
    left
    rw [e]
    show (if d'.has = true then _ else _) = _
    rw [if_pos hd]
  | que d' q =>
    obtain rfl : d' = d := h1
    rw [e]
    show (if d'.has = true then (if q.lies = true then [] else d'.all) else []) = _ ∨ (if d'.has = true then (if q.lies = true then [] else d'.all) else []) = []
    rw [if_pos hd]
    split <;> simp
  | rel d' q p =>
    obtain rfl : d' = d := h1
    rw [e]
    show (if d'.has = true then (if q.lies = true then [] else d'.all) else []) = _ ∨ (if d'.has = true then (if q.lies = true then [] else d'.all) else []) = []
    rw [if_pos hd]
    split <;> simp
  | _ => cases h2
def RpHead (nb : Bool) (d : RpD) : RpT := if nb = true then .nx d else .hd d
end Go.Proofs.YtfdpikkinlljlaaGreat
