/- RputSteps: each step of putting a goroutine into a ring, over any memory, whatever others do between: its access, what is in the hand, how many it moved; for every ground, every thread, processor, goroutine, as next or not, and all pokes; no condition. -/
import Derived.Test.YtggbohakpkplkaaGreatRD
import Derived.Test.YtggbohakpkplkaaGreatRE
import Derived.Test.YtggbohakpkplkaaGreatLaw
import Derived.Test.YtggbohakpkplkaaGreatOpen
import Derived.ProofKit
import Derived.Carry
import Derived.WalkKit
import Derived.OpenShut
import Derived.Lib.SmallJoins
namespace Go.Proofs.YtggbohakpkplkaaGreat
open Go Go.RowKit
set_option linter.unusedVariables false
set_option maxRecDepth 100000
set_option linter.unusedSimpArgs false

/-- The answers of swaps. -/
def RpSw {σ : Type} (M : PM σ) (s0 : σ) (g : Nat → Int) (m : Nat) : Prop := ∀ j, j < m → ∀ a, M.ax (M.run s0 g j) = some a → a.k = 3 → g j ≤ 1
theorem RpSw.one {σ : Type} {M : PM σ} {s0 t : σ} {g : Nat → Int} {m j : Nat} {Q : σ → Prop} {v : Int} {a : Ax} (h : RpSw M s0 g m) (hS : Syn M s0 g m j t Q) (ha : M.ax t = some a) (hk : a.k = 3) (hv : j < m → v = g j) (hz : m ≤ j → v = 0) (hb : 0 ≤ v) : v = 0 ∨ v = 1 := by
  by_cases hj : j < m
  · have := h j hj a (by rw [hS.at' (by omega)]; exact ha) hk
    rw [hv hj] at hb ⊢
    omega
  · exact .inl (hz (by omega))

theorem Syn.reset {σ : Type} {M : PM σ} {s0 t : σ} {g : Nat → Int} {m j : Nat} {Q : σ → Prop} (h : Syn M s0 g m j t Q) (hj : j ≤ m) (Q' : σ → Prop) : Syn M s0 g m j t Q' := ⟨h.at', fun hm => absurd hj (by omega)⟩
theorem rp_fin_stop {M : PM RpT} {s0 t tt : RpT} {g : Nat → Int} {m j : Nat} {Q : RpT → Prop} (hS : Syn M s0 g m j tt Q) (hh : Hist M s0 g m t) (h : m < j) : M.rj s0 g m j = M.rn t m ∧ Q t := ⟨rj_end hS hh (fun hj => absurd hj (by omega)), by have := (hS.past h).1; rwa [hh.at'] at this⟩
theorem rp_fin_over {M : PM RpT} {s0 t tt : RpT} {g : Nat → Int} {m j : Nat} {Q : RpT → Prop} (hS : Syn M s0 g m j tt Q) (hh : Hist M s0 g m t) (hj : j ≤ m) (ha : M.ax tt = none) : M.rj s0 g m j = M.rn t m ∧ t = tt := ⟨rj_end hS hh (fun _ => ha), by
  rcases hS.fin hh (fun _ => ha) with ⟨e, -⟩ | ⟨h, -⟩
  · exact e
  · omega⟩
structure RpEq (M : PM RpT) (P p : Int) : Prop where
  a1 : ∀ d, M.ax (.nx d) = some (axLd (wd 20 P 264 p 3))
  a2 : ∀ d, M.ax (.sn d) = some (axSw (wd 20 P 264 p 3) d.nt (rpw d.g))
  a3 : ∀ d, M.ax (.hd d) = some (axLd (wd 20 P 264 p 1))
  a4 : ∀ d, M.ax (.tl d) = some (axLd (wd 20 P 264 p 2))
  a5 : ∀ d, M.ax (.st d) = some (axSt (wd 20 P 264 p (8 + d.tl % 256)) (rpw d.g))
  a6 : ∀ d, M.ax (.ln d) = some (axSt (wd 20 P 264 p 2) ((d.tl + 1) % 4294967296))
  a7 : ∀ d k, M.ax (.gl d k) = some (axLd (wd 20 P 264 p (8 + IntKind.u64.wrap (d.hd + k) % 256)))
  a8 : ∀ d, M.ax (.sh d) = some (axSw (wd 20 P 264 p 1) d.hd ((d.hd + 128) % 4294967296))
  a9 : ∀ d, M.ax (.over d) = none
  n1 : ∀ d v, M.nx (.nx d) v = .sn { d with nt := v }
  n2 : ∀ d v, M.nx (.sn d) v = if v = 0 then .nx d else if d.nt = 0 then .over { d with has := false } else .hd { d with g := gw d.nt }
  n3 : ∀ d v, M.nx (.hd d) v = .tl { d with hd := v }
  n4 : ∀ d v, M.nx (.tl d) v = if (v - d.hd) % 4294967296 < 256 then .st { d with tl := v } else .gl { d with tl := v, ld := 0 } 0
  n5 : ∀ d v, M.nx (.st d) v = .ln d
  n6 : ∀ d v, M.nx (.ln d) v = .over { d with has := false }
  n7 : ∀ d k v, M.nx (.gl d k) v = if k + 1 < 128 then .gl (d.take1 k v) (k + 1) else .sh (d.take1 k v)
  n8 : ∀ d v, M.nx (.sh d) v = if v = 0 then .hd d else .acq d .fresh
  rl : ∀ d q, M.ax (.rel d q .over) = none
theorem rp_eq (who P p : Int) (gl : Int → Int) : RpEq (rpPM who P p gl) P p := ⟨fun _ => rfl, fun _ => rfl, fun _ => rfl, fun _ => rfl, fun _ => rfl, fun _ => rfl, fun _ _ => rfl, fun _ => rfl, fun _ => rfl, fun _ _ => rfl, fun _ _ => rfl, fun _ _ => rfl, fun _ _ => rfl, fun _ _ => rfl, fun _ _ => rfl, fun _ _ _ => rfl, fun _ _ => rfl, fun _ _ => rfl⟩
/-- One in the hand, none moved. -/
def RpOne (gg : Int) (r : RpT) : Prop := r.holds = [gg] ∧ r.moved = 0
/-- What it has: one in the hand. -/
def RpHas (d : RpD) (gg : Int) : Prop := d.g = gg ∧ d.has = true ∧ d.gv.length = 128
section
variable {d : RpD} {gg : Int} (h : RpHas d gg)
include h
theorem rpone_nx : RpOne gg (.nx d) := ⟨by show (if d.has = true then [d.g] else []) = _; rw [if_pos h.2.1, h.1], rfl⟩
theorem rpone_sn : RpOne gg (.sn d) := ⟨by show (if d.has = true then [d.g] else []) = _; rw [if_pos h.2.1, h.1], rfl⟩
theorem rpone_hd : RpOne gg (.hd d) := ⟨by show (if d.has = true then [d.g] else []) = _; rw [if_pos h.2.1, h.1], rfl⟩
theorem rpone_tl : RpOne gg (.tl d) := ⟨by show (if d.has = true then [d.g] else []) = _; rw [if_pos h.2.1, h.1], rfl⟩
theorem rpone_st : RpOne gg (.st d) := ⟨by show (if d.has = true then [d.g] else []) = _; rw [if_pos h.2.1, h.1], rfl⟩
theorem rpone_ln : RpOne gg (.ln d) := ⟨by show (if d.has = true then [d.g] else []) = _; rw [if_pos h.2.1, h.1], rfl⟩
theorem rpone_gl (k : Nat) : RpOne gg (.gl d k) := ⟨by show (if d.has = true then [d.g] else []) = _; rw [if_pos h.2.1, h.1], rfl⟩
theorem rpone_sh : RpOne gg (.sh d) := ⟨by show (if d.has = true then [d.g] else []) = _; rw [if_pos h.2.1, h.1], rfl⟩
omit h in
theorem rp_over_holds : (RpT.over { d with has := false }).holds = [] ∧ (RpT.over { d with has := false }).moved = 0 := ⟨rfl, rfl⟩
end
theorem hand_put {w v1 : World} {x B : Nat} {A : Option Addr} {cap m : Nat} {g : Nat → Int} {r : Rn} {a0 b0 : Value} (hY : Blk v1 B #[a0, b0] 51) (hR : RunOn v1 x A cap m g r) (hB : But [x] w v1) (hx : x ≠ B) (hw : w.heap.size ≤ B) (hf : GotFar A [B]) (a b : Value) :
    Blk ((v1.setCell ⟨B, 0, none⟩ a).setCell ⟨B, 1, none⟩ b) B #[a, b] 51 ∧ RunOn ((v1.setCell ⟨B, 0, none⟩ a).setCell ⟨B, 1, none⟩ b) x A cap m g r ∧ But [x] w ((v1.setCell ⟨B, 0, none⟩ a).setCell ⟨B, 1, none⟩ b) ∧ But [B] v1 ((v1.setCell ⟨B, 0, none⟩ a).setCell ⟨B, 1, none⟩ b) := by
  have hb : But [B] v1 ((v1.setCell ⟨B, 0, none⟩ a).setCell ⟨B, 1, none⟩ b) := ((But.refl [B] v1).set (g := B) (.inl (by simp)) 0 _).set (g := B) (.inl (by simp)) 1 _
  exact ⟨(hY.set 0 a).set 1 b, hR.but hb (by simpa using hx) hf, (hB.set (g := B) (.inr hw) 0 _).set (g := B) (.inr hw) 1 _, hb⟩
def rpGl (d : RpD) (k : Nat) : RpT := if k < 128 then .gl d k else .sh d
theorem rp_fin_slow {M : PM RpT} {s0 t : RpT} {g : Nat → Int} {m j : Nat} {d : RpD} {q : QpT} {held : List Int} (hS : Syn M s0 g m j (.rel d q .over) (RpQ (fun _ => False) d held)) (hh : Hist M s0 g m t) (hq : j ≤ m → held = if q.lies = true then [] else d.all) (hd : d.has = true) (ha : M.ax (.rel d q .over) = none) : M.rj s0 g m j = M.rn t m ∧ t.holds = held ∧ t.moved = 129 := by
  by_cases hj : j ≤ m
  · obtain ⟨h1, h2⟩ := rp_fin_over hS hh hj ha
    refine ⟨h1, ?_, ?_⟩
    · rw [h2, hq hj]
      show (if d.has = true then _ else _) = _
      rw [if_pos hd]
    · rw [h2]; rfl
  · obtain ⟨h1, h2⟩ := rp_fin_stop hS hh (by omega)
    refine ⟨h1, ?_, ?_⟩
    · rcases h2 with ⟨hf, -⟩ | ⟨-, -, h3⟩
      · exact hf.elim
      · exact (h3 hd).symm
    · rcases h2 with ⟨hf, -⟩ | ⟨-, h3, -⟩
      · exact hf.elim
      · unfold RpT.moved; rw [if_pos h3]
/-- What the routine leaves. -/
def RpDid (M : PM RpT) (t : RpT) (w : World) (x : Nat) (A : Option Addr) (cap m : Nat) (gf : Nat → Int) (e : Ending) (w' : World) : Prop := ∃ v, e = .returned (.agg #[v, .int .i64 t.moved]) ∧ SeesL w' v t.holds ∧ RunOn w' x A cap m gf (M.rn t m) ∧ But [x] w w'
theorem one_sees {w : World} {B : Nat} {g : Int} {W : World} (hb : But [B] (w.alloc (.cells #[.int .i64 g] 3)) W) (hB : B < w.heap.size) : SeesL W (.slice (some ⟨w.heap.size, 0, none⟩) 1 1) [g] := by
  have hX := Blk.new w #[.int .i64 g] 3
  have hX2 := hX.but hb (by simp; omega)
  refine ⟨_, 1, rfl, (fun h => by cases h), fun _ => ⟨w.heap.size, 0, rfl, hX2.lt, fun j hj => ?_⟩⟩
  have hj4 : j < 1 := hj
  obtain rfl : j = 0 := by omega
  exact hX2.cell 0 rfl

theorem rpQ_held {d : RpD} {held : List Int} {r : RpT} (h : RpQ (fun _ => False) d held r) (hd : d.has = true) : held = d.all ∨ held = [] := by
  rcases h with ⟨hf, -⟩ | ⟨h1, h2, h3⟩
  · exact hf.elim
  have e := h3 hd
  cases r with
  | acq d' p =>
    obtain rfl : d' = d := h1
    left
    rw [e]
    show (if d'.has = true then _ else _) = _
    rw [if_pos hd]
  | que d' q =>
    obtain rfl : d' = d := h1
    rw [e]
    show (if d'.has = true then (if q.lies = true then [] else d'.all) else []) = _ ∨ (if d'.has = true then (if q.lies = true then [] else d'.all) else []) = []
    rw [if_pos hd]
    split <;> simp
  | rel d' q p =>
    obtain rfl : d' = d := h1
    rw [e]
    show (if d'.has = true then (if q.lies = true then [] else d'.all) else []) = _ ∨ (if d'.has = true then (if q.lies = true then [] else d'.all) else []) = []
    rw [if_pos hd]
    split <;> simp
  | _ => cases h2
def RpHead (nb : Bool) (d : RpD) : RpT := if nb = true then .nx d else .hd d
set_option maxHeartbeats 16000000 in
theorem rrput_on (w : World) (x : Nat) (A : Option Addr) (cap m : Nat) (gf : Nat → Int) (who P T G p g : Int) (nxt : Bool) (t : RpT) (h : RunOn w x A cap m gf rn0) (hh : Hist (rpPM who P p (fun y => wd (20 + P * 264 + T * 3) G 2 y 1)) (rpStart g nxt) gf m t) (hp : 0 ≤ p ∧ p < P) (hP : P ≤ 64) (hT : 0 ≤ T ∧ T ≤ 65536) (hG : 0 ≤ G ∧ G ≤ 65536) (hw : 0 ≤ who ∧ who ≤ 300) (hg : 0 ≤ g ∧ g ≤ 65536) :
    Calls Tryz.prog 12 #[.pointer (some ⟨x, 0, none⟩), .agg #[.int .i64 P, .int .i64 T, .int .i64 G], .int .i64 who, .int .i64 p, .int .i64 g, .bool nxt] w fun e w' => RpDid (rpPM who P p (fun y => wd (20 + P * 264 + T * 3) G 2 y 1)) t w x A cap m gf e w' := by
  obtain ⟨i3, hi3, hz03, hz13, hz23⟩ := info_parts lists_info3
  rw [← rj_start (M := rpPM who P p (fun y => wd (20 + P * 264 + T * 3) G 2 y 1)) (s0 := rpStart g nxt) (g := gf) (m := m)] at h
  have hb0 : Below w.heap.size w ((w.alloc (.cells #[.int .i64 P, .int .i64 T, .int .i64 G] 23)).alloc (.cells #[.slice none 0 0, .int .i64 0] 51)) := ((Below.refl _ _).alloc (Nat.le_refl _) _).alloc (by simp) _
  have HX0 : Hid (Blk ((w.alloc (.cells #[.int .i64 P, .int .i64 T, .int .i64 G] 23)).alloc (.cells #[.slice none 0 0, .int .i64 0] 51)) w.heap.size #[.int .i64 P, .int .i64 T, .int .i64 G] 23) := (Blk.new _ _ _).al _
  have HY0 : Hid (Blk ((w.alloc (.cells #[.int .i64 P, .int .i64 T, .int .i64 G] 23)).alloc (.cells #[.slice none 0 0, .int .i64 0] 51)) (w.heap.size + 1) #[.slice none 0 0, .int .i64 0] 51) := by
    have := Blk.new (w.alloc (.cells #[.int .i64 P, .int .i64 T, .int .i64 G] 23)) #[.slice none 0 0, .int .i64 0] 51
    rw [World.size_alloc] at this
    exact this
  have HXW : Hid (x < w.heap.size) := h.blk.lt
  have HB0 : Hid (But [x] w ((w.alloc (.cells #[.int .i64 P, .int .i64 T, .int .i64 G] 23)).alloc (.cells #[.slice none 0 0, .int .i64 0] 51))) := But.of_below hb0
  have HGA : Hid (A = none ∨ ∃ gb, A = some ⟨gb, 0, none⟩ ∧ gb < w.heap.size) := (by
    rcases h.got.form with ⟨e0, _⟩ | ⟨gb, e0, hl⟩
    · exact .inl e0
    · exact .inr ⟨gb, e0, hl⟩ : A = none ∨ ∃ gb, A = some ⟨gb, 0, none⟩ ∧ gb < w.heap.size)
  have HGF : Hid (GotFar A [w.heap.size + 1]) := (fun b e hm => by
    simp at hm
    rcases HGA.out with e0 | ⟨gb, e0, hl⟩
    · rw [e0] at e; cases e
    · rw [e0] at e; cases e; omega)
  have HR0 : Hid (RunOn ((w.alloc (.cells #[.int .i64 P, .int .i64 T, .int .i64 G] 23)).alloc (.cells #[.slice none 0 0, .int .i64 0] 51)) x A cap m gf ((rpPM who P p (fun y => wd (20 + P * 264 + T * 3) G 2 y 1)).rj (rpStart g nxt) gf m 0)) := h.below hb0
  have HE : Hid (RpEq (rpPM who P p (fun y => wd (20 + P * 264 + T * 3) G 2 y 1)) P p) := rp_eq _ _ _ _
  have HH : Hid (Hist (rpPM who P p (fun y => wd (20 + P * 264 + T * 3) G 2 y 1)) (rpStart g nxt) gf m t) := hh
  have HBD : Hid (∀ j, j < m → 0 ≤ gf j ∧ gf j ≤ 18446744073709551615) := hh.bd
  have HSW : Hid (RpSw (rpPM who P p (fun y => wd (20 + P * 264 + T * 3) G 2 y 1)) (rpStart g nxt) gf m) := hh.sw
  have HSL : Hid (∀ (d : RpD) (Y : World) (B : Option Addr) (cp j : Nat), d.gv.length = 128 → SeesL Y (.slice B d.all.length cp) d.all → (∀ b off : Nat, B = some ⟨b, off, none⟩ → b ≠ x) → RunOn Y x A cap m gf ((rpPM who P p (fun y => wd (20 + P * 264 + T * 3) G 2 y 1)).rj (rpStart g nxt) gf m j) → Syn (rpPM who P p (fun y => wd (20 + P * 264 + T * 3) G 2 y 1)) (rpStart g nxt) gf m j (.acq d .fresh) (fun _ => False) → Calls Tryz.prog 64 #[.pointer (some ⟨x, 0, none⟩), .agg #[.int .i64 P, .int .i64 T, .int .i64 G], .int .i64 who, .slice B d.all.length cp] Y fun e w' => RpGot (rpPM who P p (fun y => wd (20 + P * 264 + T * 3) G 2 y 1)) d Y x A cap m gf (rpStart g nxt) (fun _ => False) j e w') := fun d Y B cp j h1 h2 h3 h4 h5 => rpslow_on h1 (by omega) hT hG hw h2 h3 h4 h5 hh.bd
  have HPA : Hid (∀ (f : Int) W, 0 ≤ f ∧ f < 8 → Calls Tryz.prog 58 #[.agg #[.int .i64 P, .int .i64 T, .int .i64 G], .int .i64 p, .int .i64 f] W fun e w' => e = .returned (.int .i64 (wd 20 P 264 p f)) ∧ Below W.heap.size W w') := fun f W hf => rprcAt_any P T G p f W hp hP hf
  have HRA : Hid (∀ (i : Int) W, 0 ≤ i ∧ i ≤ 18446744073709551615 → Calls Tryz.prog 63 #[.agg #[.int .i64 P, .int .i64 T, .int .i64 G], .int .i64 p, .int .u64 i] W fun e w' => e = .returned (.int .i64 (wd 20 P 264 p (8 + i % 256))) ∧ Below W.heap.size W w') := fun i W hi => rrngAt_any P T G p i W hp hP hi
  have HS0 : Hid (Syn (rpPM who P p (fun y => wd (20 + P * 264 + T * 3) G 2 y 1)) (rpStart g nxt) gf m 0 (RpHead nxt (rpD0 g)) (fun _ => False)) := by
    have h0 : rpStart g nxt = RpHead nxt (rpD0 g) := rfl
    rw [← h0]
    exact Syn.start _ _ _ _
  have HD0 : Hid (RpHas (rpD0 g) g) := ⟨rfl, rfl, (rpD0_ok g).len⟩
  have HWV0 : Hid (rpw g = rpw g ∧ gw (rpw g) = g ∧ 0 ≤ rpw g ∧ rpw g ≤ 18446744073709551615) := ⟨rfl, by
    have e : rpw g = g + 1 := by
      unfold rpw
      simp [IntKind.wrap, IntKind.bits, IntKind.signed]
      omega
    rw [e]
    exact gw_one g (by omega), rpw_bd g⟩
  have ewg : IntKind.u64.wrap (IntKind.u64.wrap g + 1) = rpw g := rfl
  generalize hw0 : rpw g = wg at *
  have HWG : Hid (rpw g = wg) := hw0
  generalize rpStart g nxt = s0 at *
  generalize rpD0 g = dz at *
  generalize rpPM who P p (fun y => wd (20 + P * 264 + T * 3) G 2 y 1) = M at *
  have HP3 := HPA.out 3
  clear h hh hp hP hT hG hw hg hb0 hw0
  go_enter Tryz.func12, Tryz.ntmps12
  go_wp2_with fail
  generalize (w.alloc (.cells #[.int .i64 P, .int .i64 T, .int .i64 G] 23)).alloc (.cells #[.slice none 0 0, .int .i64 0] 51) = z0 at *
  have k0 := HX0.out.cell 0 (v := .int .i64 P) rfl
  have k1 := HX0.out.cell 1 (v := .int .i64 T) rfl
  have k2 := HX0.out.cell 2 (v := .int .i64 G) rfl
  have hPl := HP3 z0 (by omega)
  go_wp2_with fail
  go_at_call 58; refine hPl.mono ?_; rintro e z1 ⟨rfl, h5⟩
  have HRz1 : Hid (RunOn z1 x A cap m gf _) := HR0.out.below h5
  have HBz1 : Hid (But [x] w z1) := HB0.out.trans (But.of_below h5)
  have HXz1 : Hid (Blk z1 w.heap.size #[.int .i64 P, .int .i64 T, .int .i64 G] 23) := HX0.out.but (But.of_below (l := []) h5) (by simp)
  have HYz1 : Hid (Blk z1 (w.heap.size + 1) #[.slice none 0 0, .int .i64 0] 51) := HY0.out.but (But.of_below (l := []) h5) (by simp)
  clear HB0 HX0 HY0
  clear hPl h5 k0 k1 k2 HR0
  clear HP3
  go_wp2_with fail
  go_loopw [5, 13] (fun nbv wvv wr => ∃ (nb : Bool) (wv gg : Int) (j : Nat) (d : RpD), nbv = .bool nb ∧ wvv = .int .u64 wv ∧ Hid (j ≤ m) ∧ Hid (RpHas d gg) ∧ Hid (rpw gg = wv ∧ gw wv = gg ∧ 0 ≤ wv ∧ wv ≤ 18446744073709551615) ∧ Hid (Syn M s0 gf m j (RpHead nb d) (fun _ => False)) ∧ Hid (RunOn wr x A cap m gf (M.rj s0 gf m j)) ∧ Hid (But [x] w wr) ∧ Hid (Blk wr w.heap.size #[.int .i64 P, .int .i64 T, .int .i64 G] 23) ∧ Hid (Blk wr (w.heap.size + 1) #[.slice none 0 0, .int .i64 0] 51)) (fun _ _ wr => left' m x wr)
  case atStart => exact ⟨nxt, wg, g, 0, dz, rfl, rfl, Nat.zero_le _, HD0, ⟨HWG.out, HWV0.out.2⟩, HS0, HRz1, HBz1, HXz1, HYz1⟩
  case round =>
    clear HRz1 HBz1 HXz1 HYz1 HS0 HD0 HWV0 HWG ewg
    obtain ⟨nb, wv, gg, j, d, rfl, rfl, HJ, HD, HWV, HS, HRa, HBa, HXa, HYa⟩ := hrel
    have sc := HRa.out.blk.cell 2 (v := .bool (M.rj s0 gf m j).stop) rfl
    rw [rj_stop HS.out, decide_eq_false (by have := HJ.out; omega)] at sc
    cases nb with
    | true =>
      have HSa : Hid (Syn M s0 gf m j (.nx d) (RpOne gg)) := HS.out.reset HJ.out _
      have HLF : Hid (left' m x wr = m + 1 - j) := rj_left HRa.out HSa.out
      clear HS
      obtain ⟨at3, hat3⟩ : ∃ at3, wd 20 P 264 p 3 = at3 := ⟨_, rfl⟩
      have HA1 : Hid (M.ax (.nx d) = some (axLd at3)) := by rw [← hat3]; exact HE.out.a1 d
      have HA2 : Hid (∀ d', M.ax (.sn d') = some (axSw at3 d'.nt (rpw d'.g))) := fun d' => by rw [← hat3]; exact HE.out.a2 d'
      generalize wd 20 P 264 p 3 = atx at *
      subst hat3
      have hA := syn_load HRa.out HSa.out HBD.out atx (fun _ => HA1.out)
      go_wp2_with fail
      go_at_call 59; refine hA.mono ?_; rintro e b1 ⟨was, rfl, hK⟩
      have HVb1 : Hid (0 ≤ was ∧ was ≤ 18446744073709551615) := hK.bd
      have HRb1 : Hid (RunOn b1 x A cap m gf (M.rj s0 gf m (j + 1))) := hK.run
      have HSb : Hid (Syn M s0 gf m (j + 1) (.sn { d with nt := was }) (RpOne gg)) := by
        have := hK.syn
        rw [HE.out.n1] at this
        exact this.weak (fun r hr => by rcases hr with rfl | hr; exact rpone_nx HD.out; exact hr)
      have HBb1 : Hid (But [x] w b1) := HBa.out.trans hK.but
      have HXb1 : Hid (Blk b1 w.heap.size #[.int .i64 P, .int .i64 T, .int .i64 G] 23) := HXa.out.but hK.but (by have := HXW.out; simp; omega)
      have HYb1 : Hid (Blk b1 (w.heap.size + 1) #[.slice none 0 0, .int .i64 0] 51) := HYa.out.but hK.but (by have := HXW.out; simp; omega)
      clear HBa HXa HYa
      clear hA hK HRa
      have HD1 : Hid (RpHas { d with nt := was } gg) := HD.out
      have hax1 : M.ax (.sn { d with nt := was }) = some (axSw atx was wv) := by
        rw [HA2.out]
        show some (axSw atx was (rpw d.g)) = _
        rw [HD.out.1, HWV.out.1]
      have HAX1 : Hid (M.ax (.sn { d with nt := was }) = some (axSw atx was wv)) := hax1
      clear hax1
      have hA := syn_swap HRb1.out HSb.out HBD.out atx was wv (fun _ => HAX1.out)
      go_wp2_with fail
      go_at_call 60; refine hA.mono ?_; rintro e b2 ⟨sv, rfl, hK⟩
      have hsv := HSW.out.one HSb.out (HAX1.out) rfl hK.val hK.zero hK.bd.1
      have HZ0 : Hid (m ≤ j + 1 → sv = 0) := hK.zero
      have HRb2 : Hid (RunOn b2 x A cap m gf (M.rj s0 gf m (j + 1 + 1))) := hK.run
      have HSw : Hid (Syn M s0 gf m (j + 1 + 1) (M.nx _ sv) (RpOne gg)) := hK.syn.weak (fun r hr => by rcases hr with rfl | hr; exact rpone_sn HD1.out; exact hr)
      have HBb2 : Hid (But [x] w b2) := HBb1.out.trans hK.but
      have HXb2 : Hid (Blk b2 w.heap.size #[.int .i64 P, .int .i64 T, .int .i64 G] 23) := HXb1.out.but hK.but (by have := HXW.out; simp; omega)
      have HYb2 : Hid (Blk b2 (w.heap.size + 1) #[.slice none 0 0, .int .i64 0] 51) := HYb1.out.but hK.but (by have := HXW.out; simp; omega)
      clear HBb1 HXb1 HYb1
      clear hA hK HRb1
      clear HSa
      have sc := HRb2.out.blk.cell 2 (v := .bool (M.rj s0 gf m (j + 1 + 1)).stop) rfl
      rw [rj_stop HSw.out] at sc
      by_cases hst : m < j + 1 + 1
      · rw [decide_eq_true hst] at sc
        have HST : Hid (m < j + 1 + 1) := hst
        clear hst hsv
        have HR := HRb2
        have HB := HBb2
        have HX := HXb2
        have HY := HYb2
        clear HRb2 HBb2 HXb2 HYb2
        have HRN : Hid (_ ∧ RpOne gg t) := rp_fin_stop HSw.out HH.out HST.out
        have hlt1 : Hid (w.heap.size + 1 < b2.heap.size) := HY.out.lt
        have hne1 : w.heap.size + 1 ≠ b2.heap.size := by have := hlt1.out; omega
        have hYal := HY.out.al (.cells #[.int .i64 gg] 3)
        have HP := hand_put (HY.out.al (.cells #[.int .i64 gg] 3)) (HR.out.below ((Below.refl _ _).alloc (Nat.le_refl _) _)) (HB.out.alloc (.cells #[.int .i64 gg] 3)) (by have := HXW.out; omega) (by omega) HGF.out (.slice (some ⟨b2.heap.size, 0, none⟩) 1 1) (.int .i64 0)
        have HRB : Hid (Blk _ _ _ _) := HP.1
        have HF : Hid (RpDid M t w x A cap m gf (.returned (.agg #[.slice (some ⟨b2.heap.size, 0, none⟩) 1 1, .int .i64 0])) _) := ⟨_, by rw [HRN.out.2.2], by rw [HRN.out.2.1]; exact one_sees HP.2.2.2 hlt1.out, by rw [← HRN.out.1]; exact HP.2.1, HP.2.2.1⟩
        have r0 := hYal.cell 0 (v := .slice none 0 0) rfl
        have r1 := hYal.cell 1 (v := .int .i64 0) rfl
        have f0 := hYal.fro 0
        have f1 := hYal.fro 1
        have ew : wrap64 (IntKind.i64.wrap wv - 1) = gg := by rw [gw_eq wv HWV.out.2.2]; exact HWV.out.2.1
        generalize hvv : IntKind.i64.wrap wv = v' at *
        clear HP hYal
        clear HSw HSb
        go_wp2_with fail
        exact bodyPost_ret (v := .agg #[.slice (some ⟨b2.heap.size, 0, none⟩) 1 1, .int .i64 0]) (results_cell_row rfl _ _ (w.heap.size + 1) 51 #[.slice (some ⟨b2.heap.size, 0, none⟩) 1 1, .int .i64 0] (0, 0) _ rfl HRB.out.heap Tryz.underlying51 rfl (by kernel_rfl)) rfl HF.out
      · rw [decide_eq_false hst] at sc
        have HJ2 : Hid (j + 1 + 1 ≤ m) := (by omega : j + 1 + 1 ≤ m)
        clear hst
        rcases hsv with rfl | rfl
        · have hz : decide ((0 : Int) = 1) = false := by decide
          have HS9 : Hid (Syn M s0 gf m (j + 1 + 1) (RpHead true { d with nt := was }) (fun _ => False)) := by
            have := HSw.out
            rw [HE.out.n2, if_pos rfl] at this
            exact this.reset HJ2.out _
          clear HSw HSb HZ0
          go_wp2_with fail
          go_roundw
          case rel => exact ⟨true, wv, gg, j + 1 + 1, { d with nt := was }, rfl, rfl, HJ2, HD1, HWV, HS9, HRb2, HBb2, HXb2, HYb2⟩
          case measure => rw [rj_left HRb2.out HS9.out, HLF.out]; have := HJ2.out; omega
        · have hz : decide ((1 : Int) = 1) = true := by decide
          by_cases hw0 : was = 0
          · subst hw0
            have HS9 : Hid (Syn M s0 gf m (j + 1 + 1) (.over { d with nt := 0, has := false }) (fun _ => False)) := by
              have := HSw.out
              rw [HE.out.n2, if_neg (by decide), if_pos rfl] at this
              exact this.reset HJ2.out _
            obtain ⟨d9, hd9⟩ : ∃ d9 : RpD, d9 = { d with nt := 0 } := ⟨_, rfl⟩
            have HS8 : Hid (Syn M s0 gf m (j + 1 + 1) (.over { d9 with has := false }) (fun _ => False)) := by rw [hd9]; exact HS9.out
            clear HSw HSb HZ0 HS9 hd9
            have HR := HRb2
            have HB := HBb2
            have HX := HXb2
            have HY := HYb2
            clear HRb2 HBb2 HXb2 HYb2
            have HRN : Hid (_ ∧ t = RpT.over { d9 with has := false }) := rp_fin_over HS8.out HH.out HJ2.out (HE.out.a9 _)
            have hlt1 : w.heap.size + 1 < b2.heap.size := HY.out.lt
            have HP := hand_put HY.out HR.out HB.out (by have := HXW.out; omega) (by omega) HGF.out (.slice none 0 0) (.int .i64 0)
            have HRB : Hid (Blk _ _ _ _) := HP.1
            have HF : Hid (RpDid M t w x A cap m gf (.returned (.agg #[.slice none 0 0, .int .i64 0])) _) := ⟨_, by rw [HRN.out.2]; rfl, by rw [HRN.out.2]; exact ⟨none, 0, rfl, fun _ => ⟨rfl, rfl⟩, fun h => absurd h (by show ¬ 0 < 0; omega)⟩, by rw [← HRN.out.1]; exact HP.2.1, HP.2.2.1⟩
            have r0 := HY.out.cell 0 (v := .slice none 0 0) rfl
            have r1 := HY.out.cell 1 (v := .int .i64 0) rfl
            have f0 := HY.out.fro 0
            have f1 := HY.out.fro 1
            clear HP
            clear HS8
            go_wp2_with fail
            exact bodyPost_ret (v := .agg #[.slice none 0 0, .int .i64 0]) (results_cell_row rfl _ _ (w.heap.size + 1) 51 #[.slice none 0 0, .int .i64 0] (0, 0) _ rfl HRB.out.heap Tryz.underlying51 rfl (by kernel_rfl)) rfl HF.out
          · have hwd : (was == 0) = false := by simpa using hw0
            obtain ⟨g9, hg9⟩ : ∃ g9, gw was = g9 := ⟨_, rfl⟩
            have HS9 : Hid (Syn M s0 gf m (j + 1 + 1) (RpHead false { d with nt := was, g := g9 }) (fun _ => False)) := by
              have := HSw.out
              rw [HE.out.n2, if_neg (by decide), if_neg hw0] at this
              rw [← hg9]
              exact this.reset HJ2.out _
            have HD9 : Hid (RpHas { d with nt := was, g := g9 } g9) := ⟨rfl, HD.out.2.1, HD.out.2.2⟩
            have HW9 : Hid (rpw g9 = was ∧ gw was = g9 ∧ 0 ≤ was ∧ was ≤ 18446744073709551615) := ⟨by rw [← hg9]; exact rpw_gw was HVb1.out, hg9, HVb1.out⟩
            clear hg9
            clear HSw HSb HZ0
            go_wp2_with fail
            go_roundw
            case rel => exact ⟨false, was, g9, j + 1 + 1, _, rfl, rfl, HJ2, HD9, HW9, HS9, HRb2, HBb2, HXb2, HYb2⟩
            case measure => rw [rj_left HRb2.out HS9.out, HLF.out]; have := HJ2.out; omega
    | false =>
      have HS2 : Hid (Syn M s0 gf m j (.hd d) (RpOne gg)) := HS.out.reset HJ.out _
      clear HS sc
      go_wp2_with fail
      go_loopw [17] (fun _ wr => ∃ (j : Nat) (d : RpD), Hid (RpHas d gg) ∧ Hid (Syn M s0 gf m j (.hd d) (RpOne gg)) ∧ Hid (RunOn wr x A cap m gf (M.rj s0 gf m j)) ∧ Hid (But [x] w wr) ∧ Hid (Blk wr w.heap.size #[.int .i64 P, .int .i64 T, .int .i64 G] 23) ∧ Hid (Blk wr (w.heap.size + 1) #[.slice none 0 0, .int .i64 0] 51)) (fun _ wr => left' m x wr)
      case atStart => exact ⟨j, d, HD, HS2, HRa, HBa, HXa, HYa⟩
      case round =>
        clear HS2 HRa HBa HXa HYa HD HJ
        obtain ⟨j, d, HD, HSa, HRa, HBa, HXa, HYa⟩ := hrel
        have sc := HRa.out.blk.cell 2 (v := .bool (M.rj s0 gf m (j)).stop) rfl
        rw [rj_stop HSa.out] at sc
        by_cases hst : m < j
        · rw [decide_eq_true hst] at sc
          have HST : Hid (m < j) := hst
          clear hst
          have HR := HRa
          have HB := HBa
          have HX := HXa
          have HY := HYa
          clear HRa HBa HXa HYa
          have HRN : Hid (_ ∧ RpOne gg t) := rp_fin_stop HSa.out HH.out HST.out
          have hlt1 : Hid (w.heap.size + 1 < wr.heap.size) := HY.out.lt
          have hne1 : w.heap.size + 1 ≠ wr.heap.size := by have := hlt1.out; omega
          have hYal := HY.out.al (.cells #[.int .i64 gg] 3)
          have HP := hand_put (HY.out.al (.cells #[.int .i64 gg] 3)) (HR.out.below ((Below.refl _ _).alloc (Nat.le_refl _) _)) (HB.out.alloc (.cells #[.int .i64 gg] 3)) (by have := HXW.out; omega) (by omega) HGF.out (.slice (some ⟨wr.heap.size, 0, none⟩) 1 1) (.int .i64 0)
          have HRB : Hid (Blk _ _ _ _) := HP.1
          have HF : Hid (RpDid M t w x A cap m gf (.returned (.agg #[.slice (some ⟨wr.heap.size, 0, none⟩) 1 1, .int .i64 0])) _) := ⟨_, by rw [HRN.out.2.2], by rw [HRN.out.2.1]; exact one_sees HP.2.2.2 hlt1.out, by rw [← HRN.out.1]; exact HP.2.1, HP.2.2.1⟩
          have r0 := hYal.cell 0 (v := .slice none 0 0) rfl
          have r1 := hYal.cell 1 (v := .int .i64 0) rfl
          have f0 := hYal.fro 0
          have f1 := hYal.fro 1
          have ew : wrap64 (IntKind.i64.wrap wv - 1) = gg := by rw [gw_eq wv HWV.out.2.2]; exact HWV.out.2.1
          generalize hvv : IntKind.i64.wrap wv = v' at *
          clear HP hYal
          clear HSa
          go_wp2_with fail
          exact bodyPost_ret (v := .agg #[.slice (some ⟨wr.heap.size, 0, none⟩) 1 1, .int .i64 0]) (results_cell_row rfl _ _ (w.heap.size + 1) 51 #[.slice (some ⟨wr.heap.size, 0, none⟩) 1 1, .int .i64 0] (0, 0) _ rfl HRB.out.heap Tryz.underlying51 rfl (by kernel_rfl)) rfl HF.out
        · rw [decide_eq_false hst] at sc
          have HJ : Hid (j ≤ m) := (by omega : j ≤ m)
          clear hst
          have HLF : Hid (left' m x wr = m + 1 - j) := rj_left HRa.out HSa.out
          obtain ⟨at1, hat1⟩ : ∃ at1, wd 20 P 264 p 1 = at1 := ⟨_, rfl⟩
          obtain ⟨at2, hat2⟩ : ∃ at2, wd 20 P 264 p 2 = at2 := ⟨_, rfl⟩
          have HPX : Hid (∀ W, Calls Tryz.prog 58 #[.agg #[.int .i64 P, .int .i64 T, .int .i64 G], .int .i64 p, .int .i64 1] W fun e w' => e = .returned (.int .i64 at1) ∧ Below W.heap.size W w') := fun W => by rw [← hat1]; exact HPA.out 1 W (by omega)
          have HPY : Hid (∀ W, Calls Tryz.prog 58 #[.agg #[.int .i64 P, .int .i64 T, .int .i64 G], .int .i64 p, .int .i64 2] W fun e w' => e = .returned (.int .i64 at2) ∧ Below W.heap.size W w') := fun W => by rw [← hat2]; exact HPA.out 2 W (by omega)
          have HA3 : Hid (∀ d, M.ax (.hd d) = some (axLd at1)) := fun d => by rw [← hat1]; exact HE.out.a3 d
          have HA4 : Hid (∀ d, M.ax (.tl d) = some (axLd at2)) := fun d => by rw [← hat2]; exact HE.out.a4 d
          have HA6 : Hid (∀ d, M.ax (.ln d) = some (axSt at2 ((d.tl + 1) % 4294967296))) := fun d => by rw [← hat2]; exact HE.out.a6 d
          have HA8 : Hid (∀ d, M.ax (.sh d) = some (axSw at1 d.hd ((d.hd + 128) % 4294967296))) := fun d => by rw [← hat1]; exact HE.out.a8 d
          clear hat1 hat2
          have k0 := HXa.out.cell 0 (v := .int .i64 P) rfl
          have k1 := HXa.out.cell 1 (v := .int .i64 T) rfl
          have k2 := HXa.out.cell 2 (v := .int .i64 G) rfl
          have hPl := HPX.out wr
          go_wp2_with fail
          go_at_call 58; refine hPl.mono ?_; rintro e wr1 ⟨rfl, h5⟩
          have HRwr1 : Hid (RunOn wr1 x A cap m gf _) := HRa.out.below h5
          have HBwr1 : Hid (But [x] w wr1) := HBa.out.trans (But.of_below h5)
          have HXwr1 : Hid (Blk wr1 w.heap.size #[.int .i64 P, .int .i64 T, .int .i64 G] 23) := HXa.out.but (But.of_below (l := []) h5) (by simp)
          have HYwr1 : Hid (Blk wr1 (w.heap.size + 1) #[.slice none 0 0, .int .i64 0] 51) := HYa.out.but (But.of_below (l := []) h5) (by simp)
          clear HBa HXa HYa
          clear hPl h5 k0 k1 k2 HRa
          have hA := syn_load HRwr1.out HSa.out HBD.out at1 (fun _ => HA3.out d)
          go_wp2_with fail
          go_at_call 59; refine hA.mono ?_; rintro e b1 ⟨hv, rfl, hK⟩
          have HVb1 : Hid (0 ≤ hv ∧ hv ≤ 18446744073709551615) := hK.bd
          have HRb1 : Hid (RunOn b1 x A cap m gf (M.rj s0 gf m (j + 1))) := hK.run
          have HSb : Hid (Syn M s0 gf m (j + 1) (.tl { d with hd := hv }) (RpOne gg)) := by
            have := hK.syn
            rw [HE.out.n3] at this
            exact this.weak (fun r hr => by rcases hr with rfl | hr; exact rpone_hd HD.out; exact hr)
          have HBb1 : Hid (But [x] w b1) := HBwr1.out.trans hK.but
          have HXb1 : Hid (Blk b1 w.heap.size #[.int .i64 P, .int .i64 T, .int .i64 G] 23) := HXwr1.out.but hK.but (by have := HXW.out; simp; omega)
          have HYb1 : Hid (Blk b1 (w.heap.size + 1) #[.slice none 0 0, .int .i64 0] 51) := HYwr1.out.but hK.but (by have := HXW.out; simp; omega)
          clear HBwr1 HXwr1 HYwr1
          clear hA hK HRwr1
          have HD1 : Hid (RpHas { d with hd := hv } gg) := HD.out
          clear HSa
          have k0 := HXb1.out.cell 0 (v := .int .i64 P) rfl
          have k1 := HXb1.out.cell 1 (v := .int .i64 T) rfl
          have k2 := HXb1.out.cell 2 (v := .int .i64 G) rfl
          have hPl := HPY.out b1
          go_wp2_with fail
          go_at_call 58; refine hPl.mono ?_; rintro e wr2 ⟨rfl, h5⟩
          have HRwr2 : Hid (RunOn wr2 x A cap m gf _) := HRb1.out.below h5
          have HBwr2 : Hid (But [x] w wr2) := HBb1.out.trans (But.of_below h5)
          have HXwr2 : Hid (Blk wr2 w.heap.size #[.int .i64 P, .int .i64 T, .int .i64 G] 23) := HXb1.out.but (But.of_below (l := []) h5) (by simp)
          have HYwr2 : Hid (Blk wr2 (w.heap.size + 1) #[.slice none 0 0, .int .i64 0] 51) := HYb1.out.but (But.of_below (l := []) h5) (by simp)
          clear HBb1 HXb1 HYb1
          clear hPl h5 k0 k1 k2 HRb1
          have hA := syn_load HRwr2.out HSb.out HBD.out at2 (fun _ => HA4.out _)
          go_wp2_with fail
          go_at_call 59; refine hA.mono ?_; rintro e b2 ⟨tv, rfl, hK⟩
          have HVb2 : Hid (0 ≤ tv ∧ tv ≤ 18446744073709551615) := hK.bd
          have HRb2 : Hid (RunOn b2 x A cap m gf (M.rj s0 gf m (j + 1 + 1))) := hK.run
          have HSc : Hid (Syn M s0 gf m (j + 1 + 1) ((if (tv - hv) % 4294967296 < 256 then .st { d with hd := hv, tl := tv } else .gl { d with hd := hv, tl := tv, ld := 0 } 0)) (RpOne gg)) := by
            have := hK.syn
            rw [HE.out.n4] at this
            exact this.weak (fun r hr => by rcases hr with rfl | hr; exact rpone_tl HD1.out; exact hr)
          have HBb2 : Hid (But [x] w b2) := HBwr2.out.trans hK.but
          have HXb2 : Hid (Blk b2 w.heap.size #[.int .i64 P, .int .i64 T, .int .i64 G] 23) := HXwr2.out.but hK.but (by have := HXW.out; simp; omega)
          have HYb2 : Hid (Blk b2 (w.heap.size + 1) #[.slice none 0 0, .int .i64 0] 51) := HYwr2.out.but hK.but (by have := HXW.out; simp; omega)
          clear HBwr2 HXwr2 HYwr2
          clear hA hK HRwr2
          clear HSb HD1
          have sc := HRb2.out.blk.cell 2 (v := .bool (M.rj s0 gf m (j + 1 + 1)).stop) rfl
          rw [rj_stop HSc.out] at sc
          by_cases hst : m < j + 1 + 1
          · rw [decide_eq_true hst] at sc
            have HST : Hid (m < j + 1 + 1) := hst
            clear hst
            have HR := HRb2
            have HB := HBb2
            have HX := HXb2
            have HY := HYb2
            clear HRb2 HBb2 HXb2 HYb2
            have HRN : Hid (_ ∧ RpOne gg t) := rp_fin_stop HSc.out HH.out HST.out
            have hlt1 : Hid (w.heap.size + 1 < b2.heap.size) := HY.out.lt
            have hne1 : w.heap.size + 1 ≠ b2.heap.size := by have := hlt1.out; omega
            have hYal := HY.out.al (.cells #[.int .i64 gg] 3)
            have HP := hand_put (HY.out.al (.cells #[.int .i64 gg] 3)) (HR.out.below ((Below.refl _ _).alloc (Nat.le_refl _) _)) (HB.out.alloc (.cells #[.int .i64 gg] 3)) (by have := HXW.out; omega) (by omega) HGF.out (.slice (some ⟨b2.heap.size, 0, none⟩) 1 1) (.int .i64 0)
            have HRB : Hid (Blk _ _ _ _) := HP.1
            have HF : Hid (RpDid M t w x A cap m gf (.returned (.agg #[.slice (some ⟨b2.heap.size, 0, none⟩) 1 1, .int .i64 0])) _) := ⟨_, by rw [HRN.out.2.2], by rw [HRN.out.2.1]; exact one_sees HP.2.2.2 hlt1.out, by rw [← HRN.out.1]; exact HP.2.1, HP.2.2.1⟩
            have r0 := hYal.cell 0 (v := .slice none 0 0) rfl
            have r1 := hYal.cell 1 (v := .int .i64 0) rfl
            have f0 := hYal.fro 0
            have f1 := hYal.fro 1
            have ew : wrap64 (IntKind.i64.wrap wv - 1) = gg := by rw [gw_eq wv HWV.out.2.2]; exact HWV.out.2.1
            generalize hvv : IntKind.i64.wrap wv = v' at *
            clear HP hYal
            clear HSc
            go_wp2_with fail
            exact bodyPost_ret (v := .agg #[.slice (some ⟨b2.heap.size, 0, none⟩) 1 1, .int .i64 0]) (results_cell_row rfl _ _ (w.heap.size + 1) 51 #[.slice (some ⟨b2.heap.size, 0, none⟩) 1 1, .int .i64 0] (0, 0) _ rfl HRB.out.heap Tryz.underlying51 rfl (by kernel_rfl)) rfl HF.out
          · rw [decide_eq_false hst] at sc
            have HJ2 : Hid (j + 1 + 1 ≤ m) := (by omega : j + 1 + 1 ≤ m)
            have hMn := rmny_any hv tv b2 HVb1.out HVb2.out
            clear hst
            go_wp2_with fail
            go_at_call 61; refine hMn.mono ?_; rintro e b3 ⟨rfl, hb3⟩
            subst hb3
            clear hMn
            by_cases hroom : (tv - hv) % 4294967296 < 256
            · have HS3 : Hid (Syn M s0 gf m (j + 1 + 1) (.st { d with hd := hv, tl := tv }) (RpOne gg)) := HSc.out.as (fun _ => if_pos hroom)
              have HD2 : Hid (RpHas { d with hd := hv, tl := tv } gg) := HD.out
              obtain ⟨atr, hatr⟩ : ∃ atr, wd 20 P 264 p (8 + tv % 256) = atr := ⟨_, rfl⟩
              have HPR : Hid (∀ W, Calls Tryz.prog 63 #[.agg #[.int .i64 P, .int .i64 T, .int .i64 G], .int .i64 p, .int .u64 tv] W fun e w' => e = .returned (.int .i64 atr) ∧ Below W.heap.size W w') := fun W => by rw [← hatr]; exact HRA.out tv W HVb2.out
              have HA5 : Hid (M.ax (.st { d with hd := hv, tl := tv }) = some (axSt atr wv)) := by
                show M.ax _ = _
                rw [HE.out.a5, ← hatr]
                show some (axSt _ (rpw d.g)) = _
                rw [HD.out.1, HWV.out.1]
              obtain ⟨q1, hq1⟩ : ∃ q1, IntKind.u64.wrap (tv + 1) = q1 := ⟨_, rfl⟩
              obtain ⟨q2, hq2⟩ : ∃ q2, (tv + 1) % 4294967296 = q2 := ⟨_, rfl⟩
              have hq0 : 0 ≤ q1 ∧ q1 ≤ 18446744073709551615 ∧ q1 % 4294967296 = q2 := by
                have := HVb2.out
                rw [← hq1, ← hq2]
                simp [IntKind.wrap, IntKind.bits, IntKind.signed]
                omega
              have e1 : q1.tmod 4294967296 = q2 := by rw [Int.tmod_eq_emod_of_nonneg hq0.1]; exact hq0.2.2
              have e2 : IntKind.u64.wrap q2 = q2 := wrap_u64 (by omega)
              have HA6' : Hid (M.ax (.ln { d with hd := hv, tl := tv }) = some (axSt at2 q2)) := by rw [← hq2]; exact HA6.out _
              clear hatr hq2 hq0 HSc
              have hroom' : decide ((tv - hv) % 4294967296 < 256) = true := decide_eq_true hroom
              generalize (tv - hv) % 4294967296 = mn at *
              clear hroom
              have k0 := HXb2.out.cell 0 (v := .int .i64 P) rfl
              have k1 := HXb2.out.cell 1 (v := .int .i64 T) rfl
              have k2 := HXb2.out.cell 2 (v := .int .i64 G) rfl
              have hPl := HPR.out b2
              go_wp2_with fail
              go_at_call 63; refine hPl.mono ?_; rintro e wr3 ⟨rfl, h5⟩
              have HRwr3 : Hid (RunOn wr3 x A cap m gf _) := HRb2.out.below h5
              have HBwr3 : Hid (But [x] w wr3) := HBb2.out.trans (But.of_below h5)
              have HXwr3 : Hid (Blk wr3 w.heap.size #[.int .i64 P, .int .i64 T, .int .i64 G] 23) := HXb2.out.but (But.of_below (l := []) h5) (by simp)
              have HYwr3 : Hid (Blk wr3 (w.heap.size + 1) #[.slice none 0 0, .int .i64 0] 51) := HYb2.out.but (But.of_below (l := []) h5) (by simp)
              clear HBb2 HXb2 HYb2
              clear hPl h5 k0 k1 k2 HRb2
              have hA := syn_store HRwr3.out HS3.out HBD.out atr wv (fun _ => HA5.out)
              go_wp2_with fail
              go_at_call 62; refine hA.mono ?_; rintro e b4 ⟨⟨uu, rfl⟩, vv, hK⟩
              have HRb4 : Hid (RunOn b4 x A cap m gf (M.rj s0 gf m (j + 1 + 1 + 1))) := hK.run
              have HS4 : Hid (Syn M s0 gf m (j + 1 + 1 + 1) (.ln { d with hd := hv, tl := tv }) (RpOne gg)) := by
                have := hK.syn
                rw [HE.out.n5] at this
                exact this.weak (fun r hr => by rcases hr with rfl | hr; exact rpone_st HD2.out; exact hr)
              have HBb4 : Hid (But [x] w b4) := HBwr3.out.trans hK.but
              have HXb4 : Hid (Blk b4 w.heap.size #[.int .i64 P, .int .i64 T, .int .i64 G] 23) := HXwr3.out.but hK.but (by have := HXW.out; simp; omega)
              have HYb4 : Hid (Blk b4 (w.heap.size + 1) #[.slice none 0 0, .int .i64 0] 51) := HYwr3.out.but hK.but (by have := HXW.out; simp; omega)
              clear HBwr3 HXwr3 HYwr3
              clear hA hK HRwr3
              clear HS3
              have k0 := HXb4.out.cell 0 (v := .int .i64 P) rfl
              have k1 := HXb4.out.cell 1 (v := .int .i64 T) rfl
              have k2 := HXb4.out.cell 2 (v := .int .i64 G) rfl
              have hPl := HPY.out b4
              go_wp2_with fail
              go_at_call 58; refine hPl.mono ?_; rintro e wr4 ⟨rfl, h5⟩
              have HRwr4 : Hid (RunOn wr4 x A cap m gf _) := HRb4.out.below h5
              have HBwr4 : Hid (But [x] w wr4) := HBb4.out.trans (But.of_below h5)
              have HXwr4 : Hid (Blk wr4 w.heap.size #[.int .i64 P, .int .i64 T, .int .i64 G] 23) := HXb4.out.but (But.of_below (l := []) h5) (by simp)
              have HYwr4 : Hid (Blk wr4 (w.heap.size + 1) #[.slice none 0 0, .int .i64 0] 51) := HYb4.out.but (But.of_below (l := []) h5) (by simp)
              clear HBb4 HXb4 HYb4
              clear hPl h5 k0 k1 k2 HRb4
              have hA := syn_store HRwr4.out HS4.out HBD.out at2 q2 (fun _ => HA6'.out)
              go_wp2_with fail
              go_at_call 62; refine hA.mono ?_; rintro e b5 ⟨⟨uu, rfl⟩, vv, hK⟩
              have HRb5 : Hid (RunOn b5 x A cap m gf (M.rj s0 gf m (j + 1 + 1 + 1 + 1))) := hK.run
              have HS5 : Hid (Syn M s0 gf m (j + 1 + 1 + 1 + 1) (.over { d with hd := hv, tl := tv, has := false }) (RpOne gg)) := by
                have := hK.syn
                rw [HE.out.n6] at this
                exact this.weak (fun r hr => by rcases hr with rfl | hr; exact rpone_ln HD2.out; exact hr)
              have HBb5 : Hid (But [x] w b5) := HBwr4.out.trans hK.but
              have HXb5 : Hid (Blk b5 w.heap.size #[.int .i64 P, .int .i64 T, .int .i64 G] 23) := HXwr4.out.but hK.but (by have := HXW.out; simp; omega)
              have HYb5 : Hid (Blk b5 (w.heap.size + 1) #[.slice none 0 0, .int .i64 0] 51) := HYwr4.out.but hK.but (by have := HXW.out; simp; omega)
              clear HBwr4 HXwr4 HYwr4
              clear hA hK HRwr4
              clear HS4
              have sc := HRb5.out.blk.cell 2 (v := .bool (M.rj s0 gf m (j + 1 + 1 + 1 + 1)).stop) rfl
              rw [rj_stop HS5.out] at sc
              by_cases hst : m < j + 1 + 1 + 1 + 1
              · rw [decide_eq_true hst] at sc
                have HST : Hid (m < j + 1 + 1 + 1 + 1) := hst
                clear hst
                have HR := HRb5
                have HB := HBb5
                have HX := HXb5
                have HY := HYb5
                clear HRb5 HBb5 HXb5 HYb5
                have HRN : Hid (_ ∧ RpOne gg t) := rp_fin_stop HS5.out HH.out HST.out
                have hlt1 : Hid (w.heap.size + 1 < b5.heap.size) := HY.out.lt
                have hne1 : w.heap.size + 1 ≠ b5.heap.size := by have := hlt1.out; omega
                have hYal := HY.out.al (.cells #[.int .i64 gg] 3)
                have HP := hand_put (HY.out.al (.cells #[.int .i64 gg] 3)) (HR.out.below ((Below.refl _ _).alloc (Nat.le_refl _) _)) (HB.out.alloc (.cells #[.int .i64 gg] 3)) (by have := HXW.out; omega) (by omega) HGF.out (.slice (some ⟨b5.heap.size, 0, none⟩) 1 1) (.int .i64 0)
                have HRB : Hid (Blk _ _ _ _) := HP.1
                have HF : Hid (RpDid M t w x A cap m gf (.returned (.agg #[.slice (some ⟨b5.heap.size, 0, none⟩) 1 1, .int .i64 0])) _) := ⟨_, by rw [HRN.out.2.2], by rw [HRN.out.2.1]; exact one_sees HP.2.2.2 hlt1.out, by rw [← HRN.out.1]; exact HP.2.1, HP.2.2.1⟩
                have r0 := hYal.cell 0 (v := .slice none 0 0) rfl
                have r1 := hYal.cell 1 (v := .int .i64 0) rfl
                have f0 := hYal.fro 0
                have f1 := hYal.fro 1
                have ew : wrap64 (IntKind.i64.wrap wv - 1) = gg := by rw [gw_eq wv HWV.out.2.2]; exact HWV.out.2.1
                generalize hvv : IntKind.i64.wrap wv = v' at *
                clear HP hYal
                clear HS5
                go_wp2_with fail
                exact bodyPost_ret (v := .agg #[.slice (some ⟨b5.heap.size, 0, none⟩) 1 1, .int .i64 0]) (results_cell_row rfl _ _ (w.heap.size + 1) 51 #[.slice (some ⟨b5.heap.size, 0, none⟩) 1 1, .int .i64 0] (0, 0) _ rfl HRB.out.heap Tryz.underlying51 rfl (by kernel_rfl)) rfl HF.out
              · rw [decide_eq_false hst] at sc
                have HJ4 : Hid (j + 1 + 1 + 1 + 1 ≤ m) := (by omega : j + 1 + 1 + 1 + 1 ≤ m)
                clear hst
                obtain ⟨d9, hd9⟩ : ∃ d9 : RpD, d9 = { d with hd := hv, tl := tv } := ⟨_, rfl⟩
                have HS8 : Hid (Syn M s0 gf m (j + 1 + 1 + 1 + 1) (.over { d9 with has := false }) (RpOne gg)) := by rw [hd9]; exact HS5.out
                clear HS5 hd9
                have HR := HRb5
                have HB := HBb5
                have HX := HXb5
                have HY := HYb5
                clear HRb5 HBb5 HXb5 HYb5
                have HRN : Hid (_ ∧ t = RpT.over { d9 with has := false }) := rp_fin_over HS8.out HH.out HJ4.out (HE.out.a9 _)
                have hlt1 : w.heap.size + 1 < b5.heap.size := HY.out.lt
                have HP := hand_put HY.out HR.out HB.out (by have := HXW.out; omega) (by omega) HGF.out (.slice none 0 0) (.int .i64 0)
                have HRB : Hid (Blk _ _ _ _) := HP.1
                have HF : Hid (RpDid M t w x A cap m gf (.returned (.agg #[.slice none 0 0, .int .i64 0])) _) := ⟨_, by rw [HRN.out.2]; rfl, by rw [HRN.out.2]; exact ⟨none, 0, rfl, fun _ => ⟨rfl, rfl⟩, fun h => absurd h (by show ¬ 0 < 0; omega)⟩, by rw [← HRN.out.1]; exact HP.2.1, HP.2.2.1⟩
                have r0 := HY.out.cell 0 (v := .slice none 0 0) rfl
                have r1 := HY.out.cell 1 (v := .int .i64 0) rfl
                have f0 := HY.out.fro 0
                have f1 := HY.out.fro 1
                clear HP
                clear HS8
                go_wp2_with fail
                exact bodyPost_ret (v := .agg #[.slice none 0 0, .int .i64 0]) (results_cell_row rfl _ _ (w.heap.size + 1) 51 #[.slice none 0 0, .int .i64 0] (0, 0) _ rfl HRB.out.heap Tryz.underlying51 rfl (by kernel_rfl)) rfl HF.out
            · have HS3 : Hid (Syn M s0 gf m (j + 1 + 1 + 0) (rpGl { d with hd := hv, tl := tv, ld := 0 } 0) (RpOne gg)) := HSc.out.as (fun _ => if_neg hroom)
              have HD2 : Hid (RpHas { d with hd := hv, tl := tv, ld := 0 } gg ∧ ({ d with hd := hv, tl := tv, ld := 0 } : RpD).hd = hv) := ⟨HD.out, rfl⟩
              have hroom' : decide ((tv - hv) % 4294967296 < 256) = false := decide_eq_false hroom
              have HRW0 : Hid (b2.ownsRow (w.heap.size + 2) 3 1 (.slice none 0 0) 0 ((({ d with hd := hv, tl := tv, ld := 0 } : RpD).gv.take 0).map (Value.int .i64))) := World.ownsRow_nil _ _ _ _
              have HBZ : Hid (w.heap.size + 2 ≤ b2.heap.size) := HYb2.out.lt
              generalize ({ d with hd := hv, tl := tv, ld := 0 } : RpD) = d2 at *
              generalize (tv - hv) % 4294967296 = mn at *
              clear hroom HSc sc
              go_wp2_with fail
              go_loopw [19, 20] (fun gvv iv wr => ∃ (k : Nat) (v : Value) (dk : RpD), v = gvv ∧ iv = .int .u64 (k : Int) ∧ k ≤ 128 ∧ Hid (RpHas dk gg ∧ dk.hd = hv) ∧ Hid (wr.ownsRow (w.heap.size + 2) 3 1 v k ((dk.gv.take k).map (Value.int .i64))) ∧ Hid (w.heap.size + 2 ≤ wr.heap.size) ∧ Hid (Syn M s0 gf m (j + 1 + 1 + k) (rpGl dk k) (RpOne gg)) ∧ Hid (RunOn wr x A cap m gf (M.rj s0 gf m (j + 1 + 1 + k))) ∧ Hid (But [x] w wr) ∧ Hid (Blk wr w.heap.size #[.int .i64 P, .int .i64 T, .int .i64 G] 23) ∧ Hid (Blk wr (w.heap.size + 1) #[.slice none 0 0, .int .i64 0] 51)) (fun _ iv _ => 128 - (intOf iv).toNat)
              case atStart => exact ⟨0, _, d2, rfl, rfl, by omega, HD2, HRW0, HBZ, HS3, HRb2, HBb2, HXb2, HYb2⟩
              case round =>
                clear HS3 HRb2 HBb2 HXb2 HYb2 HRW0 HBZ HD2
                obtain ⟨k, v, dk, rfl, rfl, hk, HDK, HRW, HBZ, HSa, HRa, HBa, HXa, HYa⟩ := hrel
                by_cases hk1 : k < 128
                · have HS3 : Hid (Syn M s0 gf m (j + 1 + 1 + k) (.gl dk k) (RpOne gg)) := HSa.out.as (fun _ => if_pos hk1)
                  obtain ⟨q1, hq1⟩ : ∃ q1, IntKind.u64.wrap (hv + (k : Int)) = q1 := ⟨_, rfl⟩
                  have hq0 : 0 ≤ q1 ∧ q1 ≤ 18446744073709551615 := by
                    rw [← hq1]
                    simp [IntKind.wrap, IntKind.bits, IntKind.signed]
                    omega
                  obtain ⟨atr, hatr⟩ : ∃ atr, wd 20 P 264 p (8 + q1 % 256) = atr := ⟨_, rfl⟩
                  have HPR : Hid (∀ W, Calls Tryz.prog 63 #[.agg #[.int .i64 P, .int .i64 T, .int .i64 G], .int .i64 p, .int .u64 q1] W fun e w' => e = .returned (.int .i64 atr) ∧ Below W.heap.size W w') := fun W => by rw [← hatr]; exact HRA.out q1 W hq0
                  have HA7 : Hid (M.ax (.gl dk k) = some (axLd atr)) := by
                    show M.ax _ = _
                    rw [HE.out.a7, HDK.out.2, hq1, hatr]
                  have hik : (k : Int) < 128 := by omega
                  have hwk : IntKind.u64.wrap ((k : Int) + 1) = ((k + 1 : Nat) : Int) := by rw [wrap_u64 (by omega)]; omega
                  have HRWl := HRW.out.lt
                  clear hq0 hatr HSa
                  have k0 := HXa.out.cell 0 (v := .int .i64 P) rfl
                  have k1 := HXa.out.cell 1 (v := .int .i64 T) rfl
                  have k2 := HXa.out.cell 2 (v := .int .i64 G) rfl
                  have hPl := HPR.out wr
                  go_wp2_with fail
                  go_at_call 63; refine hPl.mono ?_; rintro e wr5 ⟨rfl, h5⟩
                  have HRwr5 : Hid (RunOn wr5 x A cap m gf _) := HRa.out.below h5
                  have HBwr5 : Hid (But [x] w wr5) := HBa.out.trans (But.of_below h5)
                  have HXwr5 : Hid (Blk wr5 w.heap.size #[.int .i64 P, .int .i64 T, .int .i64 G] 23) := HXa.out.but (But.of_below (l := []) h5) (by simp)
                  have HYwr5 : Hid (Blk wr5 (w.heap.size + 1) #[.slice none 0 0, .int .i64 0] 51) := HYa.out.but (But.of_below (l := []) h5) (by simp)
                  clear HBa HXa HYa
                  have HRW5 : Hid (wr5.ownsRow (w.heap.size + 2) 3 1 v k ((dk.gv.take k).map (Value.int .i64))) := row_below HRW.out h5
                  have HBZ5 : Hid (w.heap.size + 2 ≤ wr5.heap.size) := Nat.le_trans HBZ.out h5.size
                  clear HRW HBZ
                  clear hPl h5 k0 k1 k2 HRa
                  have hA := syn_load HRwr5.out HS3.out HBD.out atr (fun _ => HA7.out)
                  go_wp2_with fail
                  go_at_call 59; refine hA.mono ?_; rintro e b6 ⟨lv, rfl, hK⟩
                  have HVl : Hid (0 ≤ lv ∧ lv ≤ 18446744073709551615) := hK.bd
                  have HRb6 : Hid (RunOn b6 x A cap m gf (M.rj s0 gf m (j + 1 + 1 + k + 1))) := hK.run
                  have HS6 : Hid (Syn M s0 gf m (j + 1 + 1 + (k + 1)) (rpGl (dk.take1 k lv) (k + 1)) (RpOne gg)) := by
                    have := hK.syn
                    rw [HE.out.n7] at this
                    exact this.weak (fun r hr => by rcases hr with rfl | hr; exact rpone_gl HDK.out.1 k; exact hr)
                  have HRW6 : Hid (b6.ownsRow (w.heap.size + 2) 3 1 v k ((dk.gv.take k).map (Value.int .i64))) := row_but HRW5.out hK.but (fun b hb => by simp at hb; have := HXW.out; omega)
                  have HBZ6 : Hid (w.heap.size + 2 ≤ b6.heap.size) := Nat.le_trans HBZ5.out hK.but.size
                  have HBb6 : Hid (But [x] w b6) := HBwr5.out.trans hK.but
                  have HXb6 : Hid (Blk b6 w.heap.size #[.int .i64 P, .int .i64 T, .int .i64 G] 23) := HXwr5.out.but hK.but (by have := HXW.out; simp; omega)
                  have HYb6 : Hid (Blk b6 (w.heap.size + 1) #[.slice none 0 0, .int .i64 0] 51) := HYwr5.out.but hK.but (by have := HXW.out; simp; omega)
                  clear HBwr5 HXwr5 HYwr5
                  clear hA hK HRwr5 HRW5 HBZ5 HS3
                  have el : wrap64 (IntKind.i64.wrap lv - 1) = gw lv := gw_eq lv HVl.out
                  obtain ⟨gq, hgq⟩ : ∃ gq, gw lv = gq := ⟨_, rfl⟩
                  have HGQ : Hid (gw lv = gq) := hgq
                  rw [hgq] at el
                  generalize hvl : IntKind.i64.wrap lv = vl' at el
                  have HTK : Hid ((dk.take1 k lv).gv.take (k + 1) = dk.gv.take k ++ [gq] ∧ RpHas (dk.take1 k lv) gg ∧ (dk.take1 k lv).hd = hv) := by
                    have hlen := HDK.out.1.2.2
                    refine ⟨?_, ⟨HDK.out.1.1, HDK.out.1.2.1, by show (dk.gv.set k _).length = 128; rw [List.length_set]; exact hlen⟩, HDK.out.2⟩
                    show (dk.gv.set k (gw lv)).take (k + 1) = _
                    rw [HGQ.out, List.take_add_one, List.take_set_of_le (Nat.le_refl k), List.getElem?_set_self (by omega)]
                    rfl
                  have hOO := HRW6.out
                  have hBZ := HBZ6.out
                  obtain ⟨Ag, cg, hvg⟩ := lists_slice HRW6.out
                  subst hvg
                  clear hgq
                  go_wp2_with (at_builtin; refine wpList_append_own _ rfl _ _ 49 rfl (w.heap.size + 2) 3 i3 (.int .i64 0) 1 8 Tryz.underlying49 hi3 hz03 hz13 hz23 rfl (by decide) _ _ _ rfl (hOO.alloc _) ⟨b6.heap.size, 0, none⟩ 1 1 [.int .i64 gq] rfl rfl (cell_one_new _ _ _) (ints_oneCell .i64 [gq]) (by unfold maxLen; omega) (by omega) (by simp; omega) ?_; intro v' w7 hown' hgrow2 hnil2)
                  have hUP := hOO.lt
                  have hBu : But (rowB (.slice Ag k cg)) b6 w7 := ((But.refl _ _).alloc _).grown hgrow2 (fun kk hk => .inl (rowB_mem hk))
                  have hrb : ∀ kk ∈ rowB (.slice Ag k cg), w.heap.size + 2 ≤ kk := fun kk hk => (hUP kk (mem_rowB hk)).1
                  have HR7 : Hid (RunOn w7 x A cap m gf (M.rj s0 gf m (j + 1 + 1 + (k + 1)))) := HRb6.out.but hBu (fun hm => by have := hrb _ hm; have := HXW.out; omega) (fun b e hm => by
                    have h1 := hrb _ hm
                    rcases HGA.out with e0 | ⟨gb, e0, hl⟩
                    · rw [e0] at e; cases e
                    · rw [e0] at e; cases e; omega)
                  have HB7 : Hid (But [x] w w7) := ⟨hBu.os.trans HBb6.out.os, hBu.tape.trans HBb6.out.tape, hBu.output.trans HBb6.out.output, Nat.le_trans HBb6.out.size hBu.size, fun i hi hc => (hBu.block i (Nat.lt_of_lt_of_le hi HBb6.out.size) (fun hm => by have := hrb _ hm; omega)).trans (HBb6.out.block i hi hc)⟩
                  have HX7 : Hid (Blk w7 w.heap.size #[.int .i64 P, .int .i64 T, .int .i64 G] 23) := HXb6.out.but hBu (fun hm => by have := hrb _ hm; omega)
                  have HY7 : Hid (Blk w7 (w.heap.size + 1) #[.slice none 0 0, .int .i64 0] 51) := HYb6.out.but hBu (fun hm => by have := hrb _ hm; omega)
                  have HBZ7 : Hid (w.heap.size + 2 ≤ w7.heap.size) := Nat.le_trans HBZ6.out hBu.size
                  have HRW7 : Hid (w7.ownsRow (w.heap.size + 2) 3 1 v' (k + 1) (((dk.take1 k lv).gv.take (k + 1)).map (Value.int .i64))) := by
                    rw [HTK.out.1, List.map_append]
                    exact hown'
                  have HDK7 : Hid (RpHas (dk.take1 k lv) gg ∧ (dk.take1 k lv).hd = hv) := HTK.out.2
                  clear hown' hgrow2 hnil2 hBu hrb hUP hOO HRb6 HBb6 HXb6 HYb6 HRW6 HBZ6 HDK HTK hBZ
                  generalize dk.take1 k lv = dk7 at *
                  go_wp2_with fail
                  go_roundw
                  case rel => exact ⟨k + 1, v', dk7, rfl, by first | rfl | (rw [← hwk]; rfl) | simp [hwk], by omega, HDK7, HRW7, HBZ7, HS6, HR7, HB7, HX7, HY7⟩
                  case measure => simp [intOf, hwk]; omega
                · obtain rfl : k = 128 := by omega
                  rw [show ((128 : Nat) : Int) = 128 from rfl]
                  have HS3 : Hid (Syn M s0 gf m (j + 1 + 1 + 128) (.sh dk) (RpOne gg)) := HSa.out.as (fun _ => if_neg hk1)
                  have HAX8 : Hid (M.ax (.sh dk) = some (axSw at1 hv ((hv + 128) % 4294967296))) := by
                    have := HA8.out dk
                    rw [HDK.out.2] at this
                    exact this
                  obtain ⟨q1, hq1⟩ : ∃ q1, IntKind.u64.wrap (hv + 128) = q1 := ⟨_, rfl⟩
                  obtain ⟨q2, hq2⟩ : ∃ q2, (hv + 128) % 4294967296 = q2 := ⟨_, rfl⟩
                  have hq0 : 0 ≤ q1 ∧ q1 ≤ 18446744073709551615 ∧ q1 % 4294967296 = q2 := by
                    have := HVb1.out
                    rw [← hq1, ← hq2]
                    simp [IntKind.wrap, IntKind.bits, IntKind.signed]
                    omega
                  have e1 : q1.tmod 4294967296 = q2 := by rw [Int.tmod_eq_emod_of_nonneg hq0.1]; exact hq0.2.2
                  have e2 : IntKind.u64.wrap q2 = q2 := wrap_u64 (by omega)
                  rw [hq2] at HAX8
                  obtain ⟨jj, hjj⟩ : ∃ jj, j + 1 + 1 + 128 = jj := ⟨_, rfl⟩
                  have HJJ : Hid (j + 1 + 1 + 128 = jj) := hjj
                  rw [hjj] at HS3 HRa
                  clear hq2 hq0 HSa hjj hk hk1
                  have k0 := HXa.out.cell 0 (v := .int .i64 P) rfl
                  have k1 := HXa.out.cell 1 (v := .int .i64 T) rfl
                  have k2 := HXa.out.cell 2 (v := .int .i64 G) rfl
                  have hPl := HPX.out wr
                  go_wp2_with fail
                  go_at_call 58; refine hPl.mono ?_; rintro e wr6 ⟨rfl, h5⟩
                  have HRwr6 : Hid (RunOn wr6 x A cap m gf _) := HRa.out.below h5
                  have HBwr6 : Hid (But [x] w wr6) := HBa.out.trans (But.of_below h5)
                  have HXwr6 : Hid (Blk wr6 w.heap.size #[.int .i64 P, .int .i64 T, .int .i64 G] 23) := HXa.out.but (But.of_below (l := []) h5) (by simp)
                  have HYwr6 : Hid (Blk wr6 (w.heap.size + 1) #[.slice none 0 0, .int .i64 0] 51) := HYa.out.but (But.of_below (l := []) h5) (by simp)
                  clear HBa HXa HYa
                  have HRW6 : Hid (wr6.ownsRow (w.heap.size + 2) 3 1 v 128 ((dk.gv.take 128).map (Value.int .i64))) := row_below HRW.out h5
                  have HBZ6 : Hid (w.heap.size + 2 ≤ wr6.heap.size) := Nat.le_trans HBZ.out h5.size
                  clear HRW HBZ
                  clear hPl h5 k0 k1 k2 HRa
                  have hA := syn_swap HRwr6.out HS3.out HBD.out at1 hv q2 (fun _ => HAX8.out)
                  go_wp2_with fail
                  go_at_call 60; refine hA.mono ?_; rintro e b7 ⟨sv, rfl, hK⟩
                  have hsv := HSW.out.one HS3.out (HAX8.out) rfl hK.val hK.zero hK.bd.1
                  have HZ0 : Hid (m ≤ jj → sv = 0) := hK.zero
                  have HRb7 : Hid (RunOn b7 x A cap m gf (M.rj s0 gf m (jj + 1))) := hK.run
                  have HSw : Hid (Syn M s0 gf m (jj + 1) (M.nx _ sv) (RpOne gg)) := hK.syn.weak (fun r hr => by rcases hr with rfl | hr; exact rpone_sh HDK.out.1; exact hr)
                  have HBb7 : Hid (But [x] w b7) := HBwr6.out.trans hK.but
                  have HXb7 : Hid (Blk b7 w.heap.size #[.int .i64 P, .int .i64 T, .int .i64 G] 23) := HXwr6.out.but hK.but (by have := HXW.out; simp; omega)
                  have HYb7 : Hid (Blk b7 (w.heap.size + 1) #[.slice none 0 0, .int .i64 0] 51) := HYwr6.out.but hK.but (by have := HXW.out; simp; omega)
                  clear HBwr6 HXwr6 HYwr6
                  have HRW7 : Hid (b7.ownsRow (w.heap.size + 2) 3 1 v 128 ((dk.gv.take 128).map (Value.int .i64))) := row_but HRW6.out hK.but (fun b hb => by simp at hb; have := HXW.out; omega)
                  have HBZ7 : Hid (w.heap.size + 2 ≤ b7.heap.size) := Nat.le_trans HBZ6.out hK.but.size
                  clear HRW6 HBZ6
                  clear hA hK HRwr6
                  rcases hsv with rfl | rfl
                  · have hz : decide ((0 : Int) = 1) = false := by decide
                    have HS9 : Hid (Syn M s0 gf m (jj + 1) (.hd dk) (RpOne gg)) := by
                      have := HSw.out
                      rw [HE.out.n8, if_pos rfl] at this
                      exact this
                    have HD9 : Hid (RpHas dk gg) := HDK.out.1
                    clear HSw HZ0 HS3
                    go_wp2_with fail
                    go_roundw
                    case rel => exact ⟨jj + 1, dk, HD9, HS9, HRb7, HBb7, HXb7, HYb7⟩
                    case measure => rw [rj_left HRb7.out HS9.out, HLF.out]; have := HJJ.out; have := HJ.out; omega
                  · have hz : decide ((1 : Int) = 1) = true := by decide
                    have hj9 : jj + 1 ≤ m := by
                      apply Decidable.byContradiction
                      intro hc
                      have := HZ0.out (by omega)
                      cases this
                    have HJ9 : Hid (jj + 1 ≤ m) := hj9
                    clear hj9
                    have HS9 : Hid (Syn M s0 gf m (jj + 1) (.acq dk .fresh) (fun _ => False)) := by
                      have := HSw.out
                      rw [HE.out.n8, if_neg (by decide)] at this
                      exact this.reset HJ9.out _
                    have ew : wrap64 (IntKind.i64.wrap wv - 1) = gg := by rw [gw_eq wv HWV.out.2.2]; exact HWV.out.2.1
                    generalize hvv : IntKind.i64.wrap wv = v9 at *
                    have hOO := HRW7.out
                    have hBZ := HBZ7.out
                    obtain ⟨Ag, cg, hvg⟩ := lists_slice HRW7.out
                    subst hvg
                    have HAP : Hid (∀ (o : Obj) (v' : Value) (w8 : World), w8.ownsRow (w.heap.size + 2) 3 1 v' (128 + 1) ((dk.gv.take 128).map (Value.int .i64) ++ [.int .i64 gg]) → (b7.alloc o).grownBy w8 (Value.slice Ag 128 cg).ownBlock → w8.cell? ⟨w.heap.size, 0, none⟩ = some (.int .i64 P) ∧ w8.cell? ⟨w.heap.size, 1, none⟩ = some (.int .i64 T) ∧ w8.cell? ⟨w.heap.size, 2, none⟩ = some (.int .i64 G) ∧ RunOn w8 x A cap m gf (M.rj s0 gf m (jj + 1)) ∧ But [x] w w8 ∧ Blk w8 (w.heap.size + 1) #[.slice none 0 0, .int .i64 0] 51 ∧ (∃ B cp, v' = .slice B 129 cp ∧ SeesL w8 (.slice B 129 cp) dk.all ∧ ∀ b off : Nat, B = some ⟨b, off, none⟩ → b ≠ x)) := fun o v' w8 hown' hgrow2 => by
                      have hUP := hOO.lt
                      have hBu : But (rowB (.slice Ag 128 cg)) b7 w8 := ((But.refl _ _).alloc _).grown hgrow2 (fun kk hk => .inl (rowB_mem hk))
                      have hrb : ∀ kk ∈ rowB (.slice Ag 128 cg), w.heap.size + 2 ≤ kk := fun kk hk => (hUP kk (mem_rowB hk)).1
                      have hX8 : Blk w8 w.heap.size #[.int .i64 P, .int .i64 T, .int .i64 G] 23 := HXb7.out.but hBu (fun hm => by have := hrb _ hm; omega)
                      refine ⟨hX8.cell 0 rfl, hX8.cell 1 rfl, hX8.cell 2 rfl, HRb7.out.but hBu (fun hm => by have := hrb _ hm; have := HXW.out; omega) (fun b e hm => by
                        have h1 := hrb _ hm
                        rcases HGA.out with e0 | ⟨gb, e0, hl⟩
                        · rw [e0] at e; cases e
                        · rw [e0] at e; cases e; omega), ⟨hBu.os.trans HBb7.out.os, hBu.tape.trans HBb7.out.tape, hBu.output.trans HBb7.out.output, Nat.le_trans HBb7.out.size hBu.size, fun i hi hc => (hBu.block i (Nat.lt_of_lt_of_le hi HBb7.out.size) (fun hm => by have := hrb _ hm; omega)).trans (HBb7.out.block i hi hc)⟩, HYb7.out.but hBu (fun hm => by have := hrb _ hm; omega), ?_⟩
                      obtain ⟨B, cp, hv⟩ := lists_slice hown'
                      subst hv
                      have hall : dk.all = dk.gv.take 128 ++ [gg] := by
                        unfold RpD.all
                        rw [HDK.out.1.1, List.take_of_length_le (by rw [HDK.out.1.2.2]; exact Nat.le_refl _)]
                      refine ⟨B, cp, rfl, ?_, fun b off e => ?_⟩
                      · have hio : IntsOn w8 (w.heap.size + 2) (.slice B (128 + 1) cp) dk.all := ⟨by
                          rw [hall, List.map_append, List.length_append, List.length_take, HDK.out.1.2.2]
                          exact hown'⟩
                        exact hio.sees
                      · subst e
                        rcases hown'.2 with ⟨e0, -⟩ | ⟨gb, cp', cur, e0, hb, -⟩
                        · cases e0
                        · injection e0 with e1
                          injection e1 with e1
                          injection e1 with e1
                          have := HXW.out
                          omega
                    clear HSw HZ0 HS3
                    go_wp2_with (at_builtin; refine wpList_append_own _ rfl _ _ 49 rfl (w.heap.size + 2) 3 i3 (.int .i64 0) 1 8 Tryz.underlying49 hi3 hz03 hz13 hz23 rfl (by decide) _ _ _ rfl (hOO.alloc _) ⟨b7.heap.size, 0, none⟩ 1 1 [.int .i64 gg] rfl rfl (cell_one_new _ _ _) (ints_oneCell .i64 [gg]) (by unfold maxLen; omega) (by omega) (by simp; omega) ?_; intro v' w8 hown' hgrow2 hnil2; obtain ⟨y0, y1, y2, h8⟩ := HAP.out _ v' w8 hown' hgrow2; have H8 : Hid _ := h8; clear h8)
                    obtain ⟨g1, g2, g3, B, cp, hvB, g4, g5⟩ := H8.out
                    subst hvB
                    have hlen : dk.all.length = 129 := RpD.all_len' HDK.out.1.2.2
                    have hSl := HSL.out dk w8 B cp (jj + 1) HDK.out.1.2.2 (by rw [hlen]; exact g4) g5 g1 HS9.out
                    rw [hlen] at hSl
                    have HY8 : Hid (Blk w8 (w.heap.size + 1) #[.slice none 0 0, .int .i64 0] 51) := g3
                    have HB8 : Hid (But [x] w w8) := g2
                    clear H8 g1 g2 g3 g4 g5 hown' hgrow2 hnil2 y0 y1 y2 HAP hOO hBZ hlen HRb7 HBb7 HXb7 HYb7 HRW7 HBZ7 HS9
                    refine hSl.mono ?_
                    rintro e y9 ⟨vv, held, j9, qq, rfl, q1, q2, q3, q4, q5, q6⟩
                    have hY9 := HY8.out.but q5 (by have := HXW.out; simp; omega)
                    have HRN : Hid (_ ∧ t.holds = held ∧ t.moved = 129) := rp_fin_slow q3 HH.out q4 HDK.out.1.2.1 (HE.out.rl _ _)
                    have hheld : held = dk.all ∨ held = [] := by
                      by_cases h5 : m < j9
                      · exact rpQ_held (q3.past h5).1 HDK.out.1.2.1
                      · rw [q4 (by omega)]; split <;> simp
                    obtain ⟨B5, cp5, hv5⟩ : ∃ B5 cp5, vv = .slice B5 held.length cp5 := by obtain ⟨A', c', e', -, -⟩ := q1; exact ⟨A', c', e'⟩
                    subst hv5
                    have hl129 : 0 < held.length → held.length = 129 := fun h0 => by
                      rcases hheld with h | h
                      · rw [h]; exact RpD.all_len' HDK.out.1.2.2
                      · rw [h] at h0; cases h0
                    have HP := hand_put hY9 q2 (HB8.out.trans q5) (by have := HXW.out; omega) (by omega) HGF.out (.slice B5 held.length cp5) (.int .i64 129)
                    have HRB : Hid (Blk _ _ _ _) := HP.1
                    have HF : Hid (RpDid M t w x A cap m gf (.returned (.agg #[.slice B5 held.length cp5, .int .i64 129])) _) := ⟨_, by rw [HRN.out.2.2], by rw [HRN.out.2.1]; exact q1.but2 HP.2.2.2 (sees_far q1 hl129 hY9 (by simp)), by rw [← HRN.out.1]; exact HP.2.1, HP.2.2.1⟩
                    have r0 := hY9.cell 0 (v := .slice none 0 0) rfl
                    have r1 := hY9.cell 1 (v := .int .i64 0) rfl
                    have f0 := hY9.fro 0
                    have f1 := hY9.fro 1
                    generalize held.length = hn at *
                    clear hSl HP hY9 q1 q2 q3 q4 q5 q6 hheld hl129 HY8 HB8
                    go_wp2_with fail
                    exact bodyPost_ret (v := .agg #[.slice B5 hn cp5, .int .i64 129]) (results_cell_row rfl _ _ (w.heap.size + 1) 51 #[.slice B5 hn cp5, .int .i64 129] (0, 0) _ rfl HRB.out.heap Tryz.underlying51 rfl (by kernel_rfl)) rfl HF.out
end Go.Proofs.YtggbohakpkplkaaGreat

namespace Go.Proofs.YtggbohakpkplkaaGreat
open Go Go.RowKit
set_option linter.unusedVariables false
set_option maxRecDepth 100000
set_option linter.unusedSimpArgs false

theorem rp_few {who P T G p : Int} {gl : Int → Int} {cl : Nat} {w : World} {x : Nat} {t : RpT} {L : List Nat} (h : (rpCp who gl P T G p cl).I w x t L) : t.holds.length ≤ 1000000 := by
  have hok := h.1
  obtain ⟨-, es, Le, he, -, -⟩ := h
  have h1 : ∀ d : RpD, (if d.has = true then [d.g] else []).length ≤ 1000000 := fun d => by split <;> simp
  cases t with
  | acq d q =>
    have := RpD.all_len' hok.1.len
    show (if d.has = true then d.all else []).length ≤ 1000000
    split
    all_goals first | omega | exact Nat.zero_le _
  | que d q =>
    have := RpD.all_len' hok.1.len
    show (if d.has = true then (if q.lies = true then [] else d.all) else []).length ≤ 1000000
    repeat' split
    all_goals first | omega | exact Nat.zero_le _
  | rel d q r =>
    have := RpD.all_len' he.1
    show (if d.has = true then (if q.lies = true then [] else d.all) else []).length ≤ 1000000
    repeat' split
    all_goals first | omega | exact Nat.zero_le _
  | nx d => exact h1 d
  | sn d => exact h1 d
  | hd d => exact h1 d
  | tl d => exact h1 d
  | st d => exact h1 d
  | ln d => exact h1 d
  | gl d k => exact h1 d
  | sh d => exact h1 d
  | over d => exact h1 d

theorem rputSteps_bad (P T G : Int) (who p gr : Int) (nb : Bool) (E F : Option Addr) (m cp mp cq : Nat) (a v : Nat → Int) (w : World) (hAw : ∀ w, Calls Tryz.prog 9 #[] w fun e w' => e = .returned (.bool true) ∧ Below w.heap.size w w') (hm : m ≤ 9223372036854775807) (hmp : mp ≤ 9223372036854775807) (hs : SeesP w w.heap.size E m a v) (hv : ∀ i, i < m → 0 ≤ v i ∧ v i ≤ 18446744073709551615) (h : (¬ FewC P T G ∨ 400 < m) ∨ 400 < mp ∨ p < 0 ∨ P ≤ p ∨ gr < 0 ∨ G ≤ gr ∨ who < 0 ∨ 300 < who) :
    Calls Tryz.prog 3 #[.agg #[.int .i64 P, .int .i64 T, .int .i64 G, .slice E m cp], .agg #[.int .i64 who, .int .i64 p, .int .i64 gr, .bool nb], .slice F mp cq] w fun e w' => e = .returned (.bool true) ∧ Below w.heap.size w w' := by
  have hsz : ((w.alloc (.cells #[.int .i64 P, .int .i64 T, .int .i64 G, .slice E m cp] 26)).alloc (.cells #[.int .i64 who, .int .i64 p, .int .i64 gr, .bool nb] 28)).heap.size = w.heap.size + 1 + 1 := by simp
  have HB : Hid (Below w.heap.size w ((w.alloc (.cells #[.int .i64 P, .int .i64 T, .int .i64 G, .slice E m cp] 26)).alloc (.cells #[.int .i64 who, .int .i64 p, .int .i64 gr, .bool nb] 28))) := ((Below.refl _ _).alloc (Nat.le_refl _) _).alloc (by simp) _
  have hX0 : Hid (Blk ((w.alloc (.cells #[.int .i64 P, .int .i64 T, .int .i64 G, .slice E m cp] 26)).alloc (.cells #[.int .i64 who, .int .i64 p, .int .i64 gr, .bool nb] 28)) w.heap.size #[.int .i64 P, .int .i64 T, .int .i64 G, .slice E m cp] 26) := (Blk.new w #[.int .i64 P, .int .i64 T, .int .i64 G, .slice E m cp] 26).al _
  have hX1 : Hid (Blk ((w.alloc (.cells #[.int .i64 P, .int .i64 T, .int .i64 G, .slice E m cp] 26)).alloc (.cells #[.int .i64 who, .int .i64 p, .int .i64 gr, .bool nb] 28)) (w.heap.size + 1) #[.int .i64 who, .int .i64 p, .int .i64 gr, .bool nb] 28) := by
    have := Blk.new (w.alloc (.cells #[.int .i64 P, .int .i64 T, .int .i64 G, .slice E m cp] 26)) #[.int .i64 who, .int .i64 p, .int .i64 gr, .bool nb] 28
    rw [show (w.alloc (.cells #[.int .i64 P, .int .i64 T, .int .i64 G, .slice E m cp] 26)).heap.size = w.heap.size + 1 by simp] at this
    exact this
  have HAW : Hid (∀ w, Calls Tryz.prog 9 #[] w fun e w' => e = .returned (.bool true) ∧ Below w.heap.size w w') := hAw
  clear hAw
  by_cases hf : ¬ FewC P T G ∨ 400 < m
  · have hL := lay_none P T G E m cp ((w.alloc (.cells #[.int .i64 P, .int .i64 T, .int .i64 G, .slice E m cp] 26)).alloc (.cells #[.int .i64 who, .int .i64 p, .int .i64 gr, .bool nb] 28)) hm hf
    clear h hf hs hv
    go_enter Tryz.func3, Tryz.ntmps3
    go_wp2_with fail
    generalize ((w.alloc (.cells #[.int .i64 P, .int .i64 T, .int .i64 G, .slice E m cp] 26)).alloc (.cells #[.int .i64 who, .int .i64 p, .int .i64 gr, .bool nb] 28)) = W at *
    go_at_call 8; refine hL.mono ?_; rintro e w1 ⟨rfl, hLd⟩
    have hbl : Below W.heap.size W w1 := hLd
    have HB1 : Hid (Below w.heap.size w w1) := HB.out.trans (hbl.mono (by omega))
    have hY0 := hX0.out.but (But.of_below (l := []) hbl) (by simp)
    have hY1 := hX1.out.but (But.of_below (l := []) hbl) (by simp)
    have y0 := hY1.cell 0 (v := .int .i64 who) rfl
    have y1 := hY1.cell 1 (v := .int .i64 p) rfl
    have y2 := hY1.cell 2 (v := .int .i64 gr) rfl
    have y3 := hY1.cell 3 (v := .bool nb) rfl
    have zP := hY0.cell 0 (v := .int .i64 P) rfl
    have zG := hY0.cell 2 (v := .int .i64 G) rfl
    clear hL hbl hLd hY0 hY1
    go_wp2_with fail
    go_at_call 9; refine (HAW.out _).mono ?_; rintro e w2 ⟨rfl, h2⟩
    have h3 := seq HB1.out h2
    go_wp2_with fail
    go_ret
    exact ⟨rfl, h3⟩
  · have hF : FewC P T G := Decidable.byContradiction fun h => hf (.inl h)
    have hm4 : m ≤ 400 := by omega
    have hM := hF.h.1.h
    obtain ⟨n, hn⟩ : ∃ n : Nat, (n : Int) = 20 + 264 * P + 3 * T + 2 * G := ⟨(20 + 264 * P + 3 * T + 2 * G).toNat, by omega⟩
    have hL := lay_some P T G E m cp n a v _ hm4 hF hn ((hs.up (.cells #[.int .i64 P, .int .i64 T, .int .i64 G, .slice E m cp] 26)).up (.cells #[.int .i64 who, .int .i64 p, .int .i64 gr, .bool nb] 28)) hv
    have htt : 400 < mp ∨ p < 0 ∨ P ≤ p ∨ gr < 0 ∨ G ≤ gr ∨ who < 0 ∨ 300 < who := by rcases h with h | h; exact absurd h hf; exact h
    clear h hf hs hv hn hF hM
    by_cases q1 : 400 < mp
    · clear htt
      have e1 : decide ((400 : Int) < (mp : Int)) = true := decide_eq_true (by omega)
      go_enter Tryz.func3, Tryz.ntmps3
      go_wp2_with fail
      generalize ((w.alloc (.cells #[.int .i64 P, .int .i64 T, .int .i64 G, .slice E m cp] 26)).alloc (.cells #[.int .i64 who, .int .i64 p, .int .i64 gr, .bool nb] 28)) = W at *
      go_at_call 8; refine hL.mono ?_; rintro e w1 ⟨cl, A, A', cap, cap', c, b, c', b', rfl, hLd⟩
      have hbl : Below W.heap.size W w1 := hLd.below
      have HB1 : Hid (Below w.heap.size w w1) := HB.out.trans (hbl.mono (by omega))
      have hY0 := hX0.out.but (But.of_below (l := []) hbl) (by simp)
      have hY1 := hX1.out.but (But.of_below (l := []) hbl) (by simp)
      have y0 := hY1.cell 0 (v := .int .i64 who) rfl
      have y1 := hY1.cell 1 (v := .int .i64 p) rfl
      have y2 := hY1.cell 2 (v := .int .i64 gr) rfl
      have y3 := hY1.cell 3 (v := .bool nb) rfl
      have zP := hY0.cell 0 (v := .int .i64 P) rfl
      have zG := hY0.cell 2 (v := .int .i64 G) rfl
      clear hL hbl hLd hY0 hY1
      go_wp2_with fail
      go_at_call 9; refine (HAW.out _).mono ?_; rintro e w2 ⟨rfl, h2⟩
      have h3 := seq HB1.out h2
      go_wp2_with fail
      go_ret
      exact ⟨rfl, h3⟩
    have d1 : decide ((400 : Int) < (mp : Int)) = false := decide_eq_false (by omega)
    by_cases q2 : p < 0
    · clear htt
      go_enter Tryz.func3, Tryz.ntmps3
      go_wp2_with fail
      generalize ((w.alloc (.cells #[.int .i64 P, .int .i64 T, .int .i64 G, .slice E m cp] 26)).alloc (.cells #[.int .i64 who, .int .i64 p, .int .i64 gr, .bool nb] 28)) = W at *
      go_at_call 8; refine hL.mono ?_; rintro e w1 ⟨cl, A, A', cap, cap', c, b, c', b', rfl, hLd⟩
      have hbl : Below W.heap.size W w1 := hLd.below
      have HB1 : Hid (Below w.heap.size w w1) := HB.out.trans (hbl.mono (by omega))
      have hY0 := hX0.out.but (But.of_below (l := []) hbl) (by simp)
      have hY1 := hX1.out.but (But.of_below (l := []) hbl) (by simp)
      have y0 := hY1.cell 0 (v := .int .i64 who) rfl
      have y1 := hY1.cell 1 (v := .int .i64 p) rfl
      have y2 := hY1.cell 2 (v := .int .i64 gr) rfl
      have y3 := hY1.cell 3 (v := .bool nb) rfl
      have zP := hY0.cell 0 (v := .int .i64 P) rfl
      have zG := hY0.cell 2 (v := .int .i64 G) rfl
      clear hL hbl hLd hY0 hY1
      go_wp2_with fail
      go_at_call 9; refine (HAW.out _).mono ?_; rintro e w2 ⟨rfl, h2⟩
      have h3 := seq HB1.out h2
      go_wp2_with fail
      go_ret
      exact ⟨rfl, h3⟩
    have d2 : decide (p < 0) = false := decide_eq_false (by omega)
    by_cases q3 : P ≤ p
    · clear htt
      go_enter Tryz.func3, Tryz.ntmps3
      go_wp2_with fail
      generalize ((w.alloc (.cells #[.int .i64 P, .int .i64 T, .int .i64 G, .slice E m cp] 26)).alloc (.cells #[.int .i64 who, .int .i64 p, .int .i64 gr, .bool nb] 28)) = W at *
      go_at_call 8; refine hL.mono ?_; rintro e w1 ⟨cl, A, A', cap, cap', c, b, c', b', rfl, hLd⟩
      have hbl : Below W.heap.size W w1 := hLd.below
      have HB1 : Hid (Below w.heap.size w w1) := HB.out.trans (hbl.mono (by omega))
      have hY0 := hX0.out.but (But.of_below (l := []) hbl) (by simp)
      have hY1 := hX1.out.but (But.of_below (l := []) hbl) (by simp)
      have y0 := hY1.cell 0 (v := .int .i64 who) rfl
      have y1 := hY1.cell 1 (v := .int .i64 p) rfl
      have y2 := hY1.cell 2 (v := .int .i64 gr) rfl
      have y3 := hY1.cell 3 (v := .bool nb) rfl
      have zP := hY0.cell 0 (v := .int .i64 P) rfl
      have zG := hY0.cell 2 (v := .int .i64 G) rfl
      clear hL hbl hLd hY0 hY1
      go_wp2_with fail
      go_at_call 9; refine (HAW.out _).mono ?_; rintro e w2 ⟨rfl, h2⟩
      have h3 := seq HB1.out h2
      go_wp2_with fail
      go_ret
      exact ⟨rfl, h3⟩
    have d3 : decide (P ≤ p) = false := decide_eq_false (by omega)
    by_cases q4 : gr < 0
    · clear htt
      go_enter Tryz.func3, Tryz.ntmps3
      go_wp2_with fail
      generalize ((w.alloc (.cells #[.int .i64 P, .int .i64 T, .int .i64 G, .slice E m cp] 26)).alloc (.cells #[.int .i64 who, .int .i64 p, .int .i64 gr, .bool nb] 28)) = W at *
      go_at_call 8; refine hL.mono ?_; rintro e w1 ⟨cl, A, A', cap, cap', c, b, c', b', rfl, hLd⟩
      have hbl : Below W.heap.size W w1 := hLd.below
      have HB1 : Hid (Below w.heap.size w w1) := HB.out.trans (hbl.mono (by omega))
      have hY0 := hX0.out.but (But.of_below (l := []) hbl) (by simp)
      have hY1 := hX1.out.but (But.of_below (l := []) hbl) (by simp)
      have y0 := hY1.cell 0 (v := .int .i64 who) rfl
      have y1 := hY1.cell 1 (v := .int .i64 p) rfl
      have y2 := hY1.cell 2 (v := .int .i64 gr) rfl
      have y3 := hY1.cell 3 (v := .bool nb) rfl
      have zP := hY0.cell 0 (v := .int .i64 P) rfl
      have zG := hY0.cell 2 (v := .int .i64 G) rfl
      clear hL hbl hLd hY0 hY1
      go_wp2_with fail
      go_at_call 9; refine (HAW.out _).mono ?_; rintro e w2 ⟨rfl, h2⟩
      have h3 := seq HB1.out h2
      go_wp2_with fail
      go_ret
      exact ⟨rfl, h3⟩
    have d4 : decide (gr < 0) = false := decide_eq_false (by omega)
    by_cases q5 : G ≤ gr
    · clear htt
      go_enter Tryz.func3, Tryz.ntmps3
      go_wp2_with fail
      generalize ((w.alloc (.cells #[.int .i64 P, .int .i64 T, .int .i64 G, .slice E m cp] 26)).alloc (.cells #[.int .i64 who, .int .i64 p, .int .i64 gr, .bool nb] 28)) = W at *
      go_at_call 8; refine hL.mono ?_; rintro e w1 ⟨cl, A, A', cap, cap', c, b, c', b', rfl, hLd⟩
      have hbl : Below W.heap.size W w1 := hLd.below
      have HB1 : Hid (Below w.heap.size w w1) := HB.out.trans (hbl.mono (by omega))
      have hY0 := hX0.out.but (But.of_below (l := []) hbl) (by simp)
      have hY1 := hX1.out.but (But.of_below (l := []) hbl) (by simp)
      have y0 := hY1.cell 0 (v := .int .i64 who) rfl
      have y1 := hY1.cell 1 (v := .int .i64 p) rfl
      have y2 := hY1.cell 2 (v := .int .i64 gr) rfl
      have y3 := hY1.cell 3 (v := .bool nb) rfl
      have zP := hY0.cell 0 (v := .int .i64 P) rfl
      have zG := hY0.cell 2 (v := .int .i64 G) rfl
      clear hL hbl hLd hY0 hY1
      go_wp2_with fail
      go_at_call 9; refine (HAW.out _).mono ?_; rintro e w2 ⟨rfl, h2⟩
      have h3 := seq HB1.out h2
      go_wp2_with fail
      go_ret
      exact ⟨rfl, h3⟩
    have d5 : decide (G ≤ gr) = false := decide_eq_false (by omega)
    by_cases q6 : who < 0
    · clear htt
      go_enter Tryz.func3, Tryz.ntmps3
      go_wp2_with fail
      generalize ((w.alloc (.cells #[.int .i64 P, .int .i64 T, .int .i64 G, .slice E m cp] 26)).alloc (.cells #[.int .i64 who, .int .i64 p, .int .i64 gr, .bool nb] 28)) = W at *
      go_at_call 8; refine hL.mono ?_; rintro e w1 ⟨cl, A, A', cap, cap', c, b, c', b', rfl, hLd⟩
      have hbl : Below W.heap.size W w1 := hLd.below
      have HB1 : Hid (Below w.heap.size w w1) := HB.out.trans (hbl.mono (by omega))
      have hY0 := hX0.out.but (But.of_below (l := []) hbl) (by simp)
      have hY1 := hX1.out.but (But.of_below (l := []) hbl) (by simp)
      have y0 := hY1.cell 0 (v := .int .i64 who) rfl
      have y1 := hY1.cell 1 (v := .int .i64 p) rfl
      have y2 := hY1.cell 2 (v := .int .i64 gr) rfl
      have y3 := hY1.cell 3 (v := .bool nb) rfl
      have zP := hY0.cell 0 (v := .int .i64 P) rfl
      have zG := hY0.cell 2 (v := .int .i64 G) rfl
      clear hL hbl hLd hY0 hY1
      go_wp2_with fail
      go_at_call 9; refine (HAW.out _).mono ?_; rintro e w2 ⟨rfl, h2⟩
      have h3 := seq HB1.out h2
      go_wp2_with fail
      go_ret
      exact ⟨rfl, h3⟩
    have d6 : decide (who < 0) = false := decide_eq_false (by omega)
    have q7 : 300 < who := by omega
    clear htt
    go_enter Tryz.func3, Tryz.ntmps3
    go_wp2_with fail
    generalize ((w.alloc (.cells #[.int .i64 P, .int .i64 T, .int .i64 G, .slice E m cp] 26)).alloc (.cells #[.int .i64 who, .int .i64 p, .int .i64 gr, .bool nb] 28)) = W at *
    go_at_call 8; refine hL.mono ?_; rintro e w1 ⟨cl, A, A', cap, cap', c, b, c', b', rfl, hLd⟩
    have hbl : Below W.heap.size W w1 := hLd.below
    have HB1 : Hid (Below w.heap.size w w1) := HB.out.trans (hbl.mono (by omega))
    have hY0 := hX0.out.but (But.of_below (l := []) hbl) (by simp)
    have hY1 := hX1.out.but (But.of_below (l := []) hbl) (by simp)
    have y0 := hY1.cell 0 (v := .int .i64 who) rfl
    have y1 := hY1.cell 1 (v := .int .i64 p) rfl
    have y2 := hY1.cell 2 (v := .int .i64 gr) rfl
    have y3 := hY1.cell 3 (v := .bool nb) rfl
    have zP := hY0.cell 0 (v := .int .i64 P) rfl
    have zG := hY0.cell 2 (v := .int .i64 G) rfl
    clear hL hbl hLd hY0 hY1
    go_wp2_with fail
    go_at_call 9; refine (HAW.out _).mono ?_; rintro e w2 ⟨rfl, h2⟩
    have h3 := seq HB1.out h2
    go_wp2_with fail
    go_ret
    exact ⟨rfl, h3⟩

set_option maxHeartbeats 4000000 in
theorem rputSteps_ok (P T G : Int) (who p gr : Int) (nb : Bool) (E F : Option Addr) (m cp mp cq : Nat) (a v : Nat → Int) (Pks : Nat → Pk) (w : World) (hAw : ∀ w, Calls Tryz.prog 9 #[] w fun e w' => e = .returned (.bool true) ∧ Below w.heap.size w w') (hm : m ≤ 400) (hF : FewC P T G) (hmp : mp ≤ 400) (hs : SeesP w w.heap.size E m a v) (hv : ∀ i, i < m → 0 ≤ v i ∧ v i ≤ 18446744073709551615) (hP : SeesC w w.heap.size F mp 6 (pkC Pks)) (hpv : ∀ j, j < mp → 0 ≤ (Pks j).v ∧ (Pks j).v ≤ 18446744073709551615) (hp0 : 0 ≤ p ∧ p < P) (hg0 : 0 ≤ gr ∧ gr < G) (hw0 : 0 ≤ who ∧ who ≤ 300) :
    Calls Tryz.prog 3 #[.agg #[.int .i64 P, .int .i64 T, .int .i64 G, .slice E m cp], .agg #[.int .i64 who, .int .i64 p, .int .i64 gr, .bool nb], .slice F mp cq] w fun e w' => e = .returned (.bool true) ∧ Below w.heap.size w w' := by
  have hsz : ((w.alloc (.cells #[.int .i64 P, .int .i64 T, .int .i64 G, .slice E m cp] 26)).alloc (.cells #[.int .i64 who, .int .i64 p, .int .i64 gr, .bool nb] 28)).heap.size = w.heap.size + 1 + 1 := by simp
  have HB : Hid (Below w.heap.size w ((w.alloc (.cells #[.int .i64 P, .int .i64 T, .int .i64 G, .slice E m cp] 26)).alloc (.cells #[.int .i64 who, .int .i64 p, .int .i64 gr, .bool nb] 28))) := ((Below.refl _ _).alloc (Nat.le_refl _) _).alloc (by simp) _
  have hX0 : Hid (Blk ((w.alloc (.cells #[.int .i64 P, .int .i64 T, .int .i64 G, .slice E m cp] 26)).alloc (.cells #[.int .i64 who, .int .i64 p, .int .i64 gr, .bool nb] 28)) w.heap.size #[.int .i64 P, .int .i64 T, .int .i64 G, .slice E m cp] 26) := (Blk.new w #[.int .i64 P, .int .i64 T, .int .i64 G, .slice E m cp] 26).al _
  have hX1 : Hid (Blk ((w.alloc (.cells #[.int .i64 P, .int .i64 T, .int .i64 G, .slice E m cp] 26)).alloc (.cells #[.int .i64 who, .int .i64 p, .int .i64 gr, .bool nb] 28)) (w.heap.size + 1) #[.int .i64 who, .int .i64 p, .int .i64 gr, .bool nb] 28) := by
    have := Blk.new (w.alloc (.cells #[.int .i64 P, .int .i64 T, .int .i64 G, .slice E m cp] 26)) #[.int .i64 who, .int .i64 p, .int .i64 gr, .bool nb] 28
    rw [show (w.alloc (.cells #[.int .i64 P, .int .i64 T, .int .i64 G, .slice E m cp] 26)).heap.size = w.heap.size + 1 by simp] at this
    exact this
  have HAW : Hid (∀ w, Calls Tryz.prog 9 #[] w fun e w' => e = .returned (.bool true) ∧ Below w.heap.size w w') := hAw
  have hM := hF.h.1.h
  have hFF := hF.h
  have hP64 : 0 ≤ P ∧ P ≤ 64 := by omega
  obtain ⟨n, hn⟩ : ∃ n : Nat, (n : Int) = 20 + 264 * P + 3 * T + 2 * G := ⟨(20 + 264 * P + 3 * T + 2 * G).toNat, by omega⟩
  have hn0 : 0 < n := by omega
  have hn6 : n ≤ 1000000 := by omega
  have hL := lay_some P T G E m cp n a v _ hm hF hn ((hs.up (.cells #[.int .i64 P, .int .i64 T, .int .i64 G, .slice E m cp] 26)).up (.cells #[.int .i64 who, .int .i64 p, .int .i64 gr, .bool nb] 28)) hv
  have d1 : decide ((400 : Int) < (mp : Int)) = false := decide_eq_false (by omega)
  have d2 : decide (p < 0) = false := decide_eq_false (by omega)
  have d3 : decide (P ≤ p) = false := decide_eq_false (by omega)
  have d4 : decide (gr < 0) = false := decide_eq_false (by omega)
  have d5 : decide (G ≤ gr) = false := decide_eq_false (by omega)
  have d6 : decide (who < 0) = false := decide_eq_false (by omega)
  have d7 : decide (300 < who) = false := decide_eq_false (by omega)
  have HP : Hid (SeesC w w.heap.size F mp 6 (pkC Pks)) := hP
  have HPV : Hid (∀ j, j < mp → 0 ≤ (Pks j).v ∧ (Pks j).v ≤ 18446744073709551615) := hpv
  obtain ⟨gl, hgl⟩ : ∃ gl : Int → Int, (fun y => wd (20 + P * 264 + T * 3) G 2 y 1) = gl := ⟨_, rfl⟩
  have HLAW : Hid (∀ cl, (rpCp who gl P T G p cl).Laws (rpPM who P p gl) (Rd.lay cl P T G) who) := fun cl => by rw [← hgl]; exact rp_laws (by omega) hP64 (by omega) (by omega)
  have HREF : Hid (∀ (w : World) (x : Nat) (A : Option Addr) (cap m : Nat) (gf : Nat → Int) (t : RpT), RunOn w x A cap m gf rn0 → Hist (rpPM who P p gl) (rpStart gr nb) gf m t → Calls Tryz.prog 12 #[.pointer (some ⟨x, 0, none⟩), .agg #[.int .i64 P, .int .i64 T, .int .i64 G], .int .i64 who, .int .i64 p, .int .i64 gr, .bool nb] w fun e w' => ∃ v, e = .returned (.agg #[v, .int .i64 t.moved]) ∧ SeesL w' v t.holds ∧ RunOn w' x A cap m gf ((rpPM who P p gl).rn t m) ∧ But [x] w w') := fun w x A cap m gf t h hh => by subst hgl; exact rrput_on w x A cap m gf who P T G p gr nb t h hh hp0 (by omega) (by omega) (by omega) hw0 (by omega)
  have HGOT : Hid (∀ cl (w : World) (x : Nat) (t : RpT) (L : List Nat), (rpCp who gl P T G p cl).I w x t L → (Calls Tryz.prog 16 #[.pointer (some ⟨x, 0, none⟩)] w fun e w' => ∃ v, e = .returned v ∧ SeesL w' v t.holds ∧ Below w.heap.size w w') ∧ Calls Tryz.prog 14 #[.pointer (some ⟨x, 0, none⟩)] w fun e w' => e = .returned (.int .i64 t.moved) ∧ w = w') := fun cl w x t L h => ⟨rp_holds h, rp_moves h⟩
  have HNEW : Hid (∀ cl (w : World), Lay w cl P T G → Calls Tryz.prog 10 #[.pointer (some ⟨cl, 0, none⟩), .int .i64 who, .int .i64 p, .int .i64 gr, .bool nb] w fun e w' => ∃ x L, e = .returned (.pointer (some ⟨x, 0, none⟩)) ∧ (rpCp who gl P T G p cl).I w' x (rpStart gr nb) L ∧ Below w.heap.size w w' ∧ (∀ k ∈ L, w.heap.size ≤ k)) := fun cl w h => (rp_new_at w cl who p gr P T G gl nb h hP64).mono fun e w' ⟨x, L, h1, h2, h3, h4, _⟩ => ⟨x, L, h1, h2, h3, h4⟩
  clear hgl hp0 hg0 hw0
  clear hAw hs hv hn hF hM hFF hP hpv
  go_enter Tryz.func3, Tryz.ntmps3
  go_wp2_with fail
  generalize ((w.alloc (.cells #[.int .i64 P, .int .i64 T, .int .i64 G, .slice E m cp] 26)).alloc (.cells #[.int .i64 who, .int .i64 p, .int .i64 gr, .bool nb] 28)) = W at *
  go_at_call 8; refine hL.mono ?_; rintro e w1 ⟨cl, A, A', cap, cap', c, b, c', b', rfl, hLd⟩
  have HL : Hid (Laid W w1 P T G n (putF a v n m) cl A A' cap cap' c b c' b') := hLd
  have hbl := hLd.below
  have HB1 : Hid (Below w.heap.size w w1) := HB.out.trans (hbl.mono (by omega))
  have hY0 := hX0.out.but (But.of_below (l := []) hbl) (by simp)
  have hY1 := hX1.out.but (But.of_below (l := []) hbl) (by simp)
  have y0 := hY1.cell 0 (v := .int .i64 who) rfl
  have y1 := hY1.cell 1 (v := .int .i64 p) rfl
  have y2 := hY1.cell 2 (v := .int .i64 gr) rfl
  have y3 := hY1.cell 3 (v := .bool nb) rfl
  have zP := hY0.cell 0 (v := .int .i64 P) rfl
  have zG := hY0.cell 2 (v := .int .i64 G) rfl
  have HXb : Hid (∀ k, Blk (w1.drewN k) w.heap.size #[.int .i64 P, .int .i64 T, .int .i64 G, .slice E m cp] 26) := fun k => hY0.drewN k
  have HXw : Hid (Blk w1 w.heap.size #[.int .i64 P, .int .i64 T, .int .i64 G, .slice E m cp] 26) := hY0
  have HXW : Hid (Blk w1 (w.heap.size + 1) #[.int .i64 who, .int .i64 p, .int .i64 gr, .bool nb] 28) := hY1
  clear hL hLd hbl hY0 hY1
  go_wp2_with fail
  have hT1 : Hid (Two w1 A A' cap cap' c b c' b' n (fresh (putF a v n m))) := HL.out.two
  have HB2 : Hid (Below w.heap.size w w1) := HB1.out
  have HLy2 : Hid (Lay w1 cl P T G) := HL.out.lay
  have HX2 : Hid (Blk w1 w.heap.size #[.int .i64 P, .int .i64 T, .int .i64 G, .slice E m cp] 26) := HXw.out
  obtain ⟨u1, u2, u3, u4, u5⟩ := HL.out.up
  have hup : Hid (w.heap.size ≤ c ∧ w.heap.size ≤ b ∧ w.heap.size ≤ c' ∧ w.heap.size ≤ b') := ⟨by omega, by omega, by omega, by omega⟩
  have hbx : Hid (w.heap.size ≠ c ∧ w.heap.size ≠ b ∧ w.heap.size ≠ c' ∧ w.heap.size ≠ b' ∧ w.heap.size ≠ cl) := ⟨by omega, by omega, by omega, by omega, by omega⟩
  have hclup : Hid (w.heap.size ≤ cl) := (by omega : w.heap.size ≤ cl)
  have hbx1 : Hid (w.heap.size + 1 ≠ c ∧ w.heap.size + 1 ≠ b ∧ w.heap.size + 1 ≠ c' ∧ w.heap.size + 1 ≠ b') := ⟨by omega, by omega, by omega, by omega⟩
  generalize hw2 : w1 = w2 at *
  have z0 := HX2.out.cell 0 (v := .int .i64 P) rfl
  have z1 := HX2.out.cell 1 (v := .int .i64 T) rfl
  have z2 := HX2.out.cell 2 (v := .int .i64 G) rfl
  clear HL HB1 HXb HXw u1 u2 u3 u4 u5 hw2 hX0 hX1 HB hsz zP zG y0 y1 y2 y3
  have y0 := HXW.out.cell 0 (v := .int .i64 who) rfl
  have y1 := HXW.out.cell 1 (v := .int .i64 p) rfl
  have y2 := HXW.out.cell 2 (v := .int .i64 gr) rfl
  have y3 := HXW.out.cell 3 (v := .bool nb) rfl
  have hne : Hid (cl ≠ c ∧ cl ≠ b) := lay_ne HLy2.out (by decide) hT1.out.m hn0
  have hne2 : Hid (cl ≠ c' ∧ cl ≠ b') := lay_ne HLy2.out (by decide) hT1.out.r hn0
  have HLW : Hid (((rpCp who gl P T G p cl).I).Good (rpPM who P p gl) ∧ Steps (rpPM who P p gl) ((rpCp who gl P T G p cl).I) (Rd.lay cl P T G) 18 who) := ⟨Cp.good (HLAW.out cl), Cp.steps (HLAW.out cl) stepby_rput⟩
  have HGD : Hid (((rpCp who gl P T G p cl).I).Good (rpPM who P p gl)) := HLW.out.1
  have hN := HNEW.out cl w2 HLy2.out
  go_wp2_with fail
  go_at_call 10; refine hN.mono ?_; rintro e w3 ⟨x, L0, rfl, hi0, hb3, hu1⟩
  have HO0 : Hid (LawOn ((rpCp who gl P T G p cl).I) (((Rd.lay cl P T G).and (Rd.blk (w.heap.size + 1) #[.int .i64 who, .int .i64 p, .int .i64 gr, .bool nb] 28)).and (Rd.blk w.heap.size #[.int .i64 P, .int .i64 T, .int .i64 G, .slice E m cp] 26)) w w3 A A' cap cap' c b c' b' n (fresh (putF a v n m)) (fresh (putF a v n m)) none 0 0 (fun _ => 0) x (rpStart gr nb) L0 [cl, w.heap.size + 1, w.heap.size]) := LawOn.begin hT1.out hb3 HB2.out hup.out hi0 HGD.out hu1 ⟨⟨HLy2.out.below hb3 HLy2.out.lt, HXW.out.but (But.of_below (l := []) hb3) (by simp)⟩, HX2.out.but (But.of_below (l := []) hb3) (by simp)⟩ (fun k hk => hk) (by
    obtain ⟨n1, n2⟩ := hne.out; obtain ⟨n3, n4⟩ := hne2.out; obtain ⟨n5, n6, n7, n8, n9⟩ := hbx.out; obtain ⟨m5, m6, m7, m8⟩ := hbx1.out
    intro k hk
    simp only [List.mem_cons, List.not_mem_nil, or_false] at hk
    rcases hk with rfl | rfl | rfl
    · exact ⟨⟨n1, n2, n3, n4⟩, HLy2.out.lt, hclup.out⟩
    · exact ⟨⟨m5, m6, m7, m8⟩, HXW.out.lt, Nat.le_succ _⟩
    · exact ⟨⟨n5, n6, n7, n8⟩, HX2.out.lt, Nat.le_refl _⟩)
  clear hN hi0 hb3 hu1 hT1 HB2 HX2 HLy2 z0 z1 z2 hup hbx hbx1 hclup hne hne2 HXW y0 y1 y2 y3
  go_wp2_with fail
  go_loopw [12, 13] (fun gv i wr => ∃ (k : Nat) (s : St) (Ag : Option Addr) (capg mg : Nat) (gf : Nat → Int) (t : RpT) (L : List Nat), k ≤ mp ∧ i = .int .i64 k ∧ gv = .slice Ag mg capg ∧ mg ≤ k ∧ Hid (LawOn ((rpCp who gl P T G p cl).I) (((Rd.lay cl P T G).and (Rd.blk (w.heap.size + 1) #[.int .i64 who, .int .i64 p, .int .i64 gr, .bool nb] 28)).and (Rd.blk w.heap.size #[.int .i64 P, .int .i64 T, .int .i64 G, .slice E m cp] 26)) w wr A A' cap cap' c b c' b' n s s Ag capg mg gf x t L [cl, w.heap.size + 1, w.heap.size]) ∧ Hid (Low s (k : Int)) ∧ Hid (Hist (rpPM who P p gl) (rpStart gr nb) gf mg t)) (fun _ i _ => mp - (intOf i).toNat)
  case atStart => exact ⟨0, _, none, 0, 0, _, (rpStart gr nb), L0, Nat.zero_le _, rfl, rfl, Nat.le_refl _, HO0, low_fresh _, Hist.start _ _ _⟩
  case round =>
    clear HO0
    obtain ⟨k, s, Ag, capg, mg, gf, t, L, hk, rfl, rfl, hmg, HO, HLo, HH⟩ := hrel
    by_cases hlt : k < mp
    · obtain ⟨fb, foff, rfl, hfb, hcell⟩ := HP.out (by omega)
      have hcw : Hid (∀ i u, (pkC Pks k)[i]? = some u → wr.cell? ⟨fb, foff + k * 6 + i, none⟩ = some u) := fun i u hu => (HO.out.poke.below.cell (p := ⟨fb, foff + k * 6 + i, none⟩) hfb).trans (hcell k hlt i u hu)
      have pz := hcw.out 0 (.bool (Pks k).z) rfl
      have hk0 : (0 : Int) ≤ (k : Int) := Int.natCast_nonneg _
      have hk1 : (k : Int) < (mp : Int) := by omega
      clear hcell
      rw [Nat.add_zero] at pz
      cases hz : (Pks k).z
      · rw [hz] at pz
        have HRA : Hid (wr.rangeAt fb (foff + k * 6 + 1) [.int .i64 (Pks k).k, .int .i64 (Pks k).p, .int .i64 (Pks k).i, .int .u64 (Pks k).o, .int .u64 (Pks k).v]) := fun j u hu => by
          have := hcw.out (1 + j) u (by rw [show pkC Pks k = .bool (Pks k).z :: [.int .i64 (Pks k).k, .int .i64 (Pks k).p, .int .i64 (Pks k).i, .int .u64 (Pks k).o, .int .u64 (Pks k).v] from rfl, Nat.add_comm 1 j, List.getElem?_cons_succ]; exact hu)
          rw [← Nat.add_assoc] at this
          exact this
        clear hz hcw
        go_wp2_with (refine wpList_load_mid rfl 41 _ rfl fb (foff + k * 6 + 1) rfl [.int .i64 (Pks k).k, .int .i64 (Pks k).p, .int .i64 (Pks k).i, .int .u64 (Pks k).o, .int .u64 (Pks k).v] _ HRA.out Tryz.underlying41 rfl (by kernel_rfl) ?_)
        go_at_call 11; refine (HO.out.pokes HGD.out hn6 (HLo.out.more (by omega)) (Pks k).k (Pks k).p (Pks k).i (Pks k).o (Pks k).v (HPV.out k hlt)).mono ?_; rintro e w9 ⟨rfl, hO⟩
        have HO9 : Hid _ := hO
        have HLo9 : Hid (Low (actS (Pks k).k (Pks k).p (Pks k).i (Pks k).o (Pks k).v n s) (((k + 1 : Nat)) : Int)) := (actS_low HLo.out _ _ _ _ _ _).more (by omega)
        clear hO HO HRA pz
        go_wp2_with fail
        go_roundw
        case rel => exact ⟨k + 1, _, Ag, capg, mg, gf, t, L, by omega, by go_num, rfl, by omega, HO9, HLo9, HH⟩
        case measure => simp [intOf]; omega
      · rw [hz] at pz
        clear hz hcw
        have hR0 : Hid (RunOn (wr.alloc (.cells (runL (.slice Ag mg capg) rn0).toArray 48)) wr.heap.size Ag capg mg gf rn0) := run_starts HO.out.poke.got (by omega)
        have hb0 : Hid (Below wr.heap.size wr (wr.alloc (.cells (runL (.slice Ag mg capg) rn0).toArray 48))) := (Below.refl _ _).alloc (Nat.le_refl _) _
        have hRR := HREF.out _ _ Ag capg mg gf t hR0.out HH.out
        have y0 := HO.out.rd.2.cell 0 (v := .int .i64 P) rfl
        have y1 := HO.out.rd.2.cell 1 (v := .int .i64 T) rfl
        have y2 := HO.out.rd.2.cell 2 (v := .int .i64 G) rfl
        have q0 := HO.out.rd.1.2.cell 0 (v := .int .i64 who) rfl
        have q1 := HO.out.rd.1.2.cell 1 (v := .int .i64 p) rfl
        have q2 := HO.out.rd.1.2.cell 2 (v := .int .i64 gr) rfl
        have q3 := HO.out.rd.1.2.cell 3 (v := .bool nb) rfl
        have hbl0 : w.heap.size < wr.heap.size := HO.out.rd.2.lt
        have hbl : w.heap.size + 1 < wr.heap.size := HO.out.rd.1.2.lt
        go_wp2_with fail
        go_at_call 12; refine hRR.mono ?_; rintro e w40 ⟨vh, rfl, hVH, hR40, hB40⟩
        have hs40 : wr.heap.size < w40.heap.size := hR40.blk.lt
        have hb40 : Below wr.heap.size wr w40 := hb0.out.trans (hB40.below (by simp) (by simp))
        have HVH : Hid (SeesL w40 vh t.holds) := hVH
        obtain ⟨Ah, ch, rfl, -, -⟩ := hVH
        have HO40 : Hid (LawOn ((rpCp who gl P T G p cl).I) (((Rd.lay cl P T G).and (Rd.blk (w.heap.size + 1) #[.int .i64 who, .int .i64 p, .int .i64 gr, .bool nb] 28)).and (Rd.blk w.heap.size #[.int .i64 P, .int .i64 T, .int .i64 G, .slice E m cp] 26)) w w40 A A' cap cap' c b c' b' n s s Ag capg mg gf x t L [cl, w.heap.size + 1, w.heap.size]) := HO.out.still HGD.out hb40
        have HR40 : Hid (RunOn w40 wr.heap.size Ag capg mg gf ((rpPM who P p gl).rn t mg)) := hR40
        have s20 := HR40.out.blk.cell 2 (v := .bool ((rpPM who P p gl).rn t mg).stop) rfl
        have s2 := (HR40.out.below (((Below.refl _ _).alloc (Nat.le_refl _) _) : Below w40.heap.size w40 (w40.alloc (.cells #[.slice Ah t.holds.length ch, .int .i64 t.moved] 51)))).blk.cell 2 (v := .bool ((rpPM who P p gl).rn t mg).stop) rfl
        rw [PM.rn_stop] at s2
        have HAL : Hid (Blk (w40.alloc (.cells #[.slice Ah t.holds.length ch, .int .i64 t.moved] 51)) w40.heap.size #[.slice Ah t.holds.length ch, .int .i64 t.moved] 51) := Blk.new _ _ _
        clear hRR hR40 hB40 hR0 hb0 hb40 HO pz y0 y1 y2 q0 q1 q2 q3 hbl0 hbl s20
        have HOK : Hid (∀ a, (rpPM who P p gl).ax t = some a → a.Ok) := fun a ha => Cp.axok (HLAW.out cl) HO40.out.mach a ha
        cases hst : ((rpPM who P p gl).ax t).isSome
        · rw [hst] at s2
          have hin : ((rpPM who P p gl).ax t).isNone = true := by cases h : (rpPM who P p gl).ax t <;> rw [h] at hst <;> first | rfl | cases hst
          have hbw : Below w40.heap.size w40 (w40.alloc (.cells #[.slice Ah t.holds.length ch, .int .i64 t.moved] 51)) := (Below.refl _ _).alloc (Nat.le_refl _) _
          have HO4 : Hid (LawOn ((rpCp who gl P T G p cl).I) (((Rd.lay cl P T G).and (Rd.blk (w.heap.size + 1) #[.int .i64 who, .int .i64 p, .int .i64 gr, .bool nb] 28)).and (Rd.blk w.heap.size #[.int .i64 P, .int .i64 T, .int .i64 G, .slice E m cp] 26)) w (w40.alloc (.cells #[.slice Ah t.holds.length ch, .int .i64 t.moved] 51)) A A' cap cap' c b c' b' n s s Ag capg mg gf x t L [cl, w.heap.size + 1, w.heap.size]) := HO40.out.still HGD.out hbw
          have HR4 : Hid (RunOn (w40.alloc (.cells #[.slice Ah t.holds.length ch, .int .i64 t.moved] 51)) wr.heap.size Ag capg mg gf ((rpPM who P p gl).rn t mg)) := HR40.out.below hbw
          have HVH4 : Hid (SeesL (w40.alloc (.cells #[.slice Ah t.holds.length ch, .int .i64 t.moved] 51)) (.slice Ah t.holds.length ch) t.holds) := HVH.out.below hbw
          have hs4 : Hid (wr.heap.size < (w40.alloc (.cells #[.slice Ah t.holds.length ch, .int .i64 t.moved] 51)).heap.size ∧ w40.heap.size < (w40.alloc (.cells #[.slice Ah t.holds.length ch, .int .i64 t.moved] 51)).heap.size) := ⟨Nat.lt_of_lt_of_le hs40 hbw.size, HAL.out.lt⟩
          clear hbw HO40 HR40 HVH
          go_wp2_with fail
          generalize (w40.alloc (.cells #[.slice Ah t.holds.length ch, .int .i64 t.moved] 51)) = w4 at *
          generalize w40.heap.size = g4 at *
          have HD : Hid (∀ Y, Below w4.heap.size w4 Y → Calls Tryz.prog 13 #[.pointer (some ⟨x, 0, none⟩)] Y fun e w' => e = .returned (.bool true) ∧ Y = w') := fun Y hY => by
            obtain ⟨nx, hx1, hx2⟩ := HGD.out.next (HGD.out.below HO4.out.mach hY)
            rw [hin] at hx2
            rw [← hx2]
            exact done_rput Y x nx hx1
          have HHv : Hid (∀ Y, Below w4.heap.size w4 Y → Calls Tryz.prog 16 #[.pointer (some ⟨x, 0, none⟩)] Y fun e w' => ∃ v, e = .returned v ∧ SeesL w' v t.holds ∧ Below Y.heap.size Y w') := fun Y hY => (HGOT.out cl Y x t L (HGD.out.below HO4.out.mach hY)).1
          have HMv : Hid (∀ Y, Below w4.heap.size w4 Y → Calls Tryz.prog 14 #[.pointer (some ⟨x, 0, none⟩)] Y fun e w' => e = .returned (.int .i64 t.moved) ∧ Y = w') := fun Y hY => (HGOT.out cl Y x t L (HGD.out.below HO4.out.mach hY)).2
          have HHL : Hid (t.holds.length ≤ 1000000) := rp_few HO4.out.mach
          have HVY : Hid (∀ Y, Below w4.heap.size w4 Y → SeesL Y (.slice Ah t.holds.length ch) t.holds) := fun Y hY => HVH4.out.below hY
          have s2 := HR4.out.blk.cell 2 (v := .bool ((rpPM who P p gl).rn t mg).stop) rfl
          rw [PM.rn_stop, hst] at s2
          have k0 := HAL.out.cell 0 (v := .slice Ah t.holds.length ch) rfl
          have k1 := HAL.out.cell 1 (v := .int .i64 t.moved) rfl
          clear HVH4 HAL
          generalize t.holds = lh at *
          generalize t.moved = mo at *
          have hH : Hid (w4.drew.cell? ⟨wr.heap.size, 2, none⟩ = some (.bool false) ∧ w4.drew.cell? ⟨g4, 0, none⟩ = some (.slice Ah lh.length ch) ∧ w4.drew.cell? ⟨g4, 1, none⟩ = some (.int .i64 mo) ∧ Below w4.heap.size w4 w4.drew) := ⟨s2, k0, k1, (Below.refl _ _).drew⟩
          have KEEP : Hid (∀ X w' : World, (X.cell? ⟨wr.heap.size, 2, none⟩ = some (.bool false) ∧ X.cell? ⟨g4, 0, none⟩ = some (.slice Ah lh.length ch) ∧ X.cell? ⟨g4, 1, none⟩ = some (.int .i64 mo) ∧ Below w4.heap.size w4 X) → Below X.heap.size X w' → (w'.cell? ⟨wr.heap.size, 2, none⟩ = some (.bool false) ∧ w'.cell? ⟨g4, 0, none⟩ = some (.slice Ah lh.length ch) ∧ w'.cell? ⟨g4, 1, none⟩ = some (.int .i64 mo) ∧ Below w4.heap.size w4 w')) := fun X w' h k => ⟨(k.cell (p := ⟨wr.heap.size, 2, none⟩) (Nat.lt_of_lt_of_le hs4.out.1 h.2.2.2.size)).trans h.1, (k.cell (p := ⟨g4, 0, none⟩) (Nat.lt_of_lt_of_le hs4.out.2 h.2.2.2.size)).trans h.2.1, (k.cell (p := ⟨g4, 1, none⟩) (Nat.lt_of_lt_of_le hs4.out.2 h.2.2.2.size)).trans h.2.2.1, h.2.2.2.trans (k.mono h.2.2.2.size)⟩
          clear hin hst k0 k1
          go_region_held3 (fun w' => w'.cell? ⟨wr.heap.size, 2, none⟩ = some (.bool false) ∧ w'.cell? ⟨g4, 0, none⟩ = some (.slice Ah lh.length ch) ∧ w'.cell? ⟨g4, 1, none⟩ = some (.int .i64 mo) ∧ Below w4.heap.size w4 w') (first | exact hH.out | assumption | exact KEEP.out _ _ ‹_› ‹_›) (first | (go_at_call 13; refine (HD.out _ (by simp only [*])).mono ?_; rintro e x1 ⟨rfl, rfl⟩) | (go_at_call 14; refine (HMv.out _ (by simp only [*])).mono ?_; rintro e x2 ⟨rfl, rfl⟩) | (go_at_call 16; refine (HHv.out _ (by simp only [*])).mono ?_; rintro e x3 ⟨v2, rfl, hv3, g2⟩) | (go_at_call 15; refine (lsame_any _ _ _ lh HHL.out hv3 (HVY.out _ (by simp only [*]))).mono ?_; rintro e x4 ⟨rfl, g3⟩))
          all_goals
            rename_i hHeld
            have HO5 : Hid _ := HO4.out.still HGD.out hHeld.2.2.2
            have HRg : Hid _ := (HR4.out.below hHeld.2.2.2).range
            have hTu := HO5.out.turn HGD.out HOK.out hn6 (HLo.out.more (by omega)) (by omega) who
            have zw := HO5.out.rd.1.2.cell 0 (v := .int .i64 who) rfl
            rw [show runCells (.slice Ag mg capg) ((rpPM who P p gl).rn t mg) = (runL (.slice Ag mg capg) ((rpPM who P p gl).rn t mg)).toArray from rfl] at hTu
            generalize (rpPM who P p gl).rn t mg = RN at *
            simp only [runL] at hTu
            clear HD HHv HMv HVY HHL KEEP hH HO4 HR4 s2 hHeld
            go_wp2_with (refine wpList_load_mid rfl 48 _ rfl wr.heap.size 0 rfl (runL (.slice Ag mg capg) RN) _ HRg.out Tryz.underlying48 rfl (by kernel_rfl) ?_; clear HRg)
            go_at_call 17; refine hTu.mono ?_; rintro e w6 ⟨Ag', capg', rfl, hO6⟩
            have HO6 : Hid _ := hO6
            have hSt := HO6.out.step HGD.out HLW.out.2 (fun Y (h : (((Rd.lay cl P T G).and (Rd.blk (w.heap.size + 1) #[.int .i64 who, .int .i64 p, .int .i64 gr, .bool nb] 28)).and (Rd.blk w.heap.size #[.int .i64 P, .int .i64 T, .int .i64 G, .slice E m cp] 26)).P Y) => h.1.1) (fun k hk => List.mem_append_left _ (List.mem_append_left _ hk)) hn6 (HLo.out.more (by omega))
            have HHn : Hid _ := HH.out.next n s (fun k i old new => actA_bd HO6.out.poke.mem k i old new)
            have HLo7 : Hid (Low ((rpPM who P p gl).goS who n t s) ((k + 1 : Nat) : Int)) := PM.goS_low HLo.out
            have hml : (rpPM who P p gl).goM t mg ≤ k + 1 := by unfold PM.goM; split <;> omega
            clear hTu hO6 HO5 zw
            go_wp2_with fail
            go_at_call 18; refine hSt.mono ?_; rintro e w7 ⟨⟨zz, rfl⟩, L7, hO7⟩
            have HO7 : Hid _ := hO7
            clear hSt hO7 HO6 HH HLo
            generalize (rpPM who P p gl).goS who n t s = s' at *
            generalize (rpPM who P p gl).goG n t s gf mg = g' at *
            generalize (rpPM who P p gl).goM t mg = m' at *
            generalize (rpPM who P p gl).goT n t s = t' at *
            have hAl := alike_any w7 A A' cap cap' c b c' b' n s' hn6 HO7.out.poke.two
            go_wp2_with fail
            go_at_call 19; refine hAl.mono ?_; rintro e w8 ⟨rfl, hb8⟩
            have HO8 : Hid _ := HO7.out.still HGD.out hb8
            clear hAl hb8 HO7
            go_wp2_with fail
            go_roundw
            case rel => exact ⟨k + 1, s', Ag', capg', m', g', t', L7, by omega, by go_num, rfl, hml, HO8.out, HLo7, HHn.out⟩
            case measure => simp [intOf]; omega
        · rw [hst] at s2
          have hin : ((rpPM who P p gl).ax t).isNone = false := by cases h : (rpPM who P p gl).ax t <;> rw [h] at hst <;> first | rfl | cases hst
          have hbw : Below w40.heap.size w40 (w40.alloc (.cells #[.slice Ah t.holds.length ch, .int .i64 t.moved] 51)) := (Below.refl _ _).alloc (Nat.le_refl _) _
          have HO4 : Hid (LawOn ((rpCp who gl P T G p cl).I) (((Rd.lay cl P T G).and (Rd.blk (w.heap.size + 1) #[.int .i64 who, .int .i64 p, .int .i64 gr, .bool nb] 28)).and (Rd.blk w.heap.size #[.int .i64 P, .int .i64 T, .int .i64 G, .slice E m cp] 26)) w (w40.alloc (.cells #[.slice Ah t.holds.length ch, .int .i64 t.moved] 51)) A A' cap cap' c b c' b' n s s Ag capg mg gf x t L [cl, w.heap.size + 1, w.heap.size]) := HO40.out.still HGD.out hbw
          have HR4 : Hid (RunOn (w40.alloc (.cells #[.slice Ah t.holds.length ch, .int .i64 t.moved] 51)) wr.heap.size Ag capg mg gf ((rpPM who P p gl).rn t mg)) := HR40.out.below hbw
          have HVH4 : Hid (SeesL (w40.alloc (.cells #[.slice Ah t.holds.length ch, .int .i64 t.moved] 51)) (.slice Ah t.holds.length ch) t.holds) := HVH.out.below hbw
          have hs4 : Hid (wr.heap.size < (w40.alloc (.cells #[.slice Ah t.holds.length ch, .int .i64 t.moved] 51)).heap.size ∧ w40.heap.size < (w40.alloc (.cells #[.slice Ah t.holds.length ch, .int .i64 t.moved] 51)).heap.size) := ⟨Nat.lt_of_lt_of_le hs40 hbw.size, HAL.out.lt⟩
          clear hbw HO40 HR40 HVH
          go_wp2_with fail
          generalize (w40.alloc (.cells #[.slice Ah t.holds.length ch, .int .i64 t.moved] 51)) = w4 at *
          generalize w40.heap.size = g4 at *
          have HD : Hid (∀ Y, Below w4.heap.size w4 Y → Calls Tryz.prog 13 #[.pointer (some ⟨x, 0, none⟩)] Y fun e w' => e = .returned (.bool false) ∧ Y = w') := fun Y hY => by
            obtain ⟨nx, hx1, hx2⟩ := HGD.out.next (HGD.out.below HO4.out.mach hY)
            rw [hin] at hx2
            rw [← hx2]
            exact done_rput Y x nx hx1
          have HHv : Hid (∀ Y, Below w4.heap.size w4 Y → Calls Tryz.prog 16 #[.pointer (some ⟨x, 0, none⟩)] Y fun e w' => ∃ v, e = .returned v ∧ SeesL w' v t.holds ∧ Below Y.heap.size Y w') := fun Y hY => (HGOT.out cl Y x t L (HGD.out.below HO4.out.mach hY)).1
          have HMv : Hid (∀ Y, Below w4.heap.size w4 Y → Calls Tryz.prog 14 #[.pointer (some ⟨x, 0, none⟩)] Y fun e w' => e = .returned (.int .i64 t.moved) ∧ Y = w') := fun Y hY => (HGOT.out cl Y x t L (HGD.out.below HO4.out.mach hY)).2
          have HHL : Hid (t.holds.length ≤ 1000000) := rp_few HO4.out.mach
          have HVY : Hid (∀ Y, Below w4.heap.size w4 Y → SeesL Y (.slice Ah t.holds.length ch) t.holds) := fun Y hY => HVH4.out.below hY
          have s2 := HR4.out.blk.cell 2 (v := .bool ((rpPM who P p gl).rn t mg).stop) rfl
          rw [PM.rn_stop, hst] at s2
          have k0 := HAL.out.cell 0 (v := .slice Ah t.holds.length ch) rfl
          have k1 := HAL.out.cell 1 (v := .int .i64 t.moved) rfl
          clear HVH4 HAL
          generalize t.holds = lh at *
          generalize t.moved = mo at *
          have hH : Hid (w4.drew.cell? ⟨wr.heap.size, 2, none⟩ = some (.bool true) ∧ w4.drew.cell? ⟨g4, 0, none⟩ = some (.slice Ah lh.length ch) ∧ w4.drew.cell? ⟨g4, 1, none⟩ = some (.int .i64 mo) ∧ Below w4.heap.size w4 w4.drew) := ⟨s2, k0, k1, (Below.refl _ _).drew⟩
          have KEEP : Hid (∀ X w' : World, (X.cell? ⟨wr.heap.size, 2, none⟩ = some (.bool true) ∧ X.cell? ⟨g4, 0, none⟩ = some (.slice Ah lh.length ch) ∧ X.cell? ⟨g4, 1, none⟩ = some (.int .i64 mo) ∧ Below w4.heap.size w4 X) → Below X.heap.size X w' → (w'.cell? ⟨wr.heap.size, 2, none⟩ = some (.bool true) ∧ w'.cell? ⟨g4, 0, none⟩ = some (.slice Ah lh.length ch) ∧ w'.cell? ⟨g4, 1, none⟩ = some (.int .i64 mo) ∧ Below w4.heap.size w4 w')) := fun X w' h k => ⟨(k.cell (p := ⟨wr.heap.size, 2, none⟩) (Nat.lt_of_lt_of_le hs4.out.1 h.2.2.2.size)).trans h.1, (k.cell (p := ⟨g4, 0, none⟩) (Nat.lt_of_lt_of_le hs4.out.2 h.2.2.2.size)).trans h.2.1, (k.cell (p := ⟨g4, 1, none⟩) (Nat.lt_of_lt_of_le hs4.out.2 h.2.2.2.size)).trans h.2.2.1, h.2.2.2.trans (k.mono h.2.2.2.size)⟩
          clear hin hst k0 k1
          go_region_held3 (fun w' => w'.cell? ⟨wr.heap.size, 2, none⟩ = some (.bool true) ∧ w'.cell? ⟨g4, 0, none⟩ = some (.slice Ah lh.length ch) ∧ w'.cell? ⟨g4, 1, none⟩ = some (.int .i64 mo) ∧ Below w4.heap.size w4 w') (first | exact hH.out | assumption | exact KEEP.out _ _ ‹_› ‹_›) (first | (go_at_call 13; refine (HD.out _ (by simp only [*])).mono ?_; rintro e x1 ⟨rfl, rfl⟩) | (go_at_call 14; refine (HMv.out _ (by simp only [*])).mono ?_; rintro e x2 ⟨rfl, rfl⟩) | (go_at_call 16; refine (HHv.out _ (by simp only [*])).mono ?_; rintro e x3 ⟨v2, rfl, hv3, g2⟩) | (go_at_call 15; refine (lsame_any _ _ _ lh HHL.out hv3 (HVY.out _ (by simp only [*]))).mono ?_; rintro e x4 ⟨rfl, g3⟩))
          all_goals
            rename_i hHeld
            have HO5 : Hid _ := HO4.out.still HGD.out hHeld.2.2.2
            have HRg : Hid _ := (HR4.out.below hHeld.2.2.2).range
            have hTu := HO5.out.turn HGD.out HOK.out hn6 (HLo.out.more (by omega)) (by omega) who
            have zw := HO5.out.rd.1.2.cell 0 (v := .int .i64 who) rfl
            rw [show runCells (.slice Ag mg capg) ((rpPM who P p gl).rn t mg) = (runL (.slice Ag mg capg) ((rpPM who P p gl).rn t mg)).toArray from rfl] at hTu
            generalize (rpPM who P p gl).rn t mg = RN at *
            simp only [runL] at hTu
            clear HD HHv HMv HVY HHL KEEP hH HO4 HR4 s2 hHeld
            go_wp2_with (refine wpList_load_mid rfl 48 _ rfl wr.heap.size 0 rfl (runL (.slice Ag mg capg) RN) _ HRg.out Tryz.underlying48 rfl (by kernel_rfl) ?_; clear HRg)
            go_at_call 17; refine hTu.mono ?_; rintro e w6 ⟨Ag', capg', rfl, hO6⟩
            have HO6 : Hid _ := hO6
            have hSt := HO6.out.step HGD.out HLW.out.2 (fun Y (h : (((Rd.lay cl P T G).and (Rd.blk (w.heap.size + 1) #[.int .i64 who, .int .i64 p, .int .i64 gr, .bool nb] 28)).and (Rd.blk w.heap.size #[.int .i64 P, .int .i64 T, .int .i64 G, .slice E m cp] 26)).P Y) => h.1.1) (fun k hk => List.mem_append_left _ (List.mem_append_left _ hk)) hn6 (HLo.out.more (by omega))
            have HHn : Hid _ := HH.out.next n s (fun k i old new => actA_bd HO6.out.poke.mem k i old new)
            have HLo7 : Hid (Low ((rpPM who P p gl).goS who n t s) ((k + 1 : Nat) : Int)) := PM.goS_low HLo.out
            have hml : (rpPM who P p gl).goM t mg ≤ k + 1 := by unfold PM.goM; split <;> omega
            clear hTu hO6 HO5 zw
            go_wp2_with fail
            go_at_call 18; refine hSt.mono ?_; rintro e w7 ⟨⟨zz, rfl⟩, L7, hO7⟩
            have HO7 : Hid _ := hO7
            clear hSt hO7 HO6 HH HLo
            generalize (rpPM who P p gl).goS who n t s = s' at *
            generalize (rpPM who P p gl).goG n t s gf mg = g' at *
            generalize (rpPM who P p gl).goM t mg = m' at *
            generalize (rpPM who P p gl).goT n t s = t' at *
            have hAl := alike_any w7 A A' cap cap' c b c' b' n s' hn6 HO7.out.poke.two
            go_wp2_with fail
            go_at_call 19; refine hAl.mono ?_; rintro e w8 ⟨rfl, hb8⟩
            have HO8 : Hid _ := HO7.out.still HGD.out hb8
            clear hAl hb8 HO7
            go_wp2_with fail
            go_roundw
            case rel => exact ⟨k + 1, s', Ag', capg', m', g', t', L7, by omega, by go_num, rfl, hml, HO8.out, HLo7, HHn.out⟩
            case measure => simp [intOf]; omega
    · obtain rfl : k = mp := by omega
      have hgd : decide ((k : Int) < (k : Int)) = false := by simp
      have HT := HO.out.poke.two
      have HTS : Hid (∀ Y, Below wr.heap.size wr Y → Two Y A A' cap cap' c b c' b' n s) := fun Y hY => HT.below hY
      have hH : Hid (wr.drew.cell? ⟨c', 0, none⟩ = some (.slice A' n cap') ∧ Below wr.heap.size wr wr.drew) := ⟨HT.r.cells.1, (Below.refl _ _).drew⟩
      have KEEP : Hid (∀ X w' : World, (X.cell? ⟨c', 0, none⟩ = some (.slice A' n cap') ∧ Below wr.heap.size wr X) → Below X.heap.size X w' → (w'.cell? ⟨c', 0, none⟩ = some (.slice A' n cap') ∧ Below wr.heap.size wr w')) := fun X w' h k => ⟨(HTS.out _ (h.2.trans (k.mono h.2.size))).r.cells.1, h.2.trans (k.mono h.2.size)⟩
      have HB9 : Hid (Below w.heap.size w wr) := HO.out.poke.below
      clear HT HO HLo HH
      go_wp2_with fail
      go_region_held3 (fun w' => w'.cell? ⟨c', 0, none⟩ = some (.slice A' n cap') ∧ Below wr.heap.size wr w') (first | exact hH.out | assumption | exact KEEP.out _ _ ‹_› ‹_›) (first | (go_at_call 9; refine (HAW.out _).mono ?_; rintro e x1 ⟨rfl, g1⟩) | (go_at_call 21; refine (words_any _ A cap c b n s (HTS.out _ (by simp only [*])).m hn6).mono ?_; rintro e x5 ⟨A4, cap4, rfl, hs4, g5⟩) | (go_at_call 20; refine (sameB_any _ A4 A' n cap4 cap' s.f hn6 hs4 (HTS.out _ (by simp only [*])).r.sees).mono ?_; rintro e x6 ⟨rfl, g6⟩) | (go_at_call 13; refine (done_nil_rput _).mono ?_; rintro e x7 ⟨rfl, rfl⟩) | (go_at_call 18; refine (step_nil_rput _ _).mono ?_; rintro e x7 ⟨rfl, rfl⟩) | (go_at_call 16; refine (rp_holds_nil _).mono ?_; rintro e x7 ⟨rfl, rfl⟩) | (go_at_call 14; refine (rp_moved_nil _).mono ?_; rintro e x7 ⟨rfl, rfl⟩))
      all_goals
        rename_i hHeld
        have hbF := HB9.out.trans (hHeld.2.mono HB9.out.size)
        go_wp2_with fail
        go_ret
        exact ⟨rfl, hbF⟩

theorem rputSteps_walk (P T G : Int) (who p gr : Int) (nb : Bool) (E F : Option Addr) (m cp mp cq : Nat) (a v : Nat → Int) (Pks : Nat → Pk) (w : World) (hAw : ∀ w, Calls Tryz.prog 9 #[] w fun e w' => e = .returned (.bool true) ∧ Below w.heap.size w w') (hm : m ≤ 9223372036854775807) (hmp : mp ≤ 9223372036854775807) (hs : SeesP w w.heap.size E m a v) (hv : ∀ i, i < m → 0 ≤ v i ∧ v i ≤ 18446744073709551615) (hP : SeesC w w.heap.size F mp 6 (pkC Pks)) (hpv : ∀ j, j < mp → 0 ≤ (Pks j).v ∧ (Pks j).v ≤ 18446744073709551615) :
    Calls Tryz.prog 3 #[.agg #[.int .i64 P, .int .i64 T, .int .i64 G, .slice E m cp], .agg #[.int .i64 who, .int .i64 p, .int .i64 gr, .bool nb], .slice F mp cq] w fun e w' => e = .returned (.bool true) ∧ Below w.heap.size w w' := by
  by_cases h : (¬ FewC P T G ∨ 400 < m) ∨ 400 < mp ∨ p < 0 ∨ P ≤ p ∨ gr < 0 ∨ G ≤ gr ∨ who < 0 ∨ 300 < who
  · exact rputSteps_bad P T G who p gr nb E F m cp mp cq a v w hAw hm hmp hs hv h
  · exact rputSteps_ok P T G who p gr nb E F m cp mp cq a v Pks w hAw (by omega) (Decidable.byContradiction fun hf => h (.inl (.inl hf))) (by omega) hs hv hP hpv (by omega) (by omega) (by omega)
end Go.Proofs.YtggbohakpkplkaaGreat

namespace Go.Proofs.YtggbohakpkplkaaGreat
open Go Go.RowKit
set_option linter.unusedVariables false
set_option maxRecDepth 100000
set_option linter.unusedSimpArgs false

def rpaM : PM RpT := rpPM 0 1 0 (fun y => wd (20 + 1 * 264 + 1 * 3) 4 2 y 1)
def rpaS0 : St := fresh (fun _ => 0)
def rpaS1 : St := (rpaM.steps 0 295 2 (rpStart 2 true, rpaS0)).2
def rpaS2 : St := (rpaM.steps 0 295 9 (rpStart 3 true, rpaS1)).2
def rpaT : RpT := (rpaM.steps 0 295 9 (rpStart 3 true, rpaS1)).1
theorem rpa_first : (rpaM.ax (rpaM.steps 0 295 2 (rpStart 2 true, rpaS0)).1).isNone = true := by decide +kernel
theorem rpa_list : gsL 4 (rgsL 1 4 0 295 rpaS2) = [2, 3] := by decide +kernel
theorem rpa_right : (decide (rMany 1 0 295 rpaS2 ≤ 256) && (rgsL 1 4 0 295 rpaS2).all (gsOk 4)) = true := by decide +kernel
theorem rpa_done : (rpaM.ax rpaT).isNone = true := by decide +kernel
theorem rpa_holds : rpaT.holds = [] := by decide +kernel
theorem rpa_low1 : Low rpaS1 9 := (PM.steps_low rpaM 0 295 2 (rpStart 2 true, rpaS0) (low_fresh _)).more (by omega)

set_option maxHeartbeats 8000000 in
theorem rput_awake (w : World) : Calls Tryz.prog 9 #[] w fun e w' => e = .returned (.bool true) ∧ Below w.heap.size w w' := by
  have hL := lay_some 1 1 4 none 0 0 295 (fun _ => 0) (fun _ => 0) w (by omega) ⟨⟨by omega⟩, by omega, by omega, by omega⟩ (by omega) (fun h => absurd h (by omega)) (fun i h => absurd h (by omega))
  go_enter Tryz.func9, Tryz.ntmps9
  go_wp2_with fail
  go_at_call 8; refine hL.mono ?_; rintro e w1 ⟨cl, A, A', cap, cap', c, b, c', b', rfl, hLd⟩
  have HI1 : Hid (Is w1 126 A cap c b 295 rpaS0) := hLd.two.m
  have HY1 : Hid (Lay w1 cl 1 1 4) := hLd.lay
  have HB1 : Hid (Below w.heap.size w w1) := hLd.below
  have hne : Hid (cl ≠ c ∧ cl ≠ b) := lay_ne hLd.lay (by decide) hLd.two.m (by omega)
  have hup : Hid (w.heap.size ≤ c ∧ w.heap.size ≤ b) := ⟨hLd.up.2.1, hLd.up.2.2.1⟩
  have hGM : (((rpCp 0 (fun y => wd (20 + 1 * 264 + 1 * 3) 4 2 y 1) 1 1 4 0 cl).I)).Good rpaM := rp_good (by omega) (by omega) (by omega) (by omega)
  have HST : Hid (Steps rpaM ((rpCp 0 (fun y => wd (20 + 1 * 264 + 1 * 3) 4 2 y 1) 1 1 4 0 cl).I) (Rd.lay cl 1 1 4) 18 0) := rp_steps (by omega) (by omega) (by omega) (by omega)
  have HRF : Hid (c ∉ ((Rd.lay cl 1 1 4)).B ∧ b ∉ ((Rd.lay cl 1 1 4)).B) := ⟨fun h => hne.out.1 (List.mem_singleton.1 h).symm, fun h => hne.out.2 (List.mem_singleton.1 h).symm⟩
  have hNA := rp_new_at w1 cl 0 0 2 1 1 4 (fun y => wd (20 + 1 * 264 + 1 * 3) 4 2 y 1) true HY1.out (by omega)
  clear hL hLd hne
  go_wp2_with fail
  go_at_call 10; refine hNA.mono ?_; rintro e w2 ⟨xa, La, rfl, ha1, ha2, ha3, -⟩
  have HSA : Hid (Solo ((rpCp 0 (fun y => wd (20 + 1 * 264 + 1 * 3) 4 2 y 1) 1 1 4 0 cl).I) (Rd.lay cl 1 1 4) w w2 A cap c b 295 rpaS0 xa (rpStart 2 true) La) := Solo.begin HI1.out ha2 HB1.out hup.out ha1 ha3 HY1.out (fun k hk => by obtain rfl : k = cl := List.mem_singleton.1 hk; exact HY1.out.lt) HRF.out
  clear hNA ha1 ha2 ha3 HI1 HY1 HB1
  have hS1 := HSA.out.step hGM HST.out (fun Y h => h) (fun k hk => hk) (by omega) ((low_fresh _).more (by omega) : Low rpaS0 1000000)
  go_wp2_with fail
  go_at_call 18; refine hS1.mono ?_; rintro e w3 ⟨rfl, L1, hs1⟩
  have HS1 : Hid (Solo ((rpCp 0 (fun y => wd (20 + 1 * 264 + 1 * 3) 4 2 y 1) 1 1 4 0 cl).I) (Rd.lay cl 1 1 4) w w3 A cap c b 295 (rpaM.steps 0 295 1 (rpStart 2 true, rpaS0)).2 xa (rpaM.steps 0 295 1 (rpStart 2 true, rpaS0)).1 L1) := hs1
  clear hS1 hs1 HSA
  have hS2 := HS1.out.step hGM HST.out (fun Y h => h) (fun k hk => hk) (by omega) ((PM.steps_low rpaM 0 295 1 (rpStart 2 true, rpaS0) (low_fresh _)).more (by omega))
  rw [show rpaM.goT 295 (rpaM.steps 0 295 1 (rpStart 2 true, rpaS0)).1 (rpaM.steps 0 295 1 (rpStart 2 true, rpaS0)).2 = (rpaM.steps 0 295 2 (rpStart 2 true, rpaS0)).1 by rw [PM.steps_succ rpaM 0 295 1], show rpaM.goS 0 295 (rpaM.steps 0 295 1 (rpStart 2 true, rpaS0)).1 (rpaM.steps 0 295 1 (rpStart 2 true, rpaS0)).2 = rpaS1 by unfold rpaS1; rw [PM.steps_succ rpaM 0 295 1], rpa_first] at hS2
  go_wp2_with fail
  go_at_call 18; refine hS2.mono ?_; rintro e w4 ⟨rfl, L2, hs2⟩
  have HI4 : Hid (Is w4 126 A cap c b 295 rpaS1) := hs2.mem
  have HY4 : Hid (Lay w4 cl 1 1 4) := hs2.rd
  have HB4 : Hid (Below w.heap.size w w4) := hs2.below
  clear hS2 hs2 HS1
  have hNB := rp_new_at w4 cl 0 0 3 1 1 4 (fun y => wd (20 + 1 * 264 + 1 * 3) 4 2 y 1) true HY4.out (by omega)
  go_wp2_with fail
  go_at_call 10; refine hNB.mono ?_; rintro e w5 ⟨xb, Lb, rfl, hb1, hb2, hb3, -⟩
  have HSB : Hid (Solo ((rpCp 0 (fun y => wd (20 + 1 * 264 + 1 * 3) 4 2 y 1) 1 1 4 0 cl).I) (Rd.lay cl 1 1 4) w w5 A cap c b 295 (rpaM.steps 0 295 0 (rpStart 3 true, rpaS1)).2 xb (rpaM.steps 0 295 0 (rpStart 3 true, rpaS1)).1 Lb) := Solo.begin HI4.out hb2 HB4.out hup.out hb1 hb3 HY4.out (fun k hk => by obtain rfl : k = cl := List.mem_singleton.1 hk; exact HY4.out.lt) HRF.out
  clear hNB hb1 hb2 hb3 HI4 HY4 HB4
  go_wp2_with fail
  have HLO : Hid (∀ q : Nat, q ≤ 9 → Low (rpaM.steps 0 295 q (rpStart 3 true, rpaS1)).2 1000000) := fun q hq => (PM.steps_low rpaM 0 295 q (rpStart 3 true, rpaS1) rpa_low1).more (by omega)
  go_loopw [8] (fun k wi => ∃ (q : Nat) (L : List Nat), q ≤ 9 ∧ k = .int .i64 q ∧ Hid (Solo ((rpCp 0 (fun y => wd (20 + 1 * 264 + 1 * 3) 4 2 y 1) 1 1 4 0 cl).I) (Rd.lay cl 1 1 4) w wi A cap c b 295 (rpaM.steps 0 295 q (rpStart 3 true, rpaS1)).2 xb (rpaM.steps 0 295 q (rpStart 3 true, rpaS1)).1 L)) (fun k _ => 9 - (intOf k).toNat)
  case atStart => exact ⟨0, _, by omega, rfl, HSB⟩
  case round =>
    clear HSB
    obtain ⟨q, L, hq, rfl, HS⟩ := hrel
    by_cases hq9 : q < 9
    · have hSt := HS.out.step hGM HST.out (fun Y h => h) (fun k hk => hk) (by omega) (HLO.out q hq)
      rw [show rpaM.goS 0 295 (rpaM.steps 0 295 q (rpStart 3 true, rpaS1)).1 (rpaM.steps 0 295 q (rpStart 3 true, rpaS1)).2 = (rpaM.steps 0 295 (q + 1) (rpStart 3 true, rpaS1)).2 by rw [PM.steps_succ], show rpaM.goT 295 (rpaM.steps 0 295 q (rpStart 3 true, rpaS1)).1 (rpaM.steps 0 295 q (rpStart 3 true, rpaS1)).2 = (rpaM.steps 0 295 (q + 1) (rpStart 3 true, rpaS1)).1 by rw [PM.steps_succ]] at hSt
      have hq1 : (q : Int) < 9 := by omega
      have hq0 : (0 : Int) ≤ (q : Int) := by omega
      clear HS
      go_wp2_with fail
      go_at_call 18; refine hSt.mono ?_; rintro e w4 ⟨rfl, L', hS'⟩
      have HS' : Hid _ := hS'
      clear hSt hS'
      go_wp2_with fail
      go_roundw
      case rel => exact ⟨q + 1, L', by omega, by go_num, HS'⟩
      case measure => simp [intOf]; omega
    · obtain rfl : q = 9 := by omega
      clear HLO
      rw [show ((9 : Nat) : Int) = 9 from rfl]
      have HI6 : Hid (Is wr 126 A cap c b 295 rpaS2) := HS.out.mem
      have hGs := rgs_any wr cl 1 1 4 0 A cap c b 295 rpaS2 HS.out.rd (by omega) (by omega) HI6.out (by omega)
      rw [rpa_list, rpa_right] at hGs
      have HMX : Hid (∀ Y, Below wr.heap.size wr Y → ((rpCp 0 (fun y => wd (20 + 1 * 264 + 1 * 3) 4 2 y 1) 1 1 4 0 cl).I) Y xb rpaT L) := fun Y hY => hGM.below HS.out.mach hY
      have HBF : Hid (Below w.heap.size w wr) := HS.out.below
      clear HS HI6
      go_wp2_with fail
      go_at_call 50; refine hGs.mono ?_; rintro e w7 ⟨v, rfl, hv, hb7⟩
      have HV : Hid (RI.SeesL w7 v [2, 3]) := RI.IntsOn.sees hv
      have HB7 : Hid (Below wr.heap.size wr w7) := hb7
      have hD : Calls Tryz.prog 13 #[.pointer (some ⟨xb, 0, none⟩)] w7 fun e w' => e = .returned (.bool true) ∧ w7 = w' := by
        obtain ⟨nx, q1, q2⟩ := hGM.next (HMX.out w7 HB7.out)
        rw [rpa_done] at q2
        rw [← q2]
        exact done_rput w7 xb nx q1
      clear hGs hv hb7
      go_wp2_with fail
      go_at_call 13; refine hD.mono ?_; rintro e w8 ⟨rfl, rfl⟩
      clear hD
      have hSm := RI.lsame_any (w7.alloc (.cells #[.int .i64 2, .int .i64 3] 3)) v _ [2, 3] (by decide) (HV.out.below ((Below.refl _ _).alloc (Nat.le_refl _) _)) (lit2_sees w7 2 3)
      have HA8 : Hid (Below w7.heap.size w7 (w7.alloc (.cells #[.int .i64 2, .int .i64 3] 3))) := (Below.refl _ _).alloc (Nat.le_refl _) _
      go_wp2_with fail
      go_at_call 15; refine hSm.mono ?_; rintro e w9 ⟨rfl, hb9⟩
      have HB9 : Hid (Below wr.heap.size wr w9) := seq HB7.out (seq HA8.out hb9)
      have hHo := rp_holds (HMX.out w9 HB9.out)
      rw [rpa_holds] at hHo
      clear hSm hb9 HA8 HV HB7
      go_wp2_with fail
      go_at_call 16; refine hHo.mono ?_; rintro e w10 ⟨vh, rfl, hvh, hb10⟩
      obtain ⟨Ah, ch, rfl, -, -⟩ := hvh
      have HFF : Hid (Below w.heap.size w w10) := seq HBF.out (seq HB9.out hb10)
      clear hHo hb10
      go_wp2_with fail
      go_ret
      exact ⟨rfl, HFF.out⟩
end Go.Proofs.YtggbohakpkplkaaGreat

namespace Go.Proofs.YtggbohakpkplkaaGreat
open Go Go.ChangeShapes Go.WideShapes Go.ChangeAt Go.RowKit Go.Joins Go.Deep
set_option linter.unusedVariables false
set_option maxRecDepth 100000
set_option linter.unusedSimpArgs false
section
variable {H : Type} {enc : TypeId × Value → H} {P : Program} {W : World} {base b0 : Nat} {t : TypeId} {v : Value} {d : DataW H} {p : List MemPlace}
theorem open_what {f0 f1 f2 f3 : Field} (hs : P.underlying t = some (.struct #[f0, f1, f2, f3])) (hone : oneCellFields P #[f0, f1, f2, f3] = true) (hC : P.cellsOf t = 4) (u0 : P.underlying f0.type = some (.int .i64)) (u1 : P.underlying f1.type = some (.int .i64)) (u2 : P.underlying f2.type = some (.int .i64)) (u3 : P.underlying f3.type = some .bool)
    (hv : Value.okWide P W .any b0 t v) (h : DataW.Trod enc P W base (fun _ => true) true t v d p) :
    ∃ (a b a2 : Int) (c : Bool), v = .agg #[.int .i64 a, .int .i64 b, .int .i64 a2, .bool c] ∧ (-9223372036854775808 ≤ a ∧ a ≤ 9223372036854775807) ∧ (-9223372036854775808 ≤ b ∧ b ≤ 9223372036854775807) ∧ (-9223372036854775808 ≤ a2 ∧ a2 ≤ 9223372036854775807) := by
  obtain ⟨v0, v1, v2, v3, y0, y1, y2, y3, n, rfl, _, _, h0, h1, h2, h3⟩ := open_agg4 hs hone hC hv h
  obtain ⟨a, e0, _, wa⟩ := DataW.trod_int u0 h0
  obtain ⟨b, e1, _, wb⟩ := DataW.trod_int u1 h1
  obtain ⟨a2, e2, _, w2⟩ := DataW.trod_int u2 h2
  obtain ⟨c, e3, _⟩ := DataW.trod_bool u3 h3
  simp at e0 e1 e2 e3
  exact ⟨a, b, a2, c, by rw [e0, e1, e2, e3], bounds_i64 wa, bounds_i64 wb, bounds_i64 w2⟩
end
end Go.Proofs.YtggbohakpkplkaaGreat

namespace Go.Proofs.YtggbohakpkplkaaGreat
open Go Go.ChangeShapes Go.WideShapes Go.ChangeAt Go.RowKit

theorem below_trodAll {H : Type} {enc : TypeId × Value → H} {P : Program} (hl : laidOutB P = true) {W W' : World} (hb : Below W.heap.size W W') :
    ∀ (ts : List TypeId) (vs : List Value) (ds : List (DataW H)) (ps : List MemPlace), (ts.all fun t => P.readableRec t && decide (t < P.types.size)) = true →
      DataW.TrodAll enc P W 0 (fun _ => true) true ts vs ds ps → DataW.TrodAll enc P W' 0 (fun b => decide (b < W.heap.size)) true ts vs ds ps := by
  intro ts
  induction ts with
  | nil =>
    intro vs ds ps _ h
    cases vs <;> cases ds <;> first | exact h | exact (h : False).elim
  | cons t ts ih =>
    intro vs ds ps hall h
    cases vs with
    | nil => exact (h : False).elim
    | cons v vs =>
      cases ds with
      | nil => exact (h : False).elim
      | cons d ds =>
        obtain ⟨p, q, h1, h2, rfl⟩ := h
        simp only [List.all_cons, Bool.and_eq_true, decide_eq_true_eq] at hall
        have lt : ∀ x ∈ p, x.block < W.heap.size := by obtain ⟨m, hm⟩ := h1; exact DataW.trod_lt m _ _ _ hm
        exact ⟨p, q, Below.trod hl hall.1.1 hall.1.2 h1 hb lt, ih vs ds q hall.2 h2, rfl⟩

theorem law_post {H : Type} {enc : TypeId × Value → H} {P : Program} {f : Func} {s : ChangeSpec} {apart : Bool} {W W' : World} {args : Array Value} {ds gs : List (DataW H)} {before : List MemPlace} {bt : TypeId}
    (hl : laidOutB P = true) (hr : f.resultTypes.toList = [bt]) (hbt : P.underlying bt = some .bool) (hts : (f.params.toList.all fun t => P.readableRec t && decide (t < P.types.size)) = true)
    (hvars : s.vars = []) (hres : (s.fn H ds).results = [.lit (.bool true)]) (harg : (s.fn H ds).args = ds) (hvs : (s.fn H ds).vars = [])
    (hW : DataW.Whole enc P f.params.toList s.vars apart W args.toList ds gs before) (hb : Below W.heap.size W W') :
    s.post enc P f apart true false false W args (.bool true) W' := by
  have hW' := hW
  obtain ⟨p, q, hA, hV, rfl, hfz, hnd⟩ := hW
  have hg : gs = [] ∧ q = [] := by rw [hvars] at hV; exact trodVars_none hV
  obtain ⟨rfl, rfl⟩ := hg
  refine ⟨ds, [], _, [], p, [], hW', ?_, ?_, ?_, hb.frame _, fun h => by cases h⟩
  · have e : (Value.bool true).resultList f.resultTypes.size = [.bool true] := by
      have hs : f.resultTypes.size = 1 := by rw [← Array.length_toList, hr]; rfl
      rw [hs]; rfl
    rw [List.append_nil, hres, hr, e]
    exact trodAll_mk1 (shut_bool hbt _)
  · rw [List.append_nil, harg]
    exact below_trodAll hl hb _ _ _ _ hts hA
  · rw [List.append_nil, hvs, hvars]
    rfl
end Go.Proofs.YtggbohakpkplkaaGreat

namespace Go.Proofs.YtggbohakpkplkaaGreat
open Go Go.ChangeShapes Go.WideShapes Go.ChangeAt Go.RowKit Go.Joins
set_option linter.unusedVariables false
set_option linter.unusedSimpArgs false

theorem own_rputSteps : ownKnob Tryz.prog.godebug = none := by kernel_rfl
theorem laidOut_rputSteps : laidOutB Tryz.prog = true := by kernel_rfl

set_option maxRecDepth 100000 in
theorem lifted_rputSteps (os : Os) (started : os.Started) (H : Type) (enc : TypeId × Value → H) :
    ReturnsInHanded {} Tryz.checked os 3 .any (Rows.rputStepsSpec.pre6 enc Tryz.prog Tryz.f3 Rows.rputStepsRow.domain false) (Rows.rputStepsSpec.post enc Tryz.prog Tryz.f3 false true false false) := by
  refine returnsInHanded_of_change (C := Tryz.checked) own_rputSteps started (by kernel_rfl) Tryz.func3
    (ChangeSpec.witness6 (enc := enc) (C := Tryz.checked) false ⟨#[], #[.agg #[.int .i64 0, .int .i64 0, .int .i64 0, .slice none 0 0], .agg #[.int .i64 0, .int .i64 0, .int .i64 0, .bool false], .slice none 0 0], []⟩ 8 (by kernel_rfl) (by kernel_rfl) (by kernel_rfl) (by kernel_rfl)) ?_
  intro W base args ds gs before hval0 hW hcnd _
  have hval : ∀ (j : Nat) t v, Tryz.f3.params[j]? = some t → args[j]? = some v → Value.okWide Tryz.prog W .any base t v := hval0
  have hW' := hW
  obtain ⟨p, q, hA0, hV, rfl, hfz, hnd⟩ := hW
  have hA : DataW.TrodAll enc Tryz.prog W 0 (fun _ => true) true Tryz.f3.params.toList args.toList ds p := hA0
  rw [Tryz.params3] at hA hval
  obtain ⟨v0, vs0, d0, ds0, p0, q0, hargs, rfl, rfl, h0, r0⟩ := trodAll_cons hA
  obtain ⟨v1, vs1, d1, ds1, p1, q1, rfl, rfl, rfl, h1, r1⟩ := trodAll_cons r0
  obtain ⟨v2, vs2, d2, ds2, p2, q2, rfl, rfl, rfl, h2, r2⟩ := trodAll_cons r1
  obtain ⟨rfl, rfl, rfl⟩ := trodAll_nil r2
  obtain rfl : args = #[v0, v1, v2] := by cases args; simp_all
  obtain ⟨P, T, G, E, m, cp, a, x, rfl, hm, hs, hx⟩ := open_ground (hval 0 26 v0 rfl rfl) h0
  unfold maxLen at hm
  obtain ⟨x0, x1, x2, fr, rfl, bx0, bx1, bx2⟩ := open_what Tryz.underlying28 (by kernel_rfl) (by kernel_rfl) Tryz.underlying3 Tryz.underlying3 Tryz.underlying3 Tryz.underlying4 (hval 1 28 v1 rfl rfl) h1
  obtain ⟨F, mp, cq, Pks, rfl, hmp, hP, hpv⟩ := open_pokes (hval 2 29 v2 rfl rfl) h2
  unfold maxLen at hmp
  clear hA0 hval0
  refine (rputSteps_walk P T G x0 x1 x2 fr E F m cp mp cq a x Pks W rput_awake (by omega) (by omega) hs hx hP hpv).mono fun e W' ⟨he, hb⟩ => ?_
  subst he
  exact ⟨_, rfl, law_post laidOut_rputSteps rfl Tryz.underlying4 (by kernel_rfl) rfl rfl rfl rfl hW' hb⟩

theorem rputSteps_holds : Rows.RputStepsSaid :=
  OpenClaim.holds_of_wide 3 Tryz.f3 rfl rfl rfl rfl rfl rfl rfl ⟨rfl, rfl, rfl, rfl, rfl⟩ rfl rfl rfl rfl rfl (by kernel_rfl) Tryz.func3 (by kernel_rfl)
    (of_decide_eq_true (by kernel_rfl)) (by unfold Func.isWrapper; first | (rw [if_pos (by decide +kernel)]; kernel_rfl) | (rw [if_neg (by decide +kernel)]; exact ⟨rfl, rfl⟩))
    (fun os started H enc _ => lifted_rputSteps os started H enc)
#print axioms rputSteps_holds
end Go.Proofs.YtggbohakpkplkaaGreat
