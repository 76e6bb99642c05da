/- The contract of the law's helper 'does'. -/
import Derived.Test.YtlpfleefbngdaaaDoes
namespace Go.Proofs.Ytlpfleefbngdaaa
open Go Go.RowKit
set_option linter.unusedVariables false
set_option linter.unusedSimpArgs false

/-- The reference's cursor at block r. -/
def RefC (w : World) (r : Nat) (A : Option Addr) (n cap T : Nat) : Prop := w.heap[r]? = some (.cells #[.slice A n cap, .int .i64 T] 28 (0, 0))
section
variable {w w' : World} {r n cap T : Nat} {A : Option Addr}
theorem RefC.lt (h : RefC w r A n cap T) : r < w.heap.size := block_lt h
theorem RefC.c0 (h : RefC w r A n cap T) : w.cell? ⟨r, 0, none⟩ = some (.slice A n cap) := by unfold RefC at h; simp [World.cell?, h]
theorem RefC.c1 (h : RefC w r A n cap T) : w.cell? ⟨r, 1, none⟩ = some (.int .i64 T) := by unfold RefC at h; simp [World.cell?, h]
theorem RefC.z (h : RefC w r A n cap T) (i : Nat) : w.frozen? ⟨r, i, none⟩ = false := by unfold RefC at h; simp [World.frozen?, h]
theorem RefC.below {B : Nat} (h : RefC w r A n cap T) (hb : Below B w w') (hr : r < B) : RefC w' r A n cap T := (hb.block r hr).trans h
theorem RefC.but {c : Nat} (h : RefC w r A n cap T) (hb : But c w w') (hr : r ≠ c) : RefC w' r A n cap T := (hb.block r h.lt hr).trans h
theorem RefC.set (h : RefC w r A n cap T) (k : Nat) : RefC (w.setCell ⟨r, 1, none⟩ (.int .i64 ((T : Int) + k))) r A n cap (T + k) := by
  have := heap_set h 1 (.int .i64 ((T : Int) + k))
  have e : ((T + k : Nat) : Int) = (T : Int) + k := by omega
  unfold RefC
  rw [e]
  exact this
end

/-- Where cursor and reference stand. -/
structure Both (w : World) (W Bc c r : Nat) (A : Option Addr) (f : Nat → Int) (n cap T : Nat) : Prop where
  cur : Curs w Bc c f n T
  ref : RefC w r A n cap T
  sees : SeesU w W A n f
  wb : W ≤ Bc
  bc : Bc ≤ c
  cr : c < r
theorem Both.below {w w' : World} {W Bc c r : Nat} {A : Option Addr} {f : Nat → Int} {n cap T : Nat} (h : Both w W Bc c r A f n cap T) (hb : Below w.heap.size w w') : Both w' W Bc c r A f n cap T :=
  ⟨h.cur.below hb h.cur.lt, h.ref.below hb h.ref.lt, h.sees.below hb (by have := h.ref.lt; have := h.wb; have := h.bc; have := h.cr; omega), h.wb, h.bc, h.cr⟩
theorem Both.wlt {w : World} {W Bc c r : Nat} {A : Option Addr} {f : Nat → Int} {n cap T : Nat} (h : Both w W Bc c r A f n cap T) : W ≤ w.heap.size := by have := h.ref.lt; have := h.wb; have := h.bc; have := h.cr; omega

theorem peekV_zero (f : Nat → Int) (n T : Nat) : peekV f n T 0 = wordAt f n T := by
  unfold peekV wordAt
  rw [if_neg (by omega)]
  by_cases h : T < n
  · rw [if_pos h, if_pos (by omega)]; simp
  · rw [if_neg h, if_neg (by omega)]

/-- What 'does' leaves. -/
def Did (w : World) (W Bc c r : Nat) (A : Option Addr) (f : Nat → Int) (n cap T : Nat) (e : Ending) (w' : World) : Prop :=
  e = .returned (.bool true) ∧ ∃ T', T ≤ T' ∧ T' ≤ T + 100 ∧ Both w' W Bc c r A f n cap T' ∧ Below W w w'

/-- The box of the act, and the first look ahead. -/
theorem does_begin (w : World) (W Bc c r : Nat) (A : Option Addr) (f : Nat → Int) (n cap T : Nat) (hn : n ≤ 100) (hT : T ≤ 20000) (h : Both w W Bc c r A f n cap T) (k N : Int) :
    Calls Try.prog 17 #[.agg #[.slice A n cap, .int .i64 T], .int .i64 0] (w.alloc (.cells #[.int .i64 k, .int .i64 N] 32)) fun e w' => e = .returned (.int .u64 (wordAt f n T)) ∧
      Both w' W Bc c r A f n cap T ∧ Below w.heap.size w w' ∧ w'.cell? ⟨w.heap.size, 0, none⟩ = some (.int .i64 k) ∧ w'.cell? ⟨w.heap.size, 1, none⟩ = some (.int .i64 N) ∧ w.heap.size < w'.heap.size := by
  have hB0 := box2 w (.int .i64 k) (.int .i64 N) 32
  have h0 := h.below hB0
  refine (refPeek_any A n cap T 0 f _ (by omega) (by omega) (h0.sees.more h0.wlt)).mono ?_
  rintro e w' ⟨rfl, hb⟩
  rw [peekV_zero]
  have hs : w.heap.size < (w.alloc (.cells #[.int .i64 k, .int .i64 N] 32)).heap.size := by simp
  refine ⟨rfl, h0.below hb, hB0.trans (hb.mono (Nat.le_of_lt hs)), ?_, ?_, Nat.lt_of_lt_of_le hs hb.size⟩
  · rw [hb.cell (p := ⟨w.heap.size, 0, none⟩) hs]; simp [go_sem]
  · rw [hb.cell (p := ⟨w.heap.size, 1, none⟩) hs]; simp [go_sem]

theorem told_more {w : World} {W Bc c r : Nat} {A : Option Addr} {f : Nat → Int} {n cap T : Nat} (h : Both w W Bc c r A f n cap T) (k : Nat) :
    Curs (w.setCell ⟨r, 1, none⟩ (.int .i64 ((T : Int) + k))) Bc c f n T ∧ RefC (w.setCell ⟨r, 1, none⟩ (.int .i64 ((T : Int) + k))) r A n cap (T + k) ∧
      SeesU (w.setCell ⟨r, 1, none⟩ (.int .i64 ((T : Int) + k))) W A n f ∧ Below W w (w.setCell ⟨r, 1, none⟩ (.int .i64 ((T : Int) + k))) := by
  have hw : W ≤ r := by have := h.wb; have := h.bc; have := h.cr; omega
  have hb : But r w (w.setCell ⟨r, 1, none⟩ (.int .i64 ((T : Int) + k))) := (But.refl r w).set 1 _
  have hB := hb.below hw h.wlt
  exact ⟨h.cur.but hb (Or.inl h.cr), h.ref.set k, h.sees.below hB (Nat.le_refl _), hB⟩
/-- .. and then the cursor went as far. -/
theorem both_again {w w1 w2 : World} {W Bc c r : Nat} {A : Option Addr} {f : Nat → Int} {n cap T T' : Nat} (h : Both w W Bc c r A f n cap T) (hR : RefC w1 r A n cap T') (hS : SeesU w1 W A n f) (hW : W ≤ w1.heap.size)
    (hC : Curs w2 Bc c f n T') (hb : But c w1 w2) : Both w2 W Bc c r A f n cap T' ∧ Below W w1 w2 := by
  have hB := hb.below (B := W) (by have := h.wb; have := h.bc; omega) hW
  exact ⟨⟨hC, hR.but hb (by have := h.cr; omega), hS.below hB (Nat.le_refl _), h.wb, h.bc, h.cr⟩, hB⟩

section
variable (w : World) (W Bc c r : Nat) (A : Option Addr) (f : Nat → Int) (n cap T : Nat)
set_option maxRecDepth 100000

theorem does_next (hn : n ≤ 100) (hT : T ≤ 20000) (N : Int) (h : Both w W Bc c r A f n cap T) :
    Calls Try.prog 8 #[.pointer (some ⟨c, 0, none⟩), .pointer (some ⟨r, 0, none⟩), .agg #[.int .i64 0, .int .i64 N]] w (Did w W Bc c r A f n cap T) := by
  have H : Hid (Both w W Bc c r A f n cap T) := h
  have c0 := (h.below (box2 w (.int .i64 0) (.int .i64 N) 32)).ref.c0
  have c1 := (h.below (box2 w (.int .i64 0) (.int .i64 N) 32)).ref.c1
  have hw := h.wlt
  clear h
  go_enter Try.func8, Try.ntmps8
  go_wp2_with fail
  go_at_call 17; refine (does_begin w W Bc c r A f n cap T hn hT H.out 0 N).mono ?_; rintro e w1 ⟨rfl, hB1, hb1, a0, a1, hs1⟩
  clear c0 c1
  have c1 := hB1.ref.c1
  have z1 := hB1.ref.z 1
  have hM := told_more hB1 1
  go_wp2_with fail
  go_at_call 12; refine (next_any _ _ c f n T hM.1 (by omega) (by omega)).mono ?_; rintro e w2 ⟨rfl, hC2, hbt⟩
  have hE := both_again hB1 hM.2.1 hM.2.2.1 (by have := hB1.wlt; simpa [World.setCell] using this) hC2 hbt
  have hBe := (hb1.mono hw).trans (hM.2.2.2.trans hE.2)
  clear hM c1 z1 a0 a1 hbt hC2
  go_wp2_with fail
  go_ret
  exact ⟨rfl, T + 1, by omega, by omega, hE.1, hBe⟩
end
end Go.Proofs.Ytlpfleefbngdaaa
