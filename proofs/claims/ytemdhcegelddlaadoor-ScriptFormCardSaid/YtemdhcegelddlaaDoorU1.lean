/- Small laws of worlds. -/
import Derived.Test.YtemdhcegelddlaaDoorSp
import Derived.Test.YtemdhcegelddlaaDoorRb
import Derived.Laws.Concat
namespace Go.Proofs.YtemdhcegelddlaaDoor
open Go Go.RowKit
set_option linter.unusedVariables false
set_option linter.unusedSimpArgs false

/-- bytes as a string -/
def bA (l : List UInt8) : ByteArray := ⟨l.toArray⟩
theorem bA_append (a b : List UInt8) : bA a ++ bA b = bA (a ++ b) := by unfold bA; first | (rw [ByteArray.mk_append_mk]; done) | (rw [ByteArray.mk_append_mk]; simp)
theorem bA_size (a : List UInt8) : (bA a).size = a.length := by simp [bA, ByteArray.size]
theorem dB_eq (n : Nat) : dB n = bA (Lib.decDigits n) := rfl
theorem dig_len (n : Nat) (h : n ≤ 99999) : (Lib.decDigits n).length ≤ 20 := by
  have := dB_size n (by omega)
  rw [dB_eq, bA_size] at this
  exact this
theorem add_run (a b : List UInt8) (h : a.length + b.length ≤ 1000000000) (x : World) : (Op.stringOp .add (bA a) (bA b)).run Tryd.prog x = .ok (.string (bA (a ++ b))) x := by
  rw [run_string_add_sum x _ _ (by rw [bA_size, bA_size]; omega), bA_append]
theorem cell_lt {w : World} {b o : Nat} {v : Value} (h : w.cell? ⟨b, o, none⟩ = some v) : b < w.heap.size := by
  rcases Nat.lt_or_ge b w.heap.size with l | l
  · exact l
  · simp [World.cell?, Array.getElem?_eq_none l] at h
theorem block_lt {w : World} {b : Nat} {o : Obj} (h : w.heap[b]? = some o) : b < w.heap.size := by
  rcases Nat.lt_or_ge b w.heap.size with l | l
  · exact l
  · rw [Array.getElem?_eq_none l] at h; cases h
theorem heap_set {w : World} {g : Nat} {cs : Array Value} {t : TypeId} {fr : Nat × Nat} (h : w.heap[g]? = some (.cells cs t fr)) (i : Nat) (u : Value) : (w.setCell ⟨g, i, none⟩ u).heap[g]? = some (.cells (cs.setIfInBounds i u) t fr) := by
  have hlt := block_lt h
  show (w.heap.modify g _)[g]? = _
  rw [Array.getElem?_eq_getElem (by rw [Array.size_modify]; exact hlt), Array.getElem_modify_self, (Array.getElem?_eq_some_iff.1 h).2]
  rfl
theorem heap_set_ne (w : World) {k g : Nat} (h : k ≠ g) (i : Nat) (u : Value) : (w.setCell ⟨g, i, none⟩ u).heap[k]? = w.heap[k]? := Below.heap_setCell _ _ _ _ (by simpa using h)
theorem size_set (w : World) (p : Addr) (u : Value) : (w.setCell p u).heap.size = w.heap.size := by simp [World.setCell]
theorem heap_al (w : World) {k : Nat} (h : k < w.heap.size) (o : Obj) : (w.alloc o).heap[k]? = w.heap[k]? := Below.heap_alloc w o k h
theorem size_al (w : World) (o : Obj) : (w.alloc o).heap.size = w.heap.size + 1 := by simp
theorem cell_blk {w : World} {b : Nat} {cs : Array Value} {T : TypeId} {fr : Nat × Nat} (h : w.heap[b]? = some (.cells cs T fr)) (i : Nat) : w.cell? ⟨b, i, none⟩ = cs[i]? := by simp [World.cell?, h]
theorem bA_of (s : ByteArray) (l : List UInt8) (h : s.data.toList = l) : s = bA l := by
  subst h
  obtain ⟨⟨a⟩⟩ := s
  rfl
theorem bA_data (l : List UInt8) : (bA l).data.toList = l := by simp [bA]
theorem bA_list (a : List UInt8) : (bA a).toList = a := by rw [Lib.toList_data]; simp [bA]
theorem bA_beq (a b : List UInt8) : ((bA a).toList == (bA b).toList) = (a == b) := by rw [bA_list, bA_list]
theorem Kt.refl (T : Nat → Prop) (w : World) : Kt T w w := ⟨rfl, rfl, rfl, Nat.le_refl _, fun _ _ _ => rfl⟩
theorem Kt.trans {T : Nat → Prop} {x y z : World} (h : Kt T x y) (k : Kt T y z) : Kt T x z :=
  ⟨k.os.trans h.os, k.tape.trans h.tape, k.output.trans h.output, Nat.le_trans h.size k.size, fun i hi hc => (k.block i (Nat.lt_of_lt_of_le hi h.size) hc).trans (h.block i hi hc)⟩
theorem Kt.of_below {T : Nat → Prop} {w w' : World} (h : Below w.heap.size w w') : Kt T w w' := ⟨h.os, h.tape, h.output, h.size, fun k hk _ => h.block k hk⟩
theorem Kt.drew {T : Nat → Prop} {a w : World} (h : Kt T a w) : Kt T a w.drew := ⟨h.os, h.tape, h.output, h.size, h.block⟩
theorem Kt.drewN {T : Nat → Prop} {a w : World} (h : Kt T a w) (n : Nat) : Kt T a (w.drewN n) := ⟨h.os, h.tape, h.output, h.size, h.block⟩
theorem Kt.set {T : Nat → Prop} {a w : World} (h : Kt T a w) {g : Nat} (hg : T g ∨ a.heap.size ≤ g) (i : Nat) (u : Value) : Kt T a (w.setCell ⟨g, i, none⟩ u) :=
  ⟨h.os, h.tape, h.output, by rw [size_set]; exact h.size, fun k hk hc => (heap_set_ne w (by rintro rfl; rcases hg with hg | hg; exact hc hg; omega) i u).trans (h.block k hk hc)⟩
theorem Kt.wide {T T' : Nat → Prop} {x y : World} (h : Kt T x y) (hs : ∀ k, k < x.heap.size → T k → T' k) : Kt T' x y :=
  ⟨h.os, h.tape, h.output, h.size, fun k hk hc => h.block k hk (fun hm => hc (hs k hk hm))⟩
theorem Kt.below {T : Nat → Prop} {B : Nat} {w w' : World} (h : Kt T w w') (hl : ∀ k, T k → B ≤ k) (hB : B ≤ w.heap.size) : Below B w w' :=
  ⟨h.os, h.tape, h.output, h.size, fun k hk => h.block k (by omega) (fun hm => absurd (hl k hm) (by omega))⟩
end Go.Proofs.YtemdhcegelddlaaDoor
