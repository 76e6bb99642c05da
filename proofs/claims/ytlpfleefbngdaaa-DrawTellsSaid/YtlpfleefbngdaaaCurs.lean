/- A cursor in memory: its list, and how many words were told. -/
import Derived.Test.YtlpfleefbngdaaaRows
import Derived.WalkKit
import Derived.WalkSpells
import Derived.Handy
import Derived.Deep.QuietTactic
import Derived.BigQuiet
namespace Go.Proofs.Ytlpfleefbngdaaa
open Go Go.RowKit
set_option linter.unusedVariables false

theorem ret_int {k : IntKind} {a b : Int} (h : a = b) : Ending.returned (.int k a) = .returned (.int k b) := by rw [h]
theorem ret_bool {a b : Bool} (h : a = b) : Ending.returned (.bool a) = .returned (.bool b) := by rw [h]
theorem drewN_size (w : World) (n : Nat) : (w.drewN n).heap.size = w.heap.size := rfl
theorem Below.drewN' {B : Nat} {a w : World} (h : Below B a w) (n : Nat) : Below B a (w.drewN n) := ⟨h.os, h.tape, h.output, h.size, h.block⟩
theorem cell_lt {w : World} {b o : Nat} {v : Value} (h : w.cell? ⟨b, o, none⟩ = some v) : b < w.heap.size := by
  rcases Nat.lt_or_ge b w.heap.size with l | l
  · exact l
  · simp [World.cell?, Array.getElem?_eq_none l] at h
theorem block_lt {w : World} {b : Nat} {o : Obj} (h : w.heap[b]? = some o) : b < w.heap.size := by
  rcases Nat.lt_or_ge b w.heap.size with l | l
  · exact l
  · rw [Array.getElem?_eq_none l] at h; cases h

/-- Of all that was there only block c may be another; blocks may have come. -/
structure But (c : Nat) (w w' : World) : Prop where
  os : w'.os = w.os
  tape : w'.tape = w.tape
  output : w'.output = w.output
  size : w.heap.size ≤ w'.heap.size
  block : ∀ k, k < w.heap.size → k ≠ c → w'.heap[k]? = w.heap[k]?
theorem But.refl (c : Nat) (w : World) : But c w w := ⟨rfl, rfl, rfl, Nat.le_refl _, fun _ _ _ => rfl⟩
theorem But.trans {c : Nat} {x y z : World} (h : But c x y) (k : But c y z) : But c x z :=
  ⟨k.os.trans h.os, k.tape.trans h.tape, k.output.trans h.output, Nat.le_trans h.size k.size, fun i hi hc => (k.block i (Nat.lt_of_lt_of_le hi h.size) hc).trans (h.block i hi hc)⟩
theorem But.of_below {c : Nat} {w w' : World} (h : Below w.heap.size w w') : But c w w' := ⟨h.os, h.tape, h.output, h.size, fun k hk _ => h.block k hk⟩
theorem But.below {c B : Nat} {w w' : World} (h : But c w w') (hc : B ≤ c) (hB : B ≤ w.heap.size) : Below B w w' := ⟨h.os, h.tape, h.output, h.size, fun k hk => h.block k (by omega) (by omega)⟩
theorem But.drewN {c : Nat} {a w : World} (h : But c a w) (n : Nat) : But c a (w.drewN n) := ⟨h.os, h.tape, h.output, h.size, h.block⟩
theorem But.set {c : Nat} {a w : World} (h : But c a w) (i : Nat) (u : Value) : But c a (w.setCell ⟨c, i, none⟩ u) :=
  h.trans ⟨rfl, rfl, rfl, by simp [World.setCell], fun k hk hc => Below.heap_setCell _ _ _ _ (by simpa using hc)⟩
theorem But.alloc {c : Nat} {a w : World} (h : But c a w) (o : Obj) : But c a (w.alloc o) := h.trans (But.of_below ((Below.refl _ _).alloc (Nat.le_refl _) o))

/-- The word that the i-th Next tells. -/
def wordAt (f : Nat → Int) (n i : Nat) : Int := if i < n then f i else 0

/-- The cursor at block c: the words of f below n, T of them (or more) told; its words lie from block B on, ahead of c. -/
def Curs (w : World) (B c : Nat) (f : Nat → Int) (n T : Nat) : Prop :=
  ∃ (A : Option Addr) (cap : Nat), w.heap[c]? = some (.cells #[.slice A (n - T) cap, .int .i64 T] 44 (0, 0)) ∧ n - T ≤ cap ∧ cap ≤ maxLen ∧
    (0 < n - T → ∃ b off : Nat, A = some ⟨b, off, none⟩ ∧ B ≤ b ∧ b < c ∧ ∀ i, i < n - T → w.cell? ⟨b, off + i, none⟩ = some (.int .u64 (f (T + i))))
theorem Curs.lt {w : World} {B c : Nat} {f : Nat → Int} {n T : Nat} (h : Curs w B c f n T) : c < w.heap.size := by
  obtain ⟨A, cap, hh, _⟩ := h
  exact block_lt hh
/-- A cursor is kept where neither its block nor those of its words are turned. -/
theorem Curs.keep {w w' : World} {B c : Nat} {f : Nat → Int} {n T : Nat} (h : Curs w B c f n T) (hk : ∀ k, B ≤ k ∨ k = c → k ≤ c → w'.heap[k]? = w.heap[k]?) : Curs w' B c f n T := by
  obtain ⟨A, cap, hh, h1, h2, h3⟩ := h
  refine ⟨A, cap, (hk c (Or.inr rfl) (Nat.le_refl _)).trans hh, h1, h2, fun hn => ?_⟩
  obtain ⟨b, off, e, hB, hbc, hcell⟩ := h3 hn
  exact ⟨b, off, e, hB, hbc, fun i hi => (World.cell?_of_block (w := w) (hk b (Or.inl hB) (Nat.le_of_lt hbc))).trans (hcell i hi)⟩
theorem Curs.below {w w' : World} {B B' c : Nat} {f : Nat → Int} {n T : Nat} (h : Curs w B c f n T) (hb : Below B' w w') (hc : c < B') : Curs w' B c f n T :=
  h.keep fun k _ hk => hb.block k (by omega)
/-- .. behind a change of another cursor's block. -/
theorem Curs.but {w w' : World} {B c d : Nat} {f : Nat → Int} {n T : Nat} (h : Curs w B c f n T) (hb : But d w w') (hd : c < d ∨ (d < B ∧ d < c)) : Curs w' B c f n T :=
  h.keep fun k h1 hk => hb.block k (by have := h.lt; omega) (by omega)

end Go.Proofs.Ytlpfleefbngdaaa
