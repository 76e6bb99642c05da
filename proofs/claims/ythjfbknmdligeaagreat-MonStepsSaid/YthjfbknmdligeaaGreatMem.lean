/- A memory of words in the heap, of the program's and of the reference's make: its words, clock, count of bad accesses and last access. -/
import Derived.Test.YthjfbknmdligeaaGreatRows
import Derived.WalkKit
import Derived.WalkSpells
import Derived.Handy
import Derived.Deep.QuietTactic
import Derived.BigQuiet
import Derived.BigRegion
import Derived.RegionCalls
import Derived.Deep.RegionHeld3
namespace Go.Proofs.YthjfbknmdligeaaGreat
open Go Go.RowKit
set_option linter.unusedVariables false
set_option maxRecDepth 100000

theorem ret_int {k : IntKind} {a b : Int} (h : a = b) : Ending.returned (.int k a) = .returned (.int k b) := by rw [h]
theorem ret_bool {a b : Bool} (h : a = b) : Ending.returned (.bool a) = .returned (.bool b) := by rw [h]
theorem cell_lt {w : World} {b o : Nat} {v : Value} (h : w.cell? ⟨b, o, none⟩ = some v) : b < w.heap.size := by
  rcases Nat.lt_or_ge b w.heap.size with l | l
  · exact l
  · simp [World.cell?, Array.getElem?_eq_none l] at h
theorem block_lt {w : World} {b : Nat} {o : Obj} (h : w.heap[b]? = some o) : b < w.heap.size := by
  rcases Nat.lt_or_ge b w.heap.size with l | l
  · exact l
  · rw [Array.getElem?_eq_none l] at h; cases h
theorem heap_set {w : World} {g : Nat} {cs : Array Value} {t : TypeId} {fr : Nat × Nat} (h : w.heap[g]? = some (.cells cs t fr)) (i : Nat) (u : Value) : (w.setCell ⟨g, i, none⟩ u).heap[g]? = some (.cells (cs.setIfInBounds i u) t fr) := by
  have hlt := block_lt h
  show (w.heap.modify g _)[g]? = _
  rw [Array.getElem?_eq_getElem (by rw [Array.size_modify]; exact hlt), Array.getElem_modify_self, (Array.getElem?_eq_some_iff.1 h).2]
  rfl
theorem heap_set_ne (w : World) {k g : Nat} (h : k ≠ g) (i : Nat) (u : Value) : (w.setCell ⟨g, i, none⟩ u).heap[k]? = w.heap[k]? := Below.heap_setCell _ _ _ _ (by simpa using h)
theorem size_set (w : World) (p : Addr) (u : Value) : (w.setCell p u).heap.size = w.heap.size := by simp [World.setCell]
theorem heap_al (w : World) {k : Nat} (h : k < w.heap.size) (o : Obj) : (w.alloc o).heap[k]? = w.heap[k]? := Below.heap_alloc w o k h

/-- Of all that was there only the blocks of l may be others; blocks may have come. -/
structure But (l : List Nat) (w w' : World) : Prop where
  os : w'.os = w.os
  tape : w'.tape = w.tape
  output : w'.output = w.output
  size : w.heap.size ≤ w'.heap.size
  block : ∀ k, k < w.heap.size → k ∉ l → w'.heap[k]? = w.heap[k]?
theorem But.refl (l : List Nat) (w : World) : But l w w := ⟨rfl, rfl, rfl, Nat.le_refl _, fun _ _ _ => rfl⟩
theorem But.trans {l : List Nat} {x y z : World} (h : But l x y) (k : But l y z) : But l x z :=
  ⟨k.os.trans h.os, k.tape.trans h.tape, k.output.trans h.output, Nat.le_trans h.size k.size, fun i hi hc => (k.block i (Nat.lt_of_lt_of_le hi h.size) hc).trans (h.block i hi hc)⟩
theorem But.more {l l' : List Nat} {x y : World} (h : But l x y) (hs : ∀ k, k < x.heap.size → k ∈ l → k ∈ l') : But l' x y :=
  ⟨h.os, h.tape, h.output, h.size, fun k hk hc => h.block k hk (fun hm => hc (hs k hk hm))⟩
theorem But.of_below {l : List Nat} {w w' : World} (h : Below w.heap.size w w') : But l w w' := ⟨h.os, h.tape, h.output, h.size, fun k hk _ => h.block k hk⟩
theorem But.below {l : List Nat} {B : Nat} {w w' : World} (h : But l w w') (hl : ∀ k ∈ l, B ≤ k) (hB : B ≤ w.heap.size) : Below B w w' :=
  ⟨h.os, h.tape, h.output, h.size, fun k hk => h.block k (by omega) (fun hm => absurd (hl k hm) (by omega))⟩
theorem But.drew {l : List Nat} {a w : World} (h : But l a w) : But l a w.drew := ⟨h.os, h.tape, h.output, h.size, h.block⟩
theorem But.drewN {l : List Nat} {a w : World} (h : But l a w) (n : Nat) : But l a (w.drewN n) := ⟨h.os, h.tape, h.output, h.size, h.block⟩
theorem But.set {l : List Nat} {a w : World} (h : But l a w) {g : Nat} (hg : g ∈ l ∨ a.heap.size ≤ g) (i : Nat) (u : Value) : But l a (w.setCell ⟨g, i, none⟩ u) :=
  ⟨h.os, h.tape, h.output, by rw [size_set]; exact h.size, fun k hk hc => (heap_set_ne w (by rintro rfl; rcases hg with hg | hg; exact hc hg; omega) i u).trans (h.block k hk hc)⟩
theorem But.alloc {l : List Nat} {a w : World} (h : But l a w) (o : Obj) : But l a (w.alloc o) := h.trans (But.of_below ((Below.refl _ _).alloc (Nat.le_refl _) o))

/-- The state of a memory: its words, clock, count of bad accesses, and the last access. -/
structure St where
  f : Nat → Int
  clock : Int
  bad : Int
  kind : Int
  who : Int
  at' : Int
  old : Int
  new : Int
  done : Bool

/-- The words of a memory at block b. -/
def Words (w : World) (b n : Nat) (f : Nat → Int) : Prop := ∃ cs : Array Value, w.heap[b]? = some (.cells cs 41 (0, 0)) ∧ ∀ i, i < n → cs[i]? = some (.int .u64 (f i))

/-- The cells of a memory's struct. -/
def memCells (A : Option Addr) (n cap : Nat) (s : St) : Array Value :=
  #[.slice A n cap, .int .i64 s.clock, .int .i64 s.bad, .int .i64 s.kind, .int .i64 s.who, .int .i64 s.at', .int .u64 s.old, .int .u64 s.new, .bool s.done]

/-- A memory of n words at block c (its words at block b), of the type T. -/
structure Is (w : World) (T : TypeId) (A : Option Addr) (cap c b n : Nat) (s : St) : Prop where
  main : w.heap[c]? = some (.cells (memCells A n cap s) T (0, 0))
  bcap : n ≤ cap ∧ cap ≤ maxLen ∧ (A = none → cap = 0)
  wds : 0 < n → A = some ⟨b, 0, none⟩ ∧ b ≠ c ∧ Words w b n s.f
  bd : ∀ i, i < n → 0 ≤ s.f i ∧ s.f i ≤ 18446744073709551615
  bl : b < w.heap.size

theorem Is.lt {w : World} {T : TypeId} {A : Option Addr} {cap c b n : Nat} {s : St} (h : Is w T A cap c b n s) : c < w.heap.size := block_lt h.main
theorem Is.blt {w : World} {T : TypeId} {A : Option Addr} {cap c b n : Nat} {s : St} (h : Is w T A cap c b n s) (_ : 0 < n) : b < w.heap.size := h.bl
theorem Is.keep {w w' : World} {T : TypeId} {A : Option Addr} {cap c b n : Nat} {s : St} (h : Is w T A cap c b n s) (hs : w.heap.size ≤ w'.heap.size) (h1 : w'.heap[c]? = w.heap[c]?) (h2 : 0 < n → w'.heap[b]? = w.heap[b]?) : Is w' T A cap c b n s :=
  ⟨h1.trans h.main, h.bcap, fun hn => by obtain ⟨e, hne, cs, hh, hc⟩ := h.wds hn; exact ⟨e, hne, cs, (h2 hn).trans hh, hc⟩, h.bd, Nat.lt_of_lt_of_le h.bl hs⟩
theorem Is.but {w w' : World} {T : TypeId} {A : Option Addr} {cap c b n : Nat} {s : St} {l : List Nat} (h : Is w T A cap c b n s) (hb : But l w w') (h1 : c ∉ l) (h2 : b ∉ l) : Is w' T A cap c b n s :=
  h.keep hb.size (hb.block c h.lt h1) (fun hn => hb.block b (h.blt hn) h2)
theorem Is.below {w w' : World} {T : TypeId} {A : Option Addr} {cap c b n : Nat} {s : St} (h : Is w T A cap c b n s) (hb : Below w.heap.size w w') : Is w' T A cap c b n s :=
  h.keep hb.size (hb.block c h.lt) (fun hn => hb.block b (h.blt hn))

theorem Is.cells {w : World} {T : TypeId} {A : Option Addr} {cap c b n : Nat} {s : St} (h : Is w T A cap c b n s) :
    w.cell? ⟨c, 0, none⟩ = some (.slice A n cap) ∧ w.cell? ⟨c, 1, none⟩ = some (.int .i64 s.clock) ∧ w.cell? ⟨c, 2, none⟩ = some (.int .i64 s.bad) ∧ w.cell? ⟨c, 3, none⟩ = some (.int .i64 s.kind) ∧ w.cell? ⟨c, 4, none⟩ = some (.int .i64 s.who) ∧
    w.cell? ⟨c, 5, none⟩ = some (.int .i64 s.at') ∧ w.cell? ⟨c, 6, none⟩ = some (.int .u64 s.old) ∧ w.cell? ⟨c, 7, none⟩ = some (.int .u64 s.new) ∧ w.cell? ⟨c, 8, none⟩ = some (.bool s.done) := by
  refine ⟨?_, ?_, ?_, ?_, ?_, ?_, ?_, ?_, ?_⟩ <;> simp [World.cell?, h.main, memCells]
theorem Is.fro {w : World} {T : TypeId} {A : Option Addr} {cap c b n : Nat} {s : St} (h : Is w T A cap c b n s) (i : Nat) : w.frozen? ⟨c, i, none⟩ = false := by simp [World.frozen?, h.main]
theorem Is.word {w : World} {T : TypeId} {A : Option Addr} {cap c b n : Nat} {s : St} (h : Is w T A cap c b n s) {i : Nat} (hi : i < n) : w.cell? ⟨b, i, none⟩ = some (.int .u64 (s.f i)) := by
  obtain ⟨_, _, cs, hh, hc⟩ := h.wds (by omega)
  simp [World.cell?, hh, hc i hi]
theorem Is.wfro {w : World} {T : TypeId} {A : Option Addr} {cap c b n : Nat} {s : St} (h : Is w T A cap c b n s) {i : Nat} (hi : i < n) : w.frozen? ⟨b, i, none⟩ = false := by
  obtain ⟨_, _, cs, hh, hc⟩ := h.wds (by omega)
  simp [World.frozen?, hh]

end Go.Proofs.YthjfbknmdligeaaGreat
