/- Programs in memory, and the contract of code.Read. -/
import Derived.Test.YtlnjjcfkcoaceaaKIns
namespace Go.Proofs.Ytlnjjcfkcoaceaa
open Go Go.RowKit
set_option linter.unusedVariables false
set_option maxRecDepth 100000
set_option linter.unusedSimpArgs false

/-- Of all that was there only the blocks of l may be others; blocks may have come. -/
structure But (l : List Nat) (w w' : World) : Prop where
  os : w'.os = w.os
  tape : w'.tape = w.tape
  output : w'.output = w.output
  size : w.heap.size ≤ w'.heap.size
  block : ∀ k, k < w.heap.size → k ∉ l → w'.heap[k]? = w.heap[k]?
theorem But.refl (l : List Nat) (w : World) : But l w w := ⟨rfl, rfl, rfl, Nat.le_refl _, fun _ _ _ => rfl⟩
theorem But.trans {l : List Nat} {x y z : World} (h : But l x y) (k : But l y z) : But l x z :=
  ⟨k.os.trans h.os, k.tape.trans h.tape, k.output.trans h.output, Nat.le_trans h.size k.size, fun i hi hc => (k.block i (Nat.lt_of_lt_of_le hi h.size) hc).trans (h.block i hi hc)⟩
theorem But.of_below {l : List Nat} {w w' : World} (h : Below w.heap.size w w') : But l w w' := ⟨h.os, h.tape, h.output, h.size, fun k hk _ => h.block k hk⟩
theorem But.below {l : List Nat} {B : Nat} {w w' : World} (h : But l w w') (hl : ∀ k ∈ l, B ≤ k) (hB : B ≤ w.heap.size) : Below B w w' :=
  ⟨h.os, h.tape, h.output, h.size, fun k hk => h.block k (by omega) (fun hm => absurd (hl k hm) (by omega))⟩
theorem But.set {l : List Nat} {a w : World} (h : But l a w) {g : Nat} (hg : g ∈ l ∨ a.heap.size ≤ g) (i : Nat) (u : Value) : But l a (w.setCell ⟨g, i, none⟩ u) :=
  ⟨h.os, h.tape, h.output, by rw [size_set]; exact h.size, fun k hk hc => (heap_set_ne w (by rintro rfl; rcases hg with hg | hg; exact hc hg; omega) i u).trans (h.block k hk hc)⟩

/-- Instructions of a slice. -/
def SeesI (w : World) (Lo B : Nat) (A : Option Addr) (n : Nat) (f : Nat → Int) (m : Int) : Prop :=
  0 < n → ∃ b off : Nat, A = some ⟨b, off, none⟩ ∧ Lo ≤ b ∧ b < B ∧ ∀ i, i < n → w.cell? ⟨b, off + i * 2, none⟩ = some (.int .i64 (kd (f i))) ∧ w.cell? ⟨b, off + i * 2 + 1, none⟩ = some (.int .i64 (ag (f i) m))
theorem SeesI.below {w w' : World} {Lo B B' n : Nat} {A : Option Addr} {f : Nat → Int} {m : Int} (h : SeesI w Lo B A n f m) (hb : Below B' w w') (hB : B ≤ B') : SeesI w' Lo B A n f m := fun hn => by
  obtain ⟨b, off, e, h0, h1, h2⟩ := h hn
  exact ⟨b, off, e, h0, h1, fun i hi => ⟨(hb.cell (p := ⟨b, _, none⟩) (Nat.lt_of_lt_of_le h1 hB)).trans (h2 i hi).1, (hb.cell (p := ⟨b, _, none⟩) (Nat.lt_of_lt_of_le h1 hB)).trans (h2 i hi).2⟩⟩
theorem SeesI.more {w : World} {Lo Lo' B B' n : Nat} {A : Option Addr} {f : Nat → Int} {m : Int} (h : SeesI w Lo B A n f m) (hL : Lo' ≤ Lo) (hB : B ≤ B') : SeesI w Lo' B' A n f m := fun hn => by
  obtain ⟨b, off, e, h0, h1, h2⟩ := h hn
  exact ⟨b, off, e, by omega, by omega, h2⟩
theorem cell_block {w w' : World} {b o : Nat} (h : w'.heap[b]? = w.heap[b]?) : w'.cell? ⟨b, o, none⟩ = w.cell? ⟨b, o, none⟩ := by simp [World.cell?, h]
theorem SeesI.set {w : World} {Lo B n g : Nat} {A : Option Addr} {f : Nat → Int} {m : Int} (h : SeesI w Lo B A n f m) (hg : g < Lo) (i : Nat) (u : Value) : SeesI (w.setCell ⟨g, i, none⟩ u) Lo B A n f m := fun hn => by
  obtain ⟨b, off, e, h0, h1, h2⟩ := h hn
  have hh : (w.setCell ⟨g, i, none⟩ u).heap[b]? = w.heap[b]? := heap_set_ne w (by omega) i u
  exact ⟨b, off, e, h0, h1, fun j hj => ⟨(cell_block hh).trans (h2 j hj).1, (cell_block hh).trans (h2 j hj).2⟩⟩
theorem Own.seesI {w w' : World} {v : Value} {n : Nat} {f : Nat → Int} {m : Int} (h : Own w w' 90 2 v n (insC f m n)) : ∃ A c, v = .slice A n c ∧ n ≤ c ∧ c ≤ maxLen ∧ SeesI w' w.heap.size w'.heap.size A n f m := by
  obtain ⟨h1, h2⟩ := h.own
  rcases h2 with ⟨rfl, rfl⟩ | ⟨g, cap, cur, rfl, hg, hh, hnc, hcm, hcs, htk⟩
  · exact ⟨none, 0, rfl, Nat.le_refl _, Nat.zero_le _, fun h => absurd h (by simp)⟩
  · refine ⟨_, cap, rfl, hnc, hcm, fun hpos => ⟨g, 0, rfl, hg, block_lt hh, fun i hi => ?_⟩⟩
    have hcell : ∀ j u, j < n * 2 → (insC f m n)[j]? = some u → w'.cell? ⟨g, 0 + j, none⟩ = some u := by
      intro j u hj hu
      rw [← htk, List.getElem?_take_of_lt hj] at hu
      simp only [World.cell?, hh, Nat.zero_add]
      simpa using hu
    obtain ⟨q1, q2⟩ := insC_at f m n i hi
    exact ⟨hcell _ _ (by omega) q1, by have := hcell _ _ (by omega) q2; simpa [Nat.add_assoc] using this⟩

/-- The programs at block c, their row at block g. -/
structure IsCode (w : World) (c g : Nat) (f : Nat → Int) (L : List (Nat × Nat)) : Prop where
  main : w.heap[c]? = some (.cells #[.slice (some ⟨g, 0, none⟩) L.length L.length] 156 (0, 0))
  row : ∃ cur : Array Value, w.heap[g]? = some (.cells cur 96 (0, 0)) ∧ cur.size = L.length ∧ ∀ (p : Nat) (x : Nat × Nat), L[p]? = some x → ∃ (A1 : Option Addr) (c1 : Nat), cur[p]? = some (Value.slice A1 x.2 c1) ∧ x.2 ≤ c1 ∧ c1 ≤ maxLen ∧ SeesI w 0 w.heap.size A1 x.2 (fun j => f (x.1 + j)) (L.length : Nat)
theorem IsCode.below {w w' : World} {c g : Nat} {f : Nat → Int} {L : List (Nat × Nat)} (h : IsCode w c g f L) (hb : Below w.heap.size w w') : IsCode w' c g f L := by
  obtain ⟨h1, cur, h2, h3, h4⟩ := h
  refine ⟨(hb.block c (block_lt h1)).trans h1, cur, (hb.block g (block_lt h2)).trans h2, h3, fun p x hx => ?_⟩
  obtain ⟨A1, c1, q1, q2, q3, q4⟩ := h4 p x hx
  exact ⟨A1, c1, q1, q2, q3, (q4.below hb (Nat.le_refl _)).more (Nat.le_refl _) hb.size⟩
end Go.Proofs.Ytlnjjcfkcoaceaa
