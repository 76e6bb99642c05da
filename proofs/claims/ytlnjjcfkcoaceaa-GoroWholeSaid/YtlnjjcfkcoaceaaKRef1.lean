/- The document's programs of words: what is in memory, and the contract of its Read. -/
import Derived.Test.YtlnjjcfkcoaceaaKRead
namespace Go.Proofs.Ytlnjjcfkcoaceaa
open Go Go.RowKit
set_option linter.unusedVariables false
set_option maxRecDepth 100000
set_option linter.unusedSimpArgs false

/-- Instructions of a slice, in a block of instructions. -/
def SeesT (w : World) (A : Option Addr) (n : Nat) (f : Nat → Int) (m : Int) : Prop :=
  0 < n → ∃ (b : Nat) (cs : Array Value), A = some ⟨b, 0, none⟩ ∧ w.heap[b]? = some (.cells cs 90 (0, 0)) ∧ ∀ i, i < n → cs[i * 2]? = some (.int .i64 (kd (f i))) ∧ cs[i * 2 + 1]? = some (.int .i64 (ag (f i) m))
theorem SeesT.below {w w' : World} {n : Nat} {A : Option Addr} {f : Nat → Int} {m : Int} (h : SeesT w A n f m) (hb : Below w.heap.size w w') : SeesT w' A n f m := fun hn => by
  obtain ⟨b, cs, e, h1, h2⟩ := h hn
  exact ⟨b, cs, e, (hb.block b (block_lt h1)).trans h1, h2⟩
theorem SeesT.seesI {w : World} {n : Nat} {A : Option Addr} {f : Nat → Int} {m : Int} (h : SeesT w A n f m) : SeesI w 0 w.heap.size A n f m := fun hn => by
  obtain ⟨b, cs, e, h1, h2⟩ := h hn
  refine ⟨b, 0, e, Nat.zero_le _, block_lt h1, fun i hi => ?_⟩
  obtain ⟨q1, q2⟩ := h2 i hi
  exact ⟨by simp only [World.cell?, h1, Nat.zero_add]; exact q1, by simp only [World.cell?, h1, Nat.zero_add]; exact q2⟩
theorem Own.seesT {w w' : World} {v : Value} {n : Nat} {f : Nat → Int} {m : Int} (h : Own w w' 90 2 v n (insC f m n)) : ∃ A c, v = .slice A n c ∧ SeesT w' A n f m := by
  obtain ⟨h1, h2⟩ := h.own
  rcases h2 with ⟨rfl, rfl⟩ | ⟨g, cap, cur, rfl, hg, hh, hnc, hcm, hcs, htk⟩
  · exact ⟨none, 0, rfl, fun h => absurd h (by simp)⟩
  · refine ⟨_, cap, rfl, fun hpos => ⟨g, cur, rfl, hh, fun i hi => ?_⟩⟩
    have hcell : ∀ j u, j < n * 2 → (insC f m n)[j]? = some u → cur[j]? = some u := by
      intro j u hj hu
      rw [← htk, List.getElem?_take_of_lt hj] at hu
      simpa using hu
    obtain ⟨q1, q2⟩ := insC_at f m n i hi
    exact ⟨hcell _ _ (by omega) q1, hcell _ _ (by omega) q2⟩

/-- Cells that hold the programs. -/
structure PiecesI (w : World) (f : Nat → Int) (m : Int) (L : List (Nat × Nat)) (xs : List Value) : Prop where
  len : xs.length = L.length
  at' : ∀ (p : Nat) (x : Nat × Nat), L[p]? = some x → ∃ (A1 : Option Addr) (c1 : Nat), xs[p]? = some (Value.slice A1 x.2 c1) ∧ SeesT w A1 x.2 (fun j => f (x.1 + j)) m
theorem PiecesI.nil (w : World) (f : Nat → Int) (m : Int) : PiecesI w f m [] [] := ⟨rfl, fun p x h => by simp at h⟩
theorem PiecesI.snoc {w : World} {f : Nat → Int} {m : Int} {L : List (Nat × Nat)} {xs : List Value} (h : PiecesI w f m L xs) {s l c1 : Nat} {A1 : Option Addr} (hs : SeesT w A1 l (fun j => f (s + j)) m) : PiecesI w f m (L ++ [(s, l)]) (xs ++ [.slice A1 l c1]) := by
  refine ⟨by simp [h.len], fun p x hp => ?_⟩
  by_cases hlt : p < L.length
  · rw [List.getElem?_append_left hlt] at hp
    rw [List.getElem?_append_left (by rw [h.len]; exact hlt)]
    exact h.at' p x hp
  · have e : p = L.length := by
      have := (List.getElem?_eq_some_iff.1 hp).1
      simp at this
      omega
    subst e
    simp at hp
    subst hp
    exact ⟨A1, c1, by rw [← h.len]; simp, hs⟩
theorem PiecesI.below {w w' : World} {f : Nat → Int} {m : Int} {L : List (Nat × Nat)} {xs : List Value} (h : PiecesI w f m L xs) (hb : Below w.heap.size w w') : PiecesI w' f m L xs :=
  ⟨h.len, fun p x hx => by obtain ⟨A1, c1, q1, q2⟩ := h.at' p x hx; exact ⟨A1, c1, q1, q2.below hb⟩⟩
/-- What is in blocks of instructions is kept while a row of slices grows. -/
theorem PiecesI.grown {w wr w1 : World} {v : Value} {n : Nat} {ys : List Value} {f : Nat → Int} {m : Int} {L : List (Nat × Nat)} {xs : List Value} {o : Obj} (h : PiecesI wr f m L xs) (hO : Own w wr 96 1 v n ys) (hgrow : (wr.alloc o).grownBy w1 v.ownBlock) : PiecesI w1 f m L xs :=
  ⟨h.len, fun p x hx => by
    obtain ⟨A1, c1, q1, q2⟩ := h.at' p x hx
    refine ⟨A1, c1, q1, fun hn => ?_⟩
    obtain ⟨b, cs, e1, h1, h2⟩ := q2 hn
    refine ⟨b, cs, e1, ?_, h2⟩
    have hlt := block_lt h1
    have hne : v.ownBlock ≠ some b := by
      intro hv
      rcases hO.own.2 with ⟨e2, -⟩ | ⟨g, cp, cur, e2, hg, hh, -⟩
      · rw [e2] at hv; simp [Value.ownBlock] at hv
      · rw [e2] at hv
        simp [Value.ownBlock] at hv
        subst hv
        rw [h1] at hh
        cases hh
    rw [hgrow.block b (by simp; omega) hne.symm, heap_al _ hlt]
    exact h1⟩
end Go.Proofs.Ytlnjjcfkcoaceaa
