/- The contract of the document's At. -/
import Derived.Test.YtlnjjcfkcoaceaaKRef1
import Derived.Test.YtlnjjcfkcoaceaaKMeth
namespace Go.Proofs.Ytlnjjcfkcoaceaa
open Go Go.RowKit
set_option linter.unusedVariables false
set_option maxRecDepth 100000
set_option linter.unusedSimpArgs false

/-- The document's programs in memory, their row at block g. -/
structure Outs (w : World) (g : Nat) (f : Nat → Int) (m : Int) (L : List (Nat × Nat)) : Prop where
  lt : g < w.heap.size
  at' : ∀ (p : Nat) (x : Nat × Nat), L[p]? = some x → ∃ (A1 : Option Addr) (c1 : Nat), w.cell? ⟨g, p, none⟩ = some (Value.slice A1 x.2 c1) ∧ SeesI w 0 w.heap.size A1 x.2 (fun j => f (x.1 + j)) m
theorem Outs.below {w w' : World} {g : Nat} {f : Nat → Int} {m : Int} {L : List (Nat × Nat)} (h : Outs w g f m L) (hb : Below w.heap.size w w') : Outs w' g f m L :=
  ⟨Nat.lt_of_lt_of_le h.lt hb.size, fun p x hx => by
    obtain ⟨A1, c1, q1, q2⟩ := h.at' p x hx
    exact ⟨A1, c1, (hb.cell (p := ⟨g, p, none⟩) h.lt).trans q1, (q2.below hb (Nat.le_refl _)).more (Nat.le_refl _) hb.size⟩⟩
theorem outs_row {w w1 : World} {v : Value} {f : Nat → Int} {m : Int} {L : List (Nat × Nat)} {xs : List Value} (hO : Own w w1 96 1 v L.length xs) (hP : PiecesI w1 f m L xs) (hK : 1 ≤ L.length) :
    ∃ g c, v = .slice (some ⟨g, 0, none⟩) L.length c ∧ Outs w1 g f m L := by
  obtain ⟨h1, h2⟩ := hO.own
  rcases h2 with ⟨rfl, h0⟩ | ⟨g, cap, cur, rfl, hg, hh, hnc, hcm, hcs, htk⟩
  · omega
  · refine ⟨g, cap, rfl, block_lt hh, fun p x hx => ?_⟩
    obtain ⟨A1, c1, q1, q2⟩ := hP.at' p x hx
    have hp : p < L.length := (List.getElem?_eq_some_iff.1 hx).1
    refine ⟨A1, c1, ?_, q2.seesI⟩
    rw [← htk, List.getElem?_take_of_lt (by omega)] at q1
    simp only [World.cell?, hh]
    simpa using q1

end Go.Proofs.Ytlnjjcfkcoaceaa
