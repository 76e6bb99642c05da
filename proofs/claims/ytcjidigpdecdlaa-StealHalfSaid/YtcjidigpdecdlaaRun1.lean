/- The reference's routines: what one has gone through, and where it stopped; the contract of do. -/
import Derived.Test.YtcjidigpdecdlaaFlow1
import Derived.Test.YtcjidigpdecdlaaRef2
import Derived.Deep.AppendLies
namespace Go.Proofs.Ytcjidigpdecdlaa
open Go Go.RowKit
set_option linter.unusedVariables false
set_option maxRecDepth 100000
set_option linter.unusedSimpArgs false

/-- How far a routine is. -/
structure Rn where
  used : Nat
  stop : Bool
  k : Int
  i : Int
  old : Int
  new : Int
  sleep : Bool
def rn0 : Rn := ⟨0, false, 0, 0, 0, 0, false⟩
def runCells (v : Value) (r : Rn) : Array Value := #[v, .int .i64 r.used, .bool r.stop, .int .i64 r.k, .int .i64 0, .int .i64 r.i, .int .u64 r.old, .int .u64 r.new, .bool false, .bool r.sleep]

/-- What was answered so far: a slice of the call's own. -/
structure GotOn (w : World) (A : Option Addr) (cap m : Nat) (g : Nat → Int) : Prop where
  own : w.ownsRow 0 27 1 (.slice A m cap) m (wordCells g m)
theorem GotOn.keep {w w' : World} {A : Option Addr} {cap m : Nat} {g : Nat → Int} (h : GotOn w A cap m g) (hk : ∀ b, A = some ⟨b, 0, none⟩ → w'.heap[b]? = w.heap[b]?) : GotOn w' A cap m g := by
  refine ⟨h.own.1, ?_⟩
  rcases h.own.2 with h0 | ⟨gb, cp, cur, e, hb, hh, rest⟩
  · exact .inl h0
  · cases e
    exact .inr ⟨gb, cap, cur, rfl, hb, (hk gb rfl).trans hh, rest⟩
theorem GotOn.form {w : World} {A : Option Addr} {cap m : Nat} {g : Nat → Int} (h : GotOn w A cap m g) : (A = none ∧ m = 0 ∧ cap = 0) ∨ ∃ gb, A = some ⟨gb, 0, none⟩ ∧ gb < w.heap.size := by
  rcases h.own.2 with ⟨e, h0⟩ | ⟨gb, cp, cur, e, hb, hh, rest⟩
  · cases e; exact .inl ⟨rfl, h0, rfl⟩
  · cases e; exact .inr ⟨gb, rfl, block_lt hh⟩
theorem GotOn.cell {w : World} {A : Option Addr} {cap m : Nat} {g : Nat → Int} (h : GotOn w A cap m g) {j : Nat} (hj : j < m) : ∃ gb, A = some ⟨gb, 0, none⟩ ∧ w.cell? ⟨gb, j, none⟩ = some (.int .u64 (g j)) := by
  rcases h.own.2 with ⟨e, h0⟩ | ⟨gb, cp, cur, e, hb, hh, hnc, hcm, hcs, htk⟩
  · omega
  · cases e
    refine ⟨gb, rfl, ?_⟩
    have hc := h.own.cellAt j (by omega)
    rw [wordCells_at g m j hj] at hc
    exact hc
theorem GotOn.bound {w : World} {A : Option Addr} {cap m : Nat} {g : Nat → Int} (h : GotOn w A cap m g) : m ≤ cap := by
  rcases h.own.2 with ⟨e, h0⟩ | ⟨gb, cp, cur, e, hb, hh, hnc, hcm, hcs, htk⟩
  · omega
  · cases e; exact hnc
/-- The block of what was answered is none of these. -/
def GotFar (A : Option Addr) (l : List Nat) : Prop := ∀ b, A = some ⟨b, 0, none⟩ → b ∉ l
theorem GotOn.but {w w' : World} {A : Option Addr} {cap m : Nat} {g : Nat → Int} {l : List Nat} (h : GotOn w A cap m g) (hB : But l w w') (hf : GotFar A l) : GotOn w' A cap m g :=
  h.keep fun b e => hB.block b (by rcases h.form with ⟨e0, _⟩ | ⟨gb, e0, hl⟩; rw [e0] at e; cases e; rw [e0] at e; cases e; exact hl) (hf b e)

/-- What an access answers to a routine, and how far it is then. -/
def doS (m : Nat) (r : Rn) (k i old new : Int) : Rn := if r.stop = true then r else if r.used < m then { r with used := r.used + 1 } else { r with stop := true, k := k, i := i, old := old, new := new }
def doV (m : Nat) (g : Nat → Int) (r : Rn) : Int := if r.stop = true then 0 else if r.used < m then g r.used else 0

end Go.Proofs.Ytcjidigpdecdlaa
