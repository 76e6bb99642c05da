/- The walk of the law NoteWakes. -/
import Derived.Test.YtlnjjcfkcoaceaaRun3
import Derived.Test.YtlnjjcfkcoaceaaNKeeps
namespace Go.Proofs.Ytlnjjcfkcoaceaa
open Go Go.RowKit
set_option linter.unusedVariables false
set_option maxRecDepth 100000
set_option linter.unusedSimpArgs false

theorem sameB_any (w : World) (A B : Option Addr) (n cap cap' : Nat) (f : Nat → Int) (hn : n ≤ 1000000) (hA : SeesU w w.heap.size A n f) (hB : SeesU w w.heap.size B n f) :
    Calls Try.prog 23 #[.slice A n cap, .slice B n cap'] w fun e w' => e = .returned (.bool true) ∧ Below w.heap.size w w' :=
  (same_any w A B n cap cap' f hn hA hB).mono fun e w' ⟨he, m, hm⟩ => ⟨he, by rw [hm]; exact Below.drewN' (Below.refl _ _) m⟩
def zRun : List Value := [.slice none 0 0, .int .i64 0, .bool false, .int .i64 0, .int .i64 0, .int .i64 0, .int .u64 0, .int .u64 0, .bool false, .bool false]

theorem SeesP.up {w : World} {E : Option Addr} {m : Nat} {a v : Nat → Int} (hs : SeesP w w.heap.size E m a v) (o : Obj) : SeesP (w.alloc o) (w.alloc o).heap.size E m a v := fun hp => by
  obtain ⟨b0, off, e, hlt, hc⟩ := hs hp
  have hB : Below w.heap.size w (w.alloc o) := (Below.refl _ _).alloc (Nat.le_refl _) _
  exact ⟨b0, off, e, by simp; omega, fun j hj => ⟨(hB.cell (p := ⟨b0, off + j * 2, none⟩) hlt).trans (hc j hj).1, (hB.cell (p := ⟨b0, off + j * 2 + 1, none⟩) hlt).trans (hc j hj).2⟩⟩

/-- A routine begins. -/
theorem run_begin (w : World) : RunOn (w.alloc (.cells zRun.toArray 43)) w.heap.size none 0 0 (fun _ => 0) rn0 :=
  ⟨Blk.new _ _ _, ⟨World.ownsRow_nil _ _ _ _⟩, (fun b e => by cases e), by omega, Nat.le_refl _⟩
/-- A routine's cells, as a list. -/
def runL (v : Value) (r : Rn) : List Value := [v, .int .i64 r.used, .bool r.stop, .int .i64 r.k, .int .i64 0, .int .i64 r.i, .int .u64 r.old, .int .u64 r.new, .bool false, .bool r.sleep]
theorem RunOn.range {w : World} {x : Nat} {A : Option Addr} {cap m : Nat} {g : Nat → Int} {r : Rn} (h : RunOn w x A cap m g r) : w.rangeAt x 0 (runL (.slice A m cap) r) := by
  intro j v e
  rw [Nat.zero_add]
  exact h.blk.cell j (by rw [show runCells (.slice A m cap) r = (runL (.slice A m cap) r).toArray from rfl]; simpa using e)

end Go.Proofs.Ytlnjjcfkcoaceaa
