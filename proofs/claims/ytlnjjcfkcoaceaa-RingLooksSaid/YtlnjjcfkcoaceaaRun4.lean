/- The reference's routine that acquires a lock. -/
import Derived.Test.YtlnjjcfkcoaceaaRun2
import Derived.Test.YtlnjjcfkcoaceaaLock1
namespace Go.Proofs.Ytlnjjcfkcoaceaa
open Go Go.RowKit
set_option linter.unusedVariables false
set_option maxRecDepth 100000
set_option linter.unusedSimpArgs false

/-- How far the wait for a turn goes. -/
def acqGo (m : Nat) (g : Nat → Int) (lk who t : Int) : Nat → Rn → Rn
  | 0, r => r
  | f + 1, r => if r.stop = true then r else if doV m g r = t ∧ (doS m r 1 (3 * lk + 1) 0 0).stop = false then doS m (doS m r 1 (3 * lk + 1) 0 0) 2 (3 * lk + 2) 0 (who + 1) else acqGo m g lk who t f (doS m r 1 (3 * lk + 1) 0 0)

/-- How many rounds a routine may take. -/
def left' (m x : Nat) (w : World) : Nat := match w.cell? ⟨x, 1, none⟩, w.cell? ⟨x, 2, none⟩ with
  | some (.int _ u), some (.bool st) => (m - u.toNat) + (if st = true then 0 else 1)
  | _, _ => 0
theorem RunOn.left {w : World} {x : Nat} {A : Option Addr} {cap m : Nat} {g : Nat → Int} {r : Rn} (h : RunOn w x A cap m g r) : left' m x w = (m - r.used) + (if r.stop = true then 0 else 1) := by
  unfold left'
  rw [h.blk.cell 1 (v := .int .i64 r.used) rfl, h.blk.cell 2 (v := .bool r.stop) rfl]
  simp
theorem left_less {m : Nat} {r : Rn} {k i old new : Int} (hu : r.used ≤ m) (hs : r.stop = false) : (m - (doS m r k i old new).used) + (if (doS m r k i old new).stop = true then 0 else 1) < (m - r.used) + 1 := by
  by_cases h : r.used < m
  · have e : doS m r k i old new = { r with used := r.used + 1 } := by simp [doS, hs, h]
    rw [e]
    dsimp only
    rw [hs]
    simp
    omega
  · have e : doS m r k i old new = { r with stop := true, k := k, i := i, old := old, new := new } := by simp [doS, hs, h]
    rw [e]
    simp

end Go.Proofs.Ytlnjjcfkcoaceaa
