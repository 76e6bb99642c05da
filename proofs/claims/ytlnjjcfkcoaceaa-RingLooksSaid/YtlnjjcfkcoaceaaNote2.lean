/- The steps of the machines of notes. -/
import Derived.Test.YtlnjjcfkcoaceaaNote1
import Derived.Test.YtlnjjcfkcoaceaaFlow7
import Derived.Test.YtlnjjcfkcoaceaaLock4
namespace Go.Proofs.Ytlnjjcfkcoaceaa
open Go Go.RowKit
set_option linter.unusedVariables false
set_option maxRecDepth 100000
set_option linter.unusedSimpArgs false

def slpS (who nt : Int) (n ph : Nat) (asl : Bool) (s : St) : St := if ph = 0 then (if peekT n s nt = 0 ∧ asl = true then s else stp 1 who nt 0 0 n s) else if ph = 1 then stp 2 who nt 0 0 n s else s
def slpP (nt : Int) (n ph : Nat) (s : St) : Nat := if ph = 0 then (if peekT n s nt = 0 then 0 else 1) else 2
def slpA (nt : Int) (n ph : Nat) (s : St) : Bool := decide (ph = 0 ∧ peekT n s nt = 0)
theorem slpS_low {s : St} {m : Int} (h : Low s m) (who nt : Int) (n ph : Nat) (asl : Bool) : Low (slpS who nt n ph asl s) (m + 1) := by
  unfold slpS
  split
  · split
    · exact h.more (by omega)
    · exact stp_low h _ _ _ _ _ _
  split
  · exact stp_low h _ _ _ _ _ _
  · exact h.more (by omega)

end Go.Proofs.Ytlnjjcfkcoaceaa
