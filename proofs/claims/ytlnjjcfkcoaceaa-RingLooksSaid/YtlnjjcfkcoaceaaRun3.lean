/- The reference's routines of notes: Wait, Sleep, Wake. -/
import Derived.Test.YtlnjjcfkcoaceaaRun2
import Derived.Test.YtlnjjcfkcoaceaaNote1
namespace Go.Proofs.Ytlnjjcfkcoaceaa
open Go Go.RowKit
set_option linter.unusedVariables false
set_option maxRecDepth 100000
set_option linter.unusedSimpArgs false

section
variable (w : World) (x : Nat) (A : Option Addr) (cap m : Nat) (g : Nat → Int) (r : Rn) (h : RunOn w x A cap m g r)
include h
end
end Go.Proofs.Ytlnjjcfkcoaceaa
