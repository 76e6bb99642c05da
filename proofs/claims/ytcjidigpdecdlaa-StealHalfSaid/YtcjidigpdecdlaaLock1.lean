/- The machines of locks: what their steps let follow. -/
import Derived.Test.YtcjidigpdecdlaaFlow6
import Derived.Test.YtcjidigpdecdlaaFlow2
import Derived.Test.YtcjidigpdecdlaaLay
import Derived.Deep.RegionWith
namespace Go.Proofs.Ytcjidigpdecdlaa
open Go Go.RowKit
set_option linter.unusedVariables false
set_option maxRecDepth 100000
set_option linter.unusedSimpArgs false

theorem CameAt.undrew {w w' : World} {c q : Nat} {cs com : Array Value} {T : TypeId} (h : CameAt w.drew w' c cs T com q) : CameAt w w' c cs T com q := ⟨h.fresh, h.own, h.com, ((But.refl _ w).drew).trans h.but⟩
theorem CameBox.undrew {w w' : World} {c q g : Nat} {cs : Array Value} {com : Value → Array Value} {fv : Value} {T : TypeId} (h : CameBox w.drew w' c cs T com fv q g) : CameBox w w' c cs T com fv q g := ⟨h.at'.undrew, h.fresh, h.box, h.ne⟩

def acqCells (who : Int) (nx : Option Addr) (sv ow turn : Int) (known : Bool) : Array Value := #[.int .i64 who, .pointer nx, .int .i64 sv, .int .i64 ow, .int .u64 turn, .bool known]
def relCells (who : Int) (nx : Option Addr) (sv : Int) : Array Value := #[.int .i64 who, .pointer nx, .int .i64 sv]

theorem wrap_u64 {a : Int} (h : 0 ≤ a ∧ a ≤ 18446744073709551615) : IntKind.u64.wrap a = a := by
  have e : IntKind.u64.wrap a = a % 18446744073709551616 := by simp [IntKind.wrap, IntKind.bits, IntKind.signed]
  rw [e]
  omega
/-- The turn that a ticket draws. -/
def turnOf (a : Int) : Int := (a + 4294967295) % 4294967296

end Go.Proofs.Ytcjidigpdecdlaa
