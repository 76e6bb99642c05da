/- The machines of locks: what their steps let follow. -/
import Derived.Test.YthhlklfioipmgaaFlow6
import Derived.Test.YthhlklfioipmgaaFlow2
import Derived.Test.YthhlklfioipmgaaLay
import Derived.Deep.RegionWith
namespace Go.Proofs.Ythhlklfioipmgaa
open Go Go.RowKit
set_option linter.unusedVariables false
set_option maxRecDepth 100000
set_option linter.unusedSimpArgs false

theorem CameAt.undrew {w w' : World} {c q : Nat} {cs com : Array Value} {T : TypeId} (h : CameAt w.drew w' c cs T com q) : CameAt w w' c cs T com q := ⟨h.fresh, h.own, h.com, ((But.refl _ w).drew).trans h.but⟩
theorem CameBox.undrew {w w' : World} {c q g : Nat} {cs : Array Value} {com : Value → Array Value} {fv : Value} {T : TypeId} (h : CameBox w.drew w' c cs T com fv q g) : CameBox w w' c cs T com fv q g := ⟨h.at'.undrew, h.fresh, h.box, h.ne⟩

def acqCells (who : Int) (nx : Option Addr) (sv ow turn : Int) (known : Bool) : Array Value := #[.int .i64 who, .pointer nx, .int .i64 sv, .int .i64 ow, .int .u64 turn, .bool known]
def relCells (who : Int) (nx : Option Addr) (sv : Int) : Array Value := #[.int .i64 who, .pointer nx, .int .i64 sv]

theorem wrap_u64 {a : Int} (h : 0 ≤ a ∧ a ≤ 18446744073709551615) : IntKind.u64.wrap a = a := by
  have e : IntKind.u64.wrap a = a % 18446744073709551616 := by simp [IntKind.wrap, IntKind.bits, IntKind.signed]
  rw [e]
  omega
/-- The turn that a ticket draws. -/
def turnOf (a : Int) : Int := (a + 4294967295) % 4294967296

theorem who_any (w : World) (c : Nat) (who : Int) (c0 : w.cell? ⟨c, 0, none⟩ = some (.int .i64 who)) :
    Calls Try.prog 71 #[.pointer (some ⟨c, 0, none⟩)] w fun e w' => e = .returned (.int .i64 who) ∧ w = w' := by
  go_enter Try.func71, Try.ntmps71
  go_wp2_with fail
  go_ret
  exact ⟨rfl, rfl⟩

end Go.Proofs.Ythhlklfioipmgaa
