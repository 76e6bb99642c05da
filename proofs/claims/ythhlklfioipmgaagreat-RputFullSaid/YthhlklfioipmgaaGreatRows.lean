/-
  No cell of these rows narrows 'for every input' (looked for: loops, veiled, ifaces, maps, wideKeys, modest, calm, conditions, laid).
  DERIVED. THE GIVEN ROWS OF THIS SEAT. 6 by the template 'for every input the law returns true; each argument reads behind the call as it read before'; 0 by the template 'total and deterministic' (their statements: YthhlklfioipmgaaGreatTotals.lean).
  GIVEN WITH THE SEED: the statements are not yours to turn. If you find one false, say at which input.
  Laid BY PROGRAM, IN A SANDBOX (cutbox-rows.mjs): the forced cells as the released guide's own fill.sh prints them over the translation 27ea1c4e1fa15776… (all of the seat's roots in one cut). By AI agents, Wed Nov 11 2026. No macro, syntax, notation, axiom, sorry.
-/
import Derived.Test.YthhlklfioipmgaaGreatChecked
import GoSem.Claim
import GoSem.ClaimJoined
import GoSem.ClaimMapViews
import Derived.JoinedTies
import Derived.KernelRfl
namespace Go.Proofs.YthhlklfioipmgaaGreat
/- THE CELL 'sum', in the pinned program and in every row, IS THE sha256 OF THE DUMP (.gsa) THAT YthhlklfioipmgaaGreatProg.lean LOADS. Nothing in Lean hashes anything: it is a label: what it is worth is what the hold of that sum in a sandbox is worth. -/
noncomputable def Tryz.pinned : Pinned := { name := "ythhlklfioipmgaagreat", sum := "27ea1c4e1fa15776f0a540b072f1454a8c139fff94081a08ab01b8d87a68b51d", checked := Tryz.checked }
namespace Rows
def none {H : Type} : Left H := { results := [], args := [] }

/-- 'turnspitlaw13.GlobqPuts': WHATEVER THE INPUT: true; the input reads as it did. -/
def globqPutsSpec : ChangeSpec := { name := "globqPuts", fn := fun _ => fun
  | [d1, d2, d3] => { results := [.lit (.bool true)], args := [d1, d2, d3] }
  | _ => none }
def globqPutsRow : OpenClaim := { program := "ythhlklfioipmgaagreat", sum := "27ea1c4e1fa15776f0a540b072f1454a8c139fff94081a08ab01b8d87a68b51d", func := "turnspit/turnspitlaw13.GlobqPuts", spec := "globqPuts", unfollowed := true, recurses := true, apart := false }
def GlobqPutsSaid : Prop := globqPutsRow.holds Tryz.pinned (OpenSpec.ofChange globqPutsSpec)

/-- ITS FALSE NEIGHBOUR: 'it returns false'. Refute it at one input. -/
def globqPutsWrong : ChangeSpec := { name := "globqPuts", fn := fun _ => fun
  | [d1, d2, d3] => { results := [.lit (.bool false)], args := [d1, d2, d3] }
  | _ => none }
def GlobqPutsWrongFalsely : Prop := globqPutsRow.holds Tryz.pinned (OpenSpec.ofChange globqPutsWrong)

/-- 'turnspitlaw13.GlobqPulls': WHATEVER THE INPUT: true; the input reads as it did. -/
def globqPullsSpec : ChangeSpec := { name := "globqPulls", fn := fun _ => fun
  | [d1, d2, d3] => { results := [.lit (.bool true)], args := [d1, d2, d3] }
  | _ => none }
def globqPullsRow : OpenClaim := { program := "ythhlklfioipmgaagreat", sum := "27ea1c4e1fa15776f0a540b072f1454a8c139fff94081a08ab01b8d87a68b51d", func := "turnspit/turnspitlaw13.GlobqPulls", spec := "globqPulls", unfollowed := true, recurses := true, apart := false }
def GlobqPullsSaid : Prop := globqPullsRow.holds Tryz.pinned (OpenSpec.ofChange globqPullsSpec)

/-- ITS FALSE NEIGHBOUR: 'it returns false'. Refute it at one input. -/
def globqPullsWrong : ChangeSpec := { name := "globqPulls", fn := fun _ => fun
  | [d1, d2, d3] => { results := [.lit (.bool false)], args := [d1, d2, d3] }
  | _ => none }
def GlobqPullsWrongFalsely : Prop := globqPullsRow.holds Tryz.pinned (OpenSpec.ofChange globqPullsWrong)

/-- 'turnspitlaw14.RputFull': WHATEVER THE INPUT: true; the input reads as it did. -/
def rputFullSpec : ChangeSpec := { name := "rputFull", fn := fun _ => fun
  | [d1, d2, d3] => { results := [.lit (.bool true)], args := [d1, d2, d3] }
  | _ => none }
def rputFullRow : OpenClaim := { program := "ythhlklfioipmgaagreat", sum := "27ea1c4e1fa15776f0a540b072f1454a8c139fff94081a08ab01b8d87a68b51d", func := "turnspit/turnspitlaw14.RputFull", spec := "rputFull", unfollowed := true, recurses := true, apart := false }
def RputFullSaid : Prop := rputFullRow.holds Tryz.pinned (OpenSpec.ofChange rputFullSpec)

/-- ITS FALSE NEIGHBOUR: 'it returns false'. Refute it at one input. -/
def rputFullWrong : ChangeSpec := { name := "rputFull", fn := fun _ => fun
  | [d1, d2, d3] => { results := [.lit (.bool false)], args := [d1, d2, d3] }
  | _ => none }
def RputFullWrongFalsely : Prop := rputFullRow.holds Tryz.pinned (OpenSpec.ofChange rputFullWrong)

/-- 'turnspitlaw15.RgetOrder': WHATEVER THE INPUT: true; the input reads as it did. -/
def rgetOrderSpec : ChangeSpec := { name := "rgetOrder", fn := fun _ => fun
  | [d1, d2] => { results := [.lit (.bool true)], args := [d1, d2] }
  | _ => none }
def rgetOrderRow : OpenClaim := { program := "ythhlklfioipmgaagreat", sum := "27ea1c4e1fa15776f0a540b072f1454a8c139fff94081a08ab01b8d87a68b51d", func := "turnspit/turnspitlaw15.RgetOrder", spec := "rgetOrder", unfollowed := true, recurses := true, apart := false }
def RgetOrderSaid : Prop := rgetOrderRow.holds Tryz.pinned (OpenSpec.ofChange rgetOrderSpec)

/-- ITS FALSE NEIGHBOUR: 'it returns false'. Refute it at one input. -/
def rgetOrderWrong : ChangeSpec := { name := "rgetOrder", fn := fun _ => fun
  | [d1, d2] => { results := [.lit (.bool false)], args := [d1, d2] }
  | _ => none }
def RgetOrderWrongFalsely : Prop := rgetOrderRow.holds Tryz.pinned (OpenSpec.ofChange rgetOrderWrong)

/-- 'turnspitlaw16.StealMany': WHATEVER THE INPUT: true; the input reads as it did. -/
def stealManySpec : ChangeSpec := { name := "stealMany", fn := fun _ => fun
  | [d1, d2] => { results := [.lit (.bool true)], args := [d1, d2] }
  | _ => none }
def stealManyRow : OpenClaim := { program := "ythhlklfioipmgaagreat", sum := "27ea1c4e1fa15776f0a540b072f1454a8c139fff94081a08ab01b8d87a68b51d", func := "turnspit/turnspitlaw16.StealMany", spec := "stealMany", unfollowed := true, recurses := true, apart := false }
def StealManySaid : Prop := stealManyRow.holds Tryz.pinned (OpenSpec.ofChange stealManySpec)

/-- ITS FALSE NEIGHBOUR: 'it returns false'. Refute it at one input. -/
def stealManyWrong : ChangeSpec := { name := "stealMany", fn := fun _ => fun
  | [d1, d2] => { results := [.lit (.bool false)], args := [d1, d2] }
  | _ => none }
def StealManyWrongFalsely : Prop := stealManyRow.holds Tryz.pinned (OpenSpec.ofChange stealManyWrong)

/-- 'turnspitlaw19.WakeMany': WHATEVER THE INPUT: true; the input reads as it did. -/
def wakeManySpec : ChangeSpec := { name := "wakeMany", fn := fun _ => fun
  | [d1, d2] => { results := [.lit (.bool true)], args := [d1, d2] }
  | _ => none }
def wakeManyRow : OpenClaim := { program := "ythhlklfioipmgaagreat", sum := "27ea1c4e1fa15776f0a540b072f1454a8c139fff94081a08ab01b8d87a68b51d", func := "turnspit/turnspitlaw19.WakeMany", spec := "wakeMany", unfollowed := true, recurses := true, apart := false }
def WakeManySaid : Prop := wakeManyRow.holds Tryz.pinned (OpenSpec.ofChange wakeManySpec)

/-- ITS FALSE NEIGHBOUR: 'it returns false'. Refute it at one input. -/
def wakeManyWrong : ChangeSpec := { name := "wakeMany", fn := fun _ => fun
  | [d1, d2] => { results := [.lit (.bool false)], args := [d1, d2] }
  | _ => none }
def WakeManyWrongFalsely : Prop := wakeManyRow.holds Tryz.pinned (OpenSpec.ofChange wakeManyWrong)

/- THE SECOND FORM. 'bulk': how many values and letters a reading holds, each counted each time it is reached (what is shared counts as often as it is met; a slice's spare places count too). A statement '..UptoSaid' is the law's where the arguments, and the package variables that the reading takes, are together of bulk at most 1048576: NARROWER than '..Said'. Prove '..Said' where nothing that the law and all that it calls make is longer than what came in: it says more and counts as full. Else prove '..UptoSaid'. A law counts once. -/
mutual
def uptoBulk {H : Type} : DataW H → Nat
  | .lit (.string bytes) => bytes.length + 1
  | .lit _ => 1
  | .nil => 1
  | .ptr d => uptoBulk d + 1
  | .slice elems spare => uptoBulkAll elems + uptoBulkAll spare + 1
  | .agg parts => uptoBulkAll parts + 1
  | .iface _ d => uptoBulk d + 1
  | .map entries => uptoBulkEntries entries + 1
  | .held _ => 1
def uptoBulkAll {H : Type} : List (DataW H) → Nat
  | [] => 0
  | d :: r => uptoBulk d + uptoBulkAll r
def uptoBulkEntries {H : Type} : List (Lit × DataW H) → Nat
  | [] => 0
  | x :: r => uptoBulkEntry x + uptoBulkEntries r
def uptoBulkEntry {H : Type} : Lit × DataW H → Nat
  | (.string bytes, d) => bytes.length + uptoBulk d + 1
  | (_, d) => uptoBulk d + 1
 end
def uptoSmall : (H : Type) → List (DataW H) → Bool := fun _ ds => decide (uptoBulkAll ds ≤ 1048576)
def OpenSpec.upto (s : _root_.Go.ChangeSpec) : _root_.Go.OpenSpec := { _root_.Go.OpenSpec.ofChange s with cond := some uptoSmall }

/-- 'turnspitlaw13.GlobqPuts', WHERE WHAT IT READS IS OF BULK AT MOST 1048576: true; the input reads as it did. -/
def globqPutsUptoRow : OpenClaim := { program := "ythhlklfioipmgaagreat", sum := "27ea1c4e1fa15776f0a540b072f1454a8c139fff94081a08ab01b8d87a68b51d", func := "turnspit/turnspitlaw13.GlobqPuts", spec := "globqPuts", unfollowed := true, recurses := true, apart := false, narrowed := true }
def GlobqPutsUptoSaid : Prop := globqPutsUptoRow.holds Tryz.pinned (OpenSpec.upto globqPutsSpec)

/-- 'turnspitlaw13.GlobqPulls', WHERE WHAT IT READS IS OF BULK AT MOST 1048576: true; the input reads as it did. -/
def globqPullsUptoRow : OpenClaim := { program := "ythhlklfioipmgaagreat", sum := "27ea1c4e1fa15776f0a540b072f1454a8c139fff94081a08ab01b8d87a68b51d", func := "turnspit/turnspitlaw13.GlobqPulls", spec := "globqPulls", unfollowed := true, recurses := true, apart := false, narrowed := true }
def GlobqPullsUptoSaid : Prop := globqPullsUptoRow.holds Tryz.pinned (OpenSpec.upto globqPullsSpec)

/-- 'turnspitlaw14.RputFull', WHERE WHAT IT READS IS OF BULK AT MOST 1048576: true; the input reads as it did. -/
def rputFullUptoRow : OpenClaim := { program := "ythhlklfioipmgaagreat", sum := "27ea1c4e1fa15776f0a540b072f1454a8c139fff94081a08ab01b8d87a68b51d", func := "turnspit/turnspitlaw14.RputFull", spec := "rputFull", unfollowed := true, recurses := true, apart := false, narrowed := true }
def RputFullUptoSaid : Prop := rputFullUptoRow.holds Tryz.pinned (OpenSpec.upto rputFullSpec)

/-- 'turnspitlaw15.RgetOrder', WHERE WHAT IT READS IS OF BULK AT MOST 1048576: true; the input reads as it did. -/
def rgetOrderUptoRow : OpenClaim := { program := "ythhlklfioipmgaagreat", sum := "27ea1c4e1fa15776f0a540b072f1454a8c139fff94081a08ab01b8d87a68b51d", func := "turnspit/turnspitlaw15.RgetOrder", spec := "rgetOrder", unfollowed := true, recurses := true, apart := false, narrowed := true }
def RgetOrderUptoSaid : Prop := rgetOrderUptoRow.holds Tryz.pinned (OpenSpec.upto rgetOrderSpec)

/-- 'turnspitlaw16.StealMany', WHERE WHAT IT READS IS OF BULK AT MOST 1048576: true; the input reads as it did. -/
def stealManyUptoRow : OpenClaim := { program := "ythhlklfioipmgaagreat", sum := "27ea1c4e1fa15776f0a540b072f1454a8c139fff94081a08ab01b8d87a68b51d", func := "turnspit/turnspitlaw16.StealMany", spec := "stealMany", unfollowed := true, recurses := true, apart := false, narrowed := true }
def StealManyUptoSaid : Prop := stealManyUptoRow.holds Tryz.pinned (OpenSpec.upto stealManySpec)

/-- 'turnspitlaw19.WakeMany', WHERE WHAT IT READS IS OF BULK AT MOST 1048576: true; the input reads as it did. -/
def wakeManyUptoRow : OpenClaim := { program := "ythhlklfioipmgaagreat", sum := "27ea1c4e1fa15776f0a540b072f1454a8c139fff94081a08ab01b8d87a68b51d", func := "turnspit/turnspitlaw19.WakeMany", spec := "wakeMany", unfollowed := true, recurses := true, apart := false, narrowed := true }
def WakeManyUptoSaid : Prop := wakeManyUptoRow.holds Tryz.pinned (OpenSpec.upto wakeManySpec)

end Rows
end Go.Proofs.YthhlklfioipmgaaGreat
