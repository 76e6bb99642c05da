/-
  No cell of these rows narrows 'for every input' (looked for: loops, veiled, ifaces, maps, wideKeys, modest, calm, conditions, laid).
  DERIVED. THE GIVEN ROWS OF THIS SEAT. 4 by the template 'for every input the law returns true; each argument reads behind the call as it read before'; 0 by the template 'total and deterministic' (their statements: YthjfbknmdligeaaGreatTotals.lean).
  GIVEN WITH THE SEED: the statements are not yours to turn. If you find one false, say at which input.
  Laid BY PROGRAM, IN A SANDBOX (cutbox-rows.mjs): the forced cells as the released guide's own fill.sh prints them over the translation 7d3d17dbd7b15090… (all of the seat's roots in one cut). By AI agents, Wed Nov 11 2026. No macro, syntax, notation, axiom, sorry.
-/
import Derived.Test.YthjfbknmdligeaaGreatChecked
import GoSem.Claim
import GoSem.ClaimJoined
import GoSem.ClaimMapViews
import Derived.JoinedTies
import Derived.KernelRfl
namespace Go.Proofs.YthjfbknmdligeaaGreat
/- THE CELL 'sum', in the pinned program and in every row, IS THE sha256 OF THE DUMP (.gsa) THAT YthjfbknmdligeaaGreatProg.lean LOADS. Nothing in Lean hashes anything: it is a label: what it is worth is what the hold of that sum in a sandbox is worth. -/
noncomputable def Tryz.pinned : Pinned := { name := "ythjfbknmdligeaagreat", sum := "7d3d17dbd7b15090f2c6fbfc0b6d6b0283846a4a48e7091997cc51b7500d73f7", checked := Tryz.checked }
namespace Rows
def none {H : Type} : Left H := { results := [], args := [] }

/-- 'turnspitlaw26.MonSteps': WHATEVER THE INPUT: true; the input reads as it did. -/
def monStepsSpec : ChangeSpec := { name := "monSteps", fn := fun _ => fun
  | [d1, d2] => { results := [.lit (.bool true)], args := [d1, d2] }
  | _ => none }
def monStepsRow : OpenClaim := { program := "ythjfbknmdligeaagreat", sum := "7d3d17dbd7b15090f2c6fbfc0b6d6b0283846a4a48e7091997cc51b7500d73f7", func := "turnspit/turnspitlaw26.MonSteps", spec := "monSteps", unfollowed := true, recurses := true, apart := false }
def MonStepsSaid : Prop := monStepsRow.holds Tryz.pinned (OpenSpec.ofChange monStepsSpec)

/-- ITS FALSE NEIGHBOUR: 'it returns false'. Refute it at one input. -/
def monStepsWrong : ChangeSpec := { name := "monSteps", fn := fun _ => fun
  | [d1, d2] => { results := [.lit (.bool false)], args := [d1, d2] }
  | _ => none }
def MonStepsWrongFalsely : Prop := monStepsRow.holds Tryz.pinned (OpenSpec.ofChange monStepsWrong)

/-- 'turnspitlaw26.MonLate': WHATEVER THE INPUT: true; the input reads as it did. -/
def monLateSpec : ChangeSpec := { name := "monLate", fn := fun _ => fun
  | [d1, d2, d3] => { results := [.lit (.bool true)], args := [d1, d2, d3] }
  | _ => none }
def monLateRow : OpenClaim := { program := "ythjfbknmdligeaagreat", sum := "7d3d17dbd7b15090f2c6fbfc0b6d6b0283846a4a48e7091997cc51b7500d73f7", func := "turnspit/turnspitlaw26.MonLate", spec := "monLate", unfollowed := true, recurses := true, apart := false }
def MonLateSaid : Prop := monLateRow.holds Tryz.pinned (OpenSpec.ofChange monLateSpec)

/-- ITS FALSE NEIGHBOUR: 'it returns false'. Refute it at one input. -/
def monLateWrong : ChangeSpec := { name := "monLate", fn := fun _ => fun
  | [d1, d2, d3] => { results := [.lit (.bool false)], args := [d1, d2, d3] }
  | _ => none }
def MonLateWrongFalsely : Prop := monLateRow.holds Tryz.pinned (OpenSpec.ofChange monLateWrong)

/-- 'turnspitlaw26.MonTakes': WHATEVER THE INPUT: true; the input reads as it did. -/
def monTakesSpec : ChangeSpec := { name := "monTakes", fn := fun _ => fun
  | [d1, d2, d3] => { results := [.lit (.bool true)], args := [d1, d2, d3] }
  | _ => none }
def monTakesRow : OpenClaim := { program := "ythjfbknmdligeaagreat", sum := "7d3d17dbd7b15090f2c6fbfc0b6d6b0283846a4a48e7091997cc51b7500d73f7", func := "turnspit/turnspitlaw26.MonTakes", spec := "monTakes", unfollowed := true, recurses := true, apart := false }
def MonTakesSaid : Prop := monTakesRow.holds Tryz.pinned (OpenSpec.ofChange monTakesSpec)

/-- ITS FALSE NEIGHBOUR: 'it returns false'. Refute it at one input. -/
def monTakesWrong : ChangeSpec := { name := "monTakes", fn := fun _ => fun
  | [d1, d2, d3] => { results := [.lit (.bool false)], args := [d1, d2, d3] }
  | _ => none }
def MonTakesWrongFalsely : Prop := monTakesRow.holds Tryz.pinned (OpenSpec.ofChange monTakesWrong)

/-- 'turnspitlaw26.MonIdle': WHATEVER THE INPUT: true; the input reads as it did. -/
def monIdleSpec : ChangeSpec := { name := "monIdle", fn := fun _ => fun
  | [d1, d2, d3] => { results := [.lit (.bool true)], args := [d1, d2, d3] }
  | _ => none }
def monIdleRow : OpenClaim := { program := "ythjfbknmdligeaagreat", sum := "7d3d17dbd7b15090f2c6fbfc0b6d6b0283846a4a48e7091997cc51b7500d73f7", func := "turnspit/turnspitlaw26.MonIdle", spec := "monIdle", unfollowed := true, recurses := true, apart := false }
def MonIdleSaid : Prop := monIdleRow.holds Tryz.pinned (OpenSpec.ofChange monIdleSpec)

/-- ITS FALSE NEIGHBOUR: 'it returns false'. Refute it at one input. -/
def monIdleWrong : ChangeSpec := { name := "monIdle", fn := fun _ => fun
  | [d1, d2, d3] => { results := [.lit (.bool false)], args := [d1, d2, d3] }
  | _ => none }
def MonIdleWrongFalsely : Prop := monIdleRow.holds Tryz.pinned (OpenSpec.ofChange monIdleWrong)

/- THE SECOND FORM. 'bulk': how many values and letters a reading holds, each counted each time it is reached (what is shared counts as often as it is met; a slice's spare places count too). A statement '..UptoSaid' is the law's where the arguments, and the package variables that the reading takes, are together of bulk at most 1048576: NARROWER than '..Said'. Prove '..Said' where nothing that the law and all that it calls make is longer than what came in: it says more and counts as full. Else prove '..UptoSaid'. A law counts once. -/
mutual
def uptoBulk {H : Type} : DataW H → Nat
  | .lit (.string bytes) => bytes.length + 1
  | .lit _ => 1
  | .nil => 1
  | .ptr d => uptoBulk d + 1
  | .slice elems spare => uptoBulkAll elems + uptoBulkAll spare + 1
  | .agg parts => uptoBulkAll parts + 1
  | .iface _ d => uptoBulk d + 1
  | .map entries => uptoBulkEntries entries + 1
  | .held _ => 1
def uptoBulkAll {H : Type} : List (DataW H) → Nat
  | [] => 0
  | d :: r => uptoBulk d + uptoBulkAll r
def uptoBulkEntries {H : Type} : List (Lit × DataW H) → Nat
  | [] => 0
  | x :: r => uptoBulkEntry x + uptoBulkEntries r
def uptoBulkEntry {H : Type} : Lit × DataW H → Nat
  | (.string bytes, d) => bytes.length + uptoBulk d + 1
  | (_, d) => uptoBulk d + 1
 end
def uptoSmall : (H : Type) → List (DataW H) → Bool := fun _ ds => decide (uptoBulkAll ds ≤ 1048576)
def OpenSpec.upto (s : _root_.Go.ChangeSpec) : _root_.Go.OpenSpec := { _root_.Go.OpenSpec.ofChange s with cond := some uptoSmall }

/-- 'turnspitlaw26.MonSteps', WHERE WHAT IT READS IS OF BULK AT MOST 1048576: true; the input reads as it did. -/
def monStepsUptoRow : OpenClaim := { program := "ythjfbknmdligeaagreat", sum := "7d3d17dbd7b15090f2c6fbfc0b6d6b0283846a4a48e7091997cc51b7500d73f7", func := "turnspit/turnspitlaw26.MonSteps", spec := "monSteps", unfollowed := true, recurses := true, apart := false, narrowed := true }
def MonStepsUptoSaid : Prop := monStepsUptoRow.holds Tryz.pinned (OpenSpec.upto monStepsSpec)

/-- 'turnspitlaw26.MonLate', WHERE WHAT IT READS IS OF BULK AT MOST 1048576: true; the input reads as it did. -/
def monLateUptoRow : OpenClaim := { program := "ythjfbknmdligeaagreat", sum := "7d3d17dbd7b15090f2c6fbfc0b6d6b0283846a4a48e7091997cc51b7500d73f7", func := "turnspit/turnspitlaw26.MonLate", spec := "monLate", unfollowed := true, recurses := true, apart := false, narrowed := true }
def MonLateUptoSaid : Prop := monLateUptoRow.holds Tryz.pinned (OpenSpec.upto monLateSpec)

/-- 'turnspitlaw26.MonTakes', WHERE WHAT IT READS IS OF BULK AT MOST 1048576: true; the input reads as it did. -/
def monTakesUptoRow : OpenClaim := { program := "ythjfbknmdligeaagreat", sum := "7d3d17dbd7b15090f2c6fbfc0b6d6b0283846a4a48e7091997cc51b7500d73f7", func := "turnspit/turnspitlaw26.MonTakes", spec := "monTakes", unfollowed := true, recurses := true, apart := false, narrowed := true }
def MonTakesUptoSaid : Prop := monTakesUptoRow.holds Tryz.pinned (OpenSpec.upto monTakesSpec)

/-- 'turnspitlaw26.MonIdle', WHERE WHAT IT READS IS OF BULK AT MOST 1048576: true; the input reads as it did. -/
def monIdleUptoRow : OpenClaim := { program := "ythjfbknmdligeaagreat", sum := "7d3d17dbd7b15090f2c6fbfc0b6d6b0283846a4a48e7091997cc51b7500d73f7", func := "turnspit/turnspitlaw26.MonIdle", spec := "monIdle", unfollowed := true, recurses := true, apart := false, narrowed := true }
def MonIdleUptoSaid : Prop := monIdleUptoRow.holds Tryz.pinned (OpenSpec.upto monIdleSpec)

end Rows
end Go.Proofs.YthjfbknmdligeaaGreat
