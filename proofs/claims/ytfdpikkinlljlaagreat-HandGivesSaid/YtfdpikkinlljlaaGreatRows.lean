/-
  No cell of these rows narrows 'for every input' (looked for: loops, veiled, ifaces, maps, wideKeys, modest, calm, conditions, laid).
  DERIVED. THE GIVEN ROWS OF THIS SEAT. 6 by the template 'for every input the law returns true; each argument reads behind the call as it read before'; 0 by the template 'total and deterministic' (their statements: YtfdpikkinlljlaaGreatTotals.lean).
  GIVEN WITH THE SEED: the statements are not yours to turn. If you find one false, say at which input.
  Laid BY PROGRAM, IN A SANDBOX (cutbox-rows.mjs): the forced cells as the released guide's own fill.sh prints them over the translation c3aa253307156324… (all of the seat's roots in one cut). By AI agents, Wed Nov 11 2026. No macro, syntax, notation, axiom, sorry.
-/
import Derived.Test.YtfdpikkinlljlaaGreatChecked
import GoSem.Claim
import GoSem.ClaimJoined
import GoSem.ClaimMapViews
import Derived.JoinedTies
import Derived.KernelRfl
namespace Go.Proofs.YtfdpikkinlljlaaGreat
/- THE CELL 'sum', in the pinned program and in every row, IS THE sha256 OF THE DUMP (.gsa) THAT YtfdpikkinlljlaaGreatProg.lean LOADS. Nothing in Lean hashes anything: it is a label: what it is worth is what the hold of that sum in a sandbox is worth. -/
noncomputable def Tryz.pinned : Pinned := { name := "ytfdpikkinlljlaagreat", sum := "c3aa2533071563248951103126a719a87c3cc5bfaf963d357e2df0723fd4cb36", checked := Tryz.checked }
namespace Rows
def none {H : Type} : Left H := { results := [], args := [] }

/-- 'turnspitlaw23.ReadyReadies': WHATEVER THE INPUT: true; the input reads as it did. -/
def readyReadiesSpec : ChangeSpec := { name := "readyReadies", fn := fun _ => fun
  | [d1, d2, d3] => { results := [.lit (.bool true)], args := [d1, d2, d3] }
  | _ => none }
def readyReadiesRow : OpenClaim := { program := "ytfdpikkinlljlaagreat", sum := "c3aa2533071563248951103126a719a87c3cc5bfaf963d357e2df0723fd4cb36", func := "turnspit/turnspitlaw23.ReadyReadies", spec := "readyReadies", unfollowed := true, recurses := true, apart := false }
def ReadyReadiesSaid : Prop := readyReadiesRow.holds Tryz.pinned (OpenSpec.ofChange readyReadiesSpec)

/-- ITS FALSE NEIGHBOUR: 'it returns false'. Refute it at one input. -/
def readyReadiesWrong : ChangeSpec := { name := "readyReadies", fn := fun _ => fun
  | [d1, d2, d3] => { results := [.lit (.bool false)], args := [d1, d2, d3] }
  | _ => none }
def ReadyReadiesWrongFalsely : Prop := readyReadiesRow.holds Tryz.pinned (OpenSpec.ofChange readyReadiesWrong)

/-- 'turnspitlaw23.ReadyGives': WHATEVER THE INPUT: true; the input reads as it did. -/
def readyGivesSpec : ChangeSpec := { name := "readyGives", fn := fun _ => fun
  | [d1, d2, d3] => { results := [.lit (.bool true)], args := [d1, d2, d3] }
  | _ => none }
def readyGivesRow : OpenClaim := { program := "ytfdpikkinlljlaagreat", sum := "c3aa2533071563248951103126a719a87c3cc5bfaf963d357e2df0723fd4cb36", func := "turnspit/turnspitlaw23.ReadyGives", spec := "readyGives", unfollowed := true, recurses := true, apart := false }
def ReadyGivesSaid : Prop := readyGivesRow.holds Tryz.pinned (OpenSpec.ofChange readyGivesSpec)

/-- ITS FALSE NEIGHBOUR: 'it returns false'. Refute it at one input. -/
def readyGivesWrong : ChangeSpec := { name := "readyGives", fn := fun _ => fun
  | [d1, d2, d3] => { results := [.lit (.bool false)], args := [d1, d2, d3] }
  | _ => none }
def ReadyGivesWrongFalsely : Prop := readyGivesRow.holds Tryz.pinned (OpenSpec.ofChange readyGivesWrong)

/-- 'turnspitlaw25.HandSteps': WHATEVER THE INPUT: true; the input reads as it did. -/
def handStepsSpec : ChangeSpec := { name := "handSteps", fn := fun _ => fun
  | [d1, d2, d3] => { results := [.lit (.bool true)], args := [d1, d2, d3] }
  | _ => none }
def handStepsRow : OpenClaim := { program := "ytfdpikkinlljlaagreat", sum := "c3aa2533071563248951103126a719a87c3cc5bfaf963d357e2df0723fd4cb36", func := "turnspit/turnspitlaw25.HandSteps", spec := "handSteps", unfollowed := true, recurses := true, apart := false }
def HandStepsSaid : Prop := handStepsRow.holds Tryz.pinned (OpenSpec.ofChange handStepsSpec)

/-- ITS FALSE NEIGHBOUR: 'it returns false'. Refute it at one input. -/
def handStepsWrong : ChangeSpec := { name := "handSteps", fn := fun _ => fun
  | [d1, d2, d3] => { results := [.lit (.bool false)], args := [d1, d2, d3] }
  | _ => none }
def HandStepsWrongFalsely : Prop := handStepsRow.holds Tryz.pinned (OpenSpec.ofChange handStepsWrong)

/-- 'turnspitlaw25.HandGives': WHATEVER THE INPUT: true; the input reads as it did. -/
def handGivesSpec : ChangeSpec := { name := "handGives", fn := fun _ => fun
  | [d1, d2, d3] => { results := [.lit (.bool true)], args := [d1, d2, d3] }
  | _ => none }
def handGivesRow : OpenClaim := { program := "ytfdpikkinlljlaagreat", sum := "c3aa2533071563248951103126a719a87c3cc5bfaf963d357e2df0723fd4cb36", func := "turnspit/turnspitlaw25.HandGives", spec := "handGives", unfollowed := true, recurses := true, apart := false }
def HandGivesSaid : Prop := handGivesRow.holds Tryz.pinned (OpenSpec.ofChange handGivesSpec)

/-- ITS FALSE NEIGHBOUR: 'it returns false'. Refute it at one input. -/
def handGivesWrong : ChangeSpec := { name := "handGives", fn := fun _ => fun
  | [d1, d2, d3] => { results := [.lit (.bool false)], args := [d1, d2, d3] }
  | _ => none }
def HandGivesWrongFalsely : Prop := handGivesRow.holds Tryz.pinned (OpenSpec.ofChange handGivesWrong)

/-- 'turnspitlaw26.MonSteps': WHATEVER THE INPUT: true; the input reads as it did. -/
def monStepsSpec : ChangeSpec := { name := "monSteps", fn := fun _ => fun
  | [d1, d2] => { results := [.lit (.bool true)], args := [d1, d2] }
  | _ => none }
def monStepsRow : OpenClaim := { program := "ytfdpikkinlljlaagreat", sum := "c3aa2533071563248951103126a719a87c3cc5bfaf963d357e2df0723fd4cb36", func := "turnspit/turnspitlaw26.MonSteps", spec := "monSteps", unfollowed := true, recurses := true, apart := false }
def MonStepsSaid : Prop := monStepsRow.holds Tryz.pinned (OpenSpec.ofChange monStepsSpec)

/-- ITS FALSE NEIGHBOUR: 'it returns false'. Refute it at one input. -/
def monStepsWrong : ChangeSpec := { name := "monSteps", fn := fun _ => fun
  | [d1, d2] => { results := [.lit (.bool false)], args := [d1, d2] }
  | _ => none }
def MonStepsWrongFalsely : Prop := monStepsRow.holds Tryz.pinned (OpenSpec.ofChange monStepsWrong)

/-- 'turnspitlaw26.MonIdle': WHATEVER THE INPUT: true; the input reads as it did. -/
def monIdleSpec : ChangeSpec := { name := "monIdle", fn := fun _ => fun
  | [d1, d2, d3] => { results := [.lit (.bool true)], args := [d1, d2, d3] }
  | _ => none }
def monIdleRow : OpenClaim := { program := "ytfdpikkinlljlaagreat", sum := "c3aa2533071563248951103126a719a87c3cc5bfaf963d357e2df0723fd4cb36", func := "turnspit/turnspitlaw26.MonIdle", spec := "monIdle", unfollowed := true, recurses := true, apart := false }
def MonIdleSaid : Prop := monIdleRow.holds Tryz.pinned (OpenSpec.ofChange monIdleSpec)

/-- ITS FALSE NEIGHBOUR: 'it returns false'. Refute it at one input. -/
def monIdleWrong : ChangeSpec := { name := "monIdle", fn := fun _ => fun
  | [d1, d2, d3] => { results := [.lit (.bool false)], args := [d1, d2, d3] }
  | _ => none }
def MonIdleWrongFalsely : Prop := monIdleRow.holds Tryz.pinned (OpenSpec.ofChange monIdleWrong)

/- THE SECOND FORM. 'bulk': how many values and letters a reading holds, each counted each time it is reached (what is shared counts as often as it is met; a slice's spare places count too). A statement '..UptoSaid' is the law's where the arguments, and the package variables that the reading takes, are together of bulk at most 1048576: NARROWER than '..Said'. Prove '..Said' where nothing that the law and all that it calls make is longer than what came in: it says more and counts as full. Else prove '..UptoSaid'. A law counts once. -/
mutual
def uptoBulk {H : Type} : DataW H → Nat
  | .lit (.string bytes) => bytes.length + 1
  | .lit _ => 1
  | .nil => 1
  | .ptr d => uptoBulk d + 1
  | .slice elems spare => uptoBulkAll elems + uptoBulkAll spare + 1
  | .agg parts => uptoBulkAll parts + 1
  | .iface _ d => uptoBulk d + 1
  | .map entries => uptoBulkEntries entries + 1
  | .held _ => 1
def uptoBulkAll {H : Type} : List (DataW H) → Nat
  | [] => 0
  | d :: r => uptoBulk d + uptoBulkAll r
def uptoBulkEntries {H : Type} : List (Lit × DataW H) → Nat
  | [] => 0
  | x :: r => uptoBulkEntry x + uptoBulkEntries r
def uptoBulkEntry {H : Type} : Lit × DataW H → Nat
  | (.string bytes, d) => bytes.length + uptoBulk d + 1
  | (_, d) => uptoBulk d + 1
 end
def uptoSmall : (H : Type) → List (DataW H) → Bool := fun _ ds => decide (uptoBulkAll ds ≤ 1048576)
def OpenSpec.upto (s : _root_.Go.ChangeSpec) : _root_.Go.OpenSpec := { _root_.Go.OpenSpec.ofChange s with cond := some uptoSmall }

/-- 'turnspitlaw23.ReadyReadies', WHERE WHAT IT READS IS OF BULK AT MOST 1048576: true; the input reads as it did. -/
def readyReadiesUptoRow : OpenClaim := { program := "ytfdpikkinlljlaagreat", sum := "c3aa2533071563248951103126a719a87c3cc5bfaf963d357e2df0723fd4cb36", func := "turnspit/turnspitlaw23.ReadyReadies", spec := "readyReadies", unfollowed := true, recurses := true, apart := false, narrowed := true }
def ReadyReadiesUptoSaid : Prop := readyReadiesUptoRow.holds Tryz.pinned (OpenSpec.upto readyReadiesSpec)

/-- 'turnspitlaw23.ReadyGives', WHERE WHAT IT READS IS OF BULK AT MOST 1048576: true; the input reads as it did. -/
def readyGivesUptoRow : OpenClaim := { program := "ytfdpikkinlljlaagreat", sum := "c3aa2533071563248951103126a719a87c3cc5bfaf963d357e2df0723fd4cb36", func := "turnspit/turnspitlaw23.ReadyGives", spec := "readyGives", unfollowed := true, recurses := true, apart := false, narrowed := true }
def ReadyGivesUptoSaid : Prop := readyGivesUptoRow.holds Tryz.pinned (OpenSpec.upto readyGivesSpec)

/-- 'turnspitlaw25.HandSteps', WHERE WHAT IT READS IS OF BULK AT MOST 1048576: true; the input reads as it did. -/
def handStepsUptoRow : OpenClaim := { program := "ytfdpikkinlljlaagreat", sum := "c3aa2533071563248951103126a719a87c3cc5bfaf963d357e2df0723fd4cb36", func := "turnspit/turnspitlaw25.HandSteps", spec := "handSteps", unfollowed := true, recurses := true, apart := false, narrowed := true }
def HandStepsUptoSaid : Prop := handStepsUptoRow.holds Tryz.pinned (OpenSpec.upto handStepsSpec)

/-- 'turnspitlaw25.HandGives', WHERE WHAT IT READS IS OF BULK AT MOST 1048576: true; the input reads as it did. -/
def handGivesUptoRow : OpenClaim := { program := "ytfdpikkinlljlaagreat", sum := "c3aa2533071563248951103126a719a87c3cc5bfaf963d357e2df0723fd4cb36", func := "turnspit/turnspitlaw25.HandGives", spec := "handGives", unfollowed := true, recurses := true, apart := false, narrowed := true }
def HandGivesUptoSaid : Prop := handGivesUptoRow.holds Tryz.pinned (OpenSpec.upto handGivesSpec)

/-- 'turnspitlaw26.MonSteps', WHERE WHAT IT READS IS OF BULK AT MOST 1048576: true; the input reads as it did. -/
def monStepsUptoRow : OpenClaim := { program := "ytfdpikkinlljlaagreat", sum := "c3aa2533071563248951103126a719a87c3cc5bfaf963d357e2df0723fd4cb36", func := "turnspit/turnspitlaw26.MonSteps", spec := "monSteps", unfollowed := true, recurses := true, apart := false, narrowed := true }
def MonStepsUptoSaid : Prop := monStepsUptoRow.holds Tryz.pinned (OpenSpec.upto monStepsSpec)

/-- 'turnspitlaw26.MonIdle', WHERE WHAT IT READS IS OF BULK AT MOST 1048576: true; the input reads as it did. -/
def monIdleUptoRow : OpenClaim := { program := "ytfdpikkinlljlaagreat", sum := "c3aa2533071563248951103126a719a87c3cc5bfaf963d357e2df0723fd4cb36", func := "turnspit/turnspitlaw26.MonIdle", spec := "monIdle", unfollowed := true, recurses := true, apart := false, narrowed := true }
def MonIdleUptoSaid : Prop := monIdleUptoRow.holds Tryz.pinned (OpenSpec.upto monIdleSpec)

end Rows
end Go.Proofs.YtfdpikkinlljlaaGreat
