/-
  No cell of these rows narrows 'for every input' (looked for: loops, veiled, ifaces, maps, wideKeys, modest, calm, conditions, laid).
  DERIVED. THE GIVEN ROWS OF THIS SEAT. 11 by the template 'for every input the law returns true; each argument reads behind the call as it read before'; 0 by the template 'total and deterministic' (their statements: YtcjidigpdecdlaaGreatTotals.lean).
  GIVEN WITH THE SEED: the statements are not yours to turn. If you find one false, say at which input.
  Laid BY PROGRAM, IN A SANDBOX (cutbox-rows.mjs): the forced cells as the released guide's own fill.sh prints them over the translation beab44f1ba76465d… (all of the seat's roots in one cut). By AI agents, Wed Nov 11 2026. No macro, syntax, notation, axiom, sorry.
-/
import Derived.Test.YtcjidigpdecdlaaGreatChecked
import GoSem.Claim
import GoSem.ClaimJoined
import GoSem.ClaimMapViews
import Derived.JoinedTies
import Derived.KernelRfl
namespace Go.Proofs.YtcjidigpdecdlaaGreat
/- THE CELL 'sum', in the pinned program and in every row, IS THE sha256 OF THE DUMP (.gsa) THAT YtcjidigpdecdlaaGreatProg.lean LOADS. Nothing in Lean hashes anything: it is a label: what it is worth is what the hold of that sum in a sandbox is worth. -/
noncomputable def Tryz.pinned : Pinned := { name := "ytcjidigpdecdlaagreat", sum := "beab44f1ba76465dfbcb7b7ce370938116c648f40b28255eeafdaa52e2c24cc3", checked := Tryz.checked }
namespace Rows
def none {H : Type} : Left H := { results := [], args := [] }

/-- 'turnspitlaw22.SpawnSteps': WHATEVER THE INPUT: true; the input reads as it did. -/
def spawnStepsSpec : ChangeSpec := { name := "spawnSteps", fn := fun _ => fun
  | [d1, d2, d3] => { results := [.lit (.bool true)], args := [d1, d2, d3] }
  | _ => none }
def spawnStepsRow : OpenClaim := { program := "ytcjidigpdecdlaagreat", sum := "beab44f1ba76465dfbcb7b7ce370938116c648f40b28255eeafdaa52e2c24cc3", func := "turnspit/turnspitlaw22.SpawnSteps", spec := "spawnSteps", unfollowed := true, recurses := true, apart := false }
def SpawnStepsSaid : Prop := spawnStepsRow.holds Tryz.pinned (OpenSpec.ofChange spawnStepsSpec)

/-- ITS FALSE NEIGHBOUR: 'it returns false'. Refute it at one input. -/
def spawnStepsWrong : ChangeSpec := { name := "spawnSteps", fn := fun _ => fun
  | [d1, d2, d3] => { results := [.lit (.bool false)], args := [d1, d2, d3] }
  | _ => none }
def SpawnStepsWrongFalsely : Prop := spawnStepsRow.holds Tryz.pinned (OpenSpec.ofChange spawnStepsWrong)

/-- 'turnspitlaw22.SpawnEnds': WHATEVER THE INPUT: true; the input reads as it did. -/
def spawnEndsSpec : ChangeSpec := { name := "spawnEnds", fn := fun _ => fun
  | [d1, d2, d3] => { results := [.lit (.bool true)], args := [d1, d2, d3] }
  | _ => none }
def spawnEndsRow : OpenClaim := { program := "ytcjidigpdecdlaagreat", sum := "beab44f1ba76465dfbcb7b7ce370938116c648f40b28255eeafdaa52e2c24cc3", func := "turnspit/turnspitlaw22.SpawnEnds", spec := "spawnEnds", unfollowed := true, recurses := true, apart := false }
def SpawnEndsSaid : Prop := spawnEndsRow.holds Tryz.pinned (OpenSpec.ofChange spawnEndsSpec)

/-- ITS FALSE NEIGHBOUR: 'it returns false'. Refute it at one input. -/
def spawnEndsWrong : ChangeSpec := { name := "spawnEnds", fn := fun _ => fun
  | [d1, d2, d3] => { results := [.lit (.bool false)], args := [d1, d2, d3] }
  | _ => none }
def SpawnEndsWrongFalsely : Prop := spawnEndsRow.holds Tryz.pinned (OpenSpec.ofChange spawnEndsWrong)

/-- 'turnspitlaw22.SpawnRefused': WHATEVER THE INPUT: true; the input reads as it did. -/
def spawnRefusedSpec : ChangeSpec := { name := "spawnRefused", fn := fun _ => fun
  | [d1, d2, d3] => { results := [.lit (.bool true)], args := [d1, d2, d3] }
  | _ => none }
def spawnRefusedRow : OpenClaim := { program := "ytcjidigpdecdlaagreat", sum := "beab44f1ba76465dfbcb7b7ce370938116c648f40b28255eeafdaa52e2c24cc3", func := "turnspit/turnspitlaw22.SpawnRefused", spec := "spawnRefused", unfollowed := true, recurses := true, apart := false }
def SpawnRefusedSaid : Prop := spawnRefusedRow.holds Tryz.pinned (OpenSpec.ofChange spawnRefusedSpec)

/-- ITS FALSE NEIGHBOUR: 'it returns false'. Refute it at one input. -/
def spawnRefusedWrong : ChangeSpec := { name := "spawnRefused", fn := fun _ => fun
  | [d1, d2, d3] => { results := [.lit (.bool false)], args := [d1, d2, d3] }
  | _ => none }
def SpawnRefusedWrongFalsely : Prop := spawnRefusedRow.holds Tryz.pinned (OpenSpec.ofChange spawnRefusedWrong)

/-- 'turnspitlaw22.SpawnMany': WHATEVER THE INPUT: true; the input reads as it did. -/
def spawnManySpec : ChangeSpec := { name := "spawnMany", fn := fun _ => fun
  | [d1, d2] => { results := [.lit (.bool true)], args := [d1, d2] }
  | _ => none }
def spawnManyRow : OpenClaim := { program := "ytcjidigpdecdlaagreat", sum := "beab44f1ba76465dfbcb7b7ce370938116c648f40b28255eeafdaa52e2c24cc3", func := "turnspit/turnspitlaw22.SpawnMany", spec := "spawnMany", unfollowed := true, recurses := true, apart := false }
def SpawnManySaid : Prop := spawnManyRow.holds Tryz.pinned (OpenSpec.ofChange spawnManySpec)

/-- ITS FALSE NEIGHBOUR: 'it returns false'. Refute it at one input. -/
def spawnManyWrong : ChangeSpec := { name := "spawnMany", fn := fun _ => fun
  | [d1, d2] => { results := [.lit (.bool false)], args := [d1, d2] }
  | _ => none }
def SpawnManyWrongFalsely : Prop := spawnManyRow.holds Tryz.pinned (OpenSpec.ofChange spawnManyWrong)

/-- 'turnspitlaw23.ReadyReadies': WHATEVER THE INPUT: true; the input reads as it did. -/
def readyReadiesSpec : ChangeSpec := { name := "readyReadies", fn := fun _ => fun
  | [d1, d2, d3] => { results := [.lit (.bool true)], args := [d1, d2, d3] }
  | _ => none }
def readyReadiesRow : OpenClaim := { program := "ytcjidigpdecdlaagreat", sum := "beab44f1ba76465dfbcb7b7ce370938116c648f40b28255eeafdaa52e2c24cc3", func := "turnspit/turnspitlaw23.ReadyReadies", spec := "readyReadies", unfollowed := true, recurses := true, apart := false }
def ReadyReadiesSaid : Prop := readyReadiesRow.holds Tryz.pinned (OpenSpec.ofChange readyReadiesSpec)

/-- ITS FALSE NEIGHBOUR: 'it returns false'. Refute it at one input. -/
def readyReadiesWrong : ChangeSpec := { name := "readyReadies", fn := fun _ => fun
  | [d1, d2, d3] => { results := [.lit (.bool false)], args := [d1, d2, d3] }
  | _ => none }
def ReadyReadiesWrongFalsely : Prop := readyReadiesRow.holds Tryz.pinned (OpenSpec.ofChange readyReadiesWrong)

/-- 'turnspitlaw23.ReadyGives': WHATEVER THE INPUT: true; the input reads as it did. -/
def readyGivesSpec : ChangeSpec := { name := "readyGives", fn := fun _ => fun
  | [d1, d2, d3] => { results := [.lit (.bool true)], args := [d1, d2, d3] }
  | _ => none }
def readyGivesRow : OpenClaim := { program := "ytcjidigpdecdlaagreat", sum := "beab44f1ba76465dfbcb7b7ce370938116c648f40b28255eeafdaa52e2c24cc3", func := "turnspit/turnspitlaw23.ReadyGives", spec := "readyGives", unfollowed := true, recurses := true, apart := false }
def ReadyGivesSaid : Prop := readyGivesRow.holds Tryz.pinned (OpenSpec.ofChange readyGivesSpec)

/-- ITS FALSE NEIGHBOUR: 'it returns false'. Refute it at one input. -/
def readyGivesWrong : ChangeSpec := { name := "readyGives", fn := fun _ => fun
  | [d1, d2, d3] => { results := [.lit (.bool false)], args := [d1, d2, d3] }
  | _ => none }
def ReadyGivesWrongFalsely : Prop := readyGivesRow.holds Tryz.pinned (OpenSpec.ofChange readyGivesWrong)

/-- 'turnspitlaw23.ReadyOnce': WHATEVER THE INPUT: true; the input reads as it did. -/
def readyOnceSpec : ChangeSpec := { name := "readyOnce", fn := fun _ => fun
  | [d1, d2, d3] => { results := [.lit (.bool true)], args := [d1, d2, d3] }
  | _ => none }
def readyOnceRow : OpenClaim := { program := "ytcjidigpdecdlaagreat", sum := "beab44f1ba76465dfbcb7b7ce370938116c648f40b28255eeafdaa52e2c24cc3", func := "turnspit/turnspitlaw23.ReadyOnce", spec := "readyOnce", unfollowed := true, recurses := true, apart := false }
def ReadyOnceSaid : Prop := readyOnceRow.holds Tryz.pinned (OpenSpec.ofChange readyOnceSpec)

/-- ITS FALSE NEIGHBOUR: 'it returns false'. Refute it at one input. -/
def readyOnceWrong : ChangeSpec := { name := "readyOnce", fn := fun _ => fun
  | [d1, d2, d3] => { results := [.lit (.bool false)], args := [d1, d2, d3] }
  | _ => none }
def ReadyOnceWrongFalsely : Prop := readyOnceRow.holds Tryz.pinned (OpenSpec.ofChange readyOnceWrong)

/-- 'turnspitlaw24.SyscIn': WHATEVER THE INPUT: true; the input reads as it did. -/
def syscInSpec : ChangeSpec := { name := "syscIn", fn := fun _ => fun
  | [d1, d2, d3] => { results := [.lit (.bool true)], args := [d1, d2, d3] }
  | _ => none }
def syscInRow : OpenClaim := { program := "ytcjidigpdecdlaagreat", sum := "beab44f1ba76465dfbcb7b7ce370938116c648f40b28255eeafdaa52e2c24cc3", func := "turnspit/turnspitlaw24.SyscIn", spec := "syscIn", unfollowed := true, recurses := true, apart := false }
def SyscInSaid : Prop := syscInRow.holds Tryz.pinned (OpenSpec.ofChange syscInSpec)

/-- ITS FALSE NEIGHBOUR: 'it returns false'. Refute it at one input. -/
def syscInWrong : ChangeSpec := { name := "syscIn", fn := fun _ => fun
  | [d1, d2, d3] => { results := [.lit (.bool false)], args := [d1, d2, d3] }
  | _ => none }
def SyscInWrongFalsely : Prop := syscInRow.holds Tryz.pinned (OpenSpec.ofChange syscInWrong)

/-- 'turnspitlaw24.SyscOut': WHATEVER THE INPUT: true; the input reads as it did. -/
def syscOutSpec : ChangeSpec := { name := "syscOut", fn := fun _ => fun
  | [d1, d2, d3] => { results := [.lit (.bool true)], args := [d1, d2, d3] }
  | _ => none }
def syscOutRow : OpenClaim := { program := "ytcjidigpdecdlaagreat", sum := "beab44f1ba76465dfbcb7b7ce370938116c648f40b28255eeafdaa52e2c24cc3", func := "turnspit/turnspitlaw24.SyscOut", spec := "syscOut", unfollowed := true, recurses := true, apart := false }
def SyscOutSaid : Prop := syscOutRow.holds Tryz.pinned (OpenSpec.ofChange syscOutSpec)

/-- ITS FALSE NEIGHBOUR: 'it returns false'. Refute it at one input. -/
def syscOutWrong : ChangeSpec := { name := "syscOut", fn := fun _ => fun
  | [d1, d2, d3] => { results := [.lit (.bool false)], args := [d1, d2, d3] }
  | _ => none }
def SyscOutWrongFalsely : Prop := syscOutRow.holds Tryz.pinned (OpenSpec.ofChange syscOutWrong)

/-- 'turnspitlaw24.SyscHas': WHATEVER THE INPUT: true; the input reads as it did. -/
def syscHasSpec : ChangeSpec := { name := "syscHas", fn := fun _ => fun
  | [d1, d2, d3] => { results := [.lit (.bool true)], args := [d1, d2, d3] }
  | _ => none }
def syscHasRow : OpenClaim := { program := "ytcjidigpdecdlaagreat", sum := "beab44f1ba76465dfbcb7b7ce370938116c648f40b28255eeafdaa52e2c24cc3", func := "turnspit/turnspitlaw24.SyscHas", spec := "syscHas", unfollowed := true, recurses := true, apart := false }
def SyscHasSaid : Prop := syscHasRow.holds Tryz.pinned (OpenSpec.ofChange syscHasSpec)

/-- ITS FALSE NEIGHBOUR: 'it returns false'. Refute it at one input. -/
def syscHasWrong : ChangeSpec := { name := "syscHas", fn := fun _ => fun
  | [d1, d2, d3] => { results := [.lit (.bool false)], args := [d1, d2, d3] }
  | _ => none }
def SyscHasWrongFalsely : Prop := syscHasRow.holds Tryz.pinned (OpenSpec.ofChange syscHasWrong)

/-- 'turnspitlaw24.SyscTwo': WHATEVER THE INPUT: true; the input reads as it did. -/
def syscTwoSpec : ChangeSpec := { name := "syscTwo", fn := fun _ => fun
  | [d1, d2, d3] => { results := [.lit (.bool true)], args := [d1, d2, d3] }
  | _ => none }
def syscTwoRow : OpenClaim := { program := "ytcjidigpdecdlaagreat", sum := "beab44f1ba76465dfbcb7b7ce370938116c648f40b28255eeafdaa52e2c24cc3", func := "turnspit/turnspitlaw24.SyscTwo", spec := "syscTwo", unfollowed := true, recurses := true, apart := false }
def SyscTwoSaid : Prop := syscTwoRow.holds Tryz.pinned (OpenSpec.ofChange syscTwoSpec)

/-- ITS FALSE NEIGHBOUR: 'it returns false'. Refute it at one input. -/
def syscTwoWrong : ChangeSpec := { name := "syscTwo", fn := fun _ => fun
  | [d1, d2, d3] => { results := [.lit (.bool false)], args := [d1, d2, d3] }
  | _ => none }
def SyscTwoWrongFalsely : Prop := syscTwoRow.holds Tryz.pinned (OpenSpec.ofChange syscTwoWrong)

/- THE SECOND FORM. 'bulk': how many values and letters a reading holds, each counted each time it is reached (what is shared counts as often as it is met; a slice's spare places count too). A statement '..UptoSaid' is the law's where the arguments, and the package variables that the reading takes, are together of bulk at most 1048576: NARROWER than '..Said'. Prove '..Said' where nothing that the law and all that it calls make is longer than what came in: it says more and counts as full. Else prove '..UptoSaid'. A law counts once. -/
mutual
def uptoBulk {H : Type} : DataW H → Nat
  | .lit (.string bytes) => bytes.length + 1
  | .lit _ => 1
  | .nil => 1
  | .ptr d => uptoBulk d + 1
  | .slice elems spare => uptoBulkAll elems + uptoBulkAll spare + 1
  | .agg parts => uptoBulkAll parts + 1
  | .iface _ d => uptoBulk d + 1
  | .map entries => uptoBulkEntries entries + 1
  | .held _ => 1
def uptoBulkAll {H : Type} : List (DataW H) → Nat
  | [] => 0
  | d :: r => uptoBulk d + uptoBulkAll r
def uptoBulkEntries {H : Type} : List (Lit × DataW H) → Nat
  | [] => 0
  | x :: r => uptoBulkEntry x + uptoBulkEntries r
def uptoBulkEntry {H : Type} : Lit × DataW H → Nat
  | (.string bytes, d) => bytes.length + uptoBulk d + 1
  | (_, d) => uptoBulk d + 1
 end
def uptoSmall : (H : Type) → List (DataW H) → Bool := fun _ ds => decide (uptoBulkAll ds ≤ 1048576)
def OpenSpec.upto (s : _root_.Go.ChangeSpec) : _root_.Go.OpenSpec := { _root_.Go.OpenSpec.ofChange s with cond := some uptoSmall }

/-- 'turnspitlaw22.SpawnSteps', WHERE WHAT IT READS IS OF BULK AT MOST 1048576: true; the input reads as it did. -/
def spawnStepsUptoRow : OpenClaim := { program := "ytcjidigpdecdlaagreat", sum := "beab44f1ba76465dfbcb7b7ce370938116c648f40b28255eeafdaa52e2c24cc3", func := "turnspit/turnspitlaw22.SpawnSteps", spec := "spawnSteps", unfollowed := true, recurses := true, apart := false, narrowed := true }
def SpawnStepsUptoSaid : Prop := spawnStepsUptoRow.holds Tryz.pinned (OpenSpec.upto spawnStepsSpec)

/-- 'turnspitlaw22.SpawnEnds', WHERE WHAT IT READS IS OF BULK AT MOST 1048576: true; the input reads as it did. -/
def spawnEndsUptoRow : OpenClaim := { program := "ytcjidigpdecdlaagreat", sum := "beab44f1ba76465dfbcb7b7ce370938116c648f40b28255eeafdaa52e2c24cc3", func := "turnspit/turnspitlaw22.SpawnEnds", spec := "spawnEnds", unfollowed := true, recurses := true, apart := false, narrowed := true }
def SpawnEndsUptoSaid : Prop := spawnEndsUptoRow.holds Tryz.pinned (OpenSpec.upto spawnEndsSpec)

/-- 'turnspitlaw22.SpawnRefused', WHERE WHAT IT READS IS OF BULK AT MOST 1048576: true; the input reads as it did. -/
def spawnRefusedUptoRow : OpenClaim := { program := "ytcjidigpdecdlaagreat", sum := "beab44f1ba76465dfbcb7b7ce370938116c648f40b28255eeafdaa52e2c24cc3", func := "turnspit/turnspitlaw22.SpawnRefused", spec := "spawnRefused", unfollowed := true, recurses := true, apart := false, narrowed := true }
def SpawnRefusedUptoSaid : Prop := spawnRefusedUptoRow.holds Tryz.pinned (OpenSpec.upto spawnRefusedSpec)

/-- 'turnspitlaw22.SpawnMany', WHERE WHAT IT READS IS OF BULK AT MOST 1048576: true; the input reads as it did. -/
def spawnManyUptoRow : OpenClaim := { program := "ytcjidigpdecdlaagreat", sum := "beab44f1ba76465dfbcb7b7ce370938116c648f40b28255eeafdaa52e2c24cc3", func := "turnspit/turnspitlaw22.SpawnMany", spec := "spawnMany", unfollowed := true, recurses := true, apart := false, narrowed := true }
def SpawnManyUptoSaid : Prop := spawnManyUptoRow.holds Tryz.pinned (OpenSpec.upto spawnManySpec)

/-- 'turnspitlaw23.ReadyReadies', WHERE WHAT IT READS IS OF BULK AT MOST 1048576: true; the input reads as it did. -/
def readyReadiesUptoRow : OpenClaim := { program := "ytcjidigpdecdlaagreat", sum := "beab44f1ba76465dfbcb7b7ce370938116c648f40b28255eeafdaa52e2c24cc3", func := "turnspit/turnspitlaw23.ReadyReadies", spec := "readyReadies", unfollowed := true, recurses := true, apart := false, narrowed := true }
def ReadyReadiesUptoSaid : Prop := readyReadiesUptoRow.holds Tryz.pinned (OpenSpec.upto readyReadiesSpec)

/-- 'turnspitlaw23.ReadyGives', WHERE WHAT IT READS IS OF BULK AT MOST 1048576: true; the input reads as it did. -/
def readyGivesUptoRow : OpenClaim := { program := "ytcjidigpdecdlaagreat", sum := "beab44f1ba76465dfbcb7b7ce370938116c648f40b28255eeafdaa52e2c24cc3", func := "turnspit/turnspitlaw23.ReadyGives", spec := "readyGives", unfollowed := true, recurses := true, apart := false, narrowed := true }
def ReadyGivesUptoSaid : Prop := readyGivesUptoRow.holds Tryz.pinned (OpenSpec.upto readyGivesSpec)

/-- 'turnspitlaw23.ReadyOnce', WHERE WHAT IT READS IS OF BULK AT MOST 1048576: true; the input reads as it did. -/
def readyOnceUptoRow : OpenClaim := { program := "ytcjidigpdecdlaagreat", sum := "beab44f1ba76465dfbcb7b7ce370938116c648f40b28255eeafdaa52e2c24cc3", func := "turnspit/turnspitlaw23.ReadyOnce", spec := "readyOnce", unfollowed := true, recurses := true, apart := false, narrowed := true }
def ReadyOnceUptoSaid : Prop := readyOnceUptoRow.holds Tryz.pinned (OpenSpec.upto readyOnceSpec)

/-- 'turnspitlaw24.SyscIn', WHERE WHAT IT READS IS OF BULK AT MOST 1048576: true; the input reads as it did. -/
def syscInUptoRow : OpenClaim := { program := "ytcjidigpdecdlaagreat", sum := "beab44f1ba76465dfbcb7b7ce370938116c648f40b28255eeafdaa52e2c24cc3", func := "turnspit/turnspitlaw24.SyscIn", spec := "syscIn", unfollowed := true, recurses := true, apart := false, narrowed := true }
def SyscInUptoSaid : Prop := syscInUptoRow.holds Tryz.pinned (OpenSpec.upto syscInSpec)

/-- 'turnspitlaw24.SyscOut', WHERE WHAT IT READS IS OF BULK AT MOST 1048576: true; the input reads as it did. -/
def syscOutUptoRow : OpenClaim := { program := "ytcjidigpdecdlaagreat", sum := "beab44f1ba76465dfbcb7b7ce370938116c648f40b28255eeafdaa52e2c24cc3", func := "turnspit/turnspitlaw24.SyscOut", spec := "syscOut", unfollowed := true, recurses := true, apart := false, narrowed := true }
def SyscOutUptoSaid : Prop := syscOutUptoRow.holds Tryz.pinned (OpenSpec.upto syscOutSpec)

/-- 'turnspitlaw24.SyscHas', WHERE WHAT IT READS IS OF BULK AT MOST 1048576: true; the input reads as it did. -/
def syscHasUptoRow : OpenClaim := { program := "ytcjidigpdecdlaagreat", sum := "beab44f1ba76465dfbcb7b7ce370938116c648f40b28255eeafdaa52e2c24cc3", func := "turnspit/turnspitlaw24.SyscHas", spec := "syscHas", unfollowed := true, recurses := true, apart := false, narrowed := true }
def SyscHasUptoSaid : Prop := syscHasUptoRow.holds Tryz.pinned (OpenSpec.upto syscHasSpec)

/-- 'turnspitlaw24.SyscTwo', WHERE WHAT IT READS IS OF BULK AT MOST 1048576: true; the input reads as it did. -/
def syscTwoUptoRow : OpenClaim := { program := "ytcjidigpdecdlaagreat", sum := "beab44f1ba76465dfbcb7b7ce370938116c648f40b28255eeafdaa52e2c24cc3", func := "turnspit/turnspitlaw24.SyscTwo", spec := "syscTwo", unfollowed := true, recurses := true, apart := false, narrowed := true }
def SyscTwoUptoSaid : Prop := syscTwoUptoRow.holds Tryz.pinned (OpenSpec.upto syscTwoSpec)

end Rows
end Go.Proofs.YtcjidigpdecdlaaGreat
