/-
  No cell of these rows narrows 'for every input' (looked for: loops, veiled, ifaces, maps, wideKeys, modest, calm, conditions, laid).
  DERIVED. THE GIVEN ROWS OF THIS SEAT. 10 by the template 'for every input the law returns true; each argument reads behind the call as it read before'; 0 by the template 'total and deterministic' (their statements: YtjbkhnolnlcjnaaTotals.lean).
  GIVEN WITH THE SEED: the statements are not yours to turn. If you find one false, say at which input.
  Laid BY PROGRAM, IN A SANDBOX (cutbox-rows.mjs): the forced cells as the released guide's own fill.sh prints them over the translation ea1e72007e0b694b… (all of the seat's roots in one cut). By AI agents, Wed Nov 11 2026. No macro, syntax, notation, axiom, sorry.
-/
import Derived.Test.YtjbkhnolnlcjnaaChecked
import GoSem.Claim
import GoSem.ClaimJoined
import GoSem.ClaimMapViews
import Derived.JoinedTies
import Derived.KernelRfl
namespace Go.Proofs.Ytjbkhnolnlcjnaa
/- THE CELL 'sum', in the pinned program and in every row, IS THE sha256 OF THE DUMP (.gsa) THAT YtjbkhnolnlcjnaaProg.lean LOADS. Nothing in Lean hashes anything: it is a label: what it is worth is what the hold of that sum in a sandbox is worth. -/
noncomputable def Try.pinned : Pinned := { name := "ytjbkhnolnlcjnaa", sum := "ea1e72007e0b694ba9336fe4a0145d4ff4e8f7cb48ef7dd2bbbcc124188150dc", checked := Try.checked }
namespace Rows
def none {H : Type} : Left H := { results := [], args := [] }

/-- 'turnspitlaw07.FlowChains': WHATEVER THE INPUT: true; the input reads as it did. -/
def flowChainsSpec : ChangeSpec := { name := "flowChains", fn := fun _ => fun
  | [d1, d2, d3] => { results := [.lit (.bool true)], args := [d1, d2, d3] }
  | _ => none }
def flowChainsRow : OpenClaim := { program := "ytjbkhnolnlcjnaa", sum := "ea1e72007e0b694ba9336fe4a0145d4ff4e8f7cb48ef7dd2bbbcc124188150dc", func := "turnspit/turnspitlaw07.FlowChains", spec := "flowChains", unfollowed := true, recurses := true, apart := false }
def FlowChainsSaid : Prop := flowChainsRow.holds Try.pinned (OpenSpec.ofChange flowChainsSpec)

/-- ITS FALSE NEIGHBOUR: 'it returns false'. Refute it at one input. -/
def flowChainsWrong : ChangeSpec := { name := "flowChains", fn := fun _ => fun
  | [d1, d2, d3] => { results := [.lit (.bool false)], args := [d1, d2, d3] }
  | _ => none }
def FlowChainsWrongFalsely : Prop := flowChainsRow.holds Try.pinned (OpenSpec.ofChange flowChainsWrong)

/-- 'turnspitlaw07.FlowParts': WHATEVER THE INPUT: true; the input reads as it did. -/
def flowPartsSpec : ChangeSpec := { name := "flowParts", fn := fun _ => fun
  | [d1, d2] => { results := [.lit (.bool true)], args := [d1, d2] }
  | _ => none }
def flowPartsRow : OpenClaim := { program := "ytjbkhnolnlcjnaa", sum := "ea1e72007e0b694ba9336fe4a0145d4ff4e8f7cb48ef7dd2bbbcc124188150dc", func := "turnspit/turnspitlaw07.FlowParts", spec := "flowParts", unfollowed := true, recurses := true, apart := false }
def FlowPartsSaid : Prop := flowPartsRow.holds Try.pinned (OpenSpec.ofChange flowPartsSpec)

/-- ITS FALSE NEIGHBOUR: 'it returns false'. Refute it at one input. -/
def flowPartsWrong : ChangeSpec := { name := "flowParts", fn := fun _ => fun
  | [d1, d2] => { results := [.lit (.bool false)], args := [d1, d2] }
  | _ => none }
def FlowPartsWrongFalsely : Prop := flowPartsRow.holds Try.pinned (OpenSpec.ofChange flowPartsWrong)

/-- 'turnspitlaw07.FlowNone': WHATEVER THE INPUT: true; the input reads as it did. -/
def flowNoneSpec : ChangeSpec := { name := "flowNone", fn := fun _ => fun
  | [d] => { results := [.lit (.bool true)], args := [d] }
  | _ => none }
def flowNoneRow : OpenClaim := { program := "ytjbkhnolnlcjnaa", sum := "ea1e72007e0b694ba9336fe4a0145d4ff4e8f7cb48ef7dd2bbbcc124188150dc", func := "turnspit/turnspitlaw07.FlowNone", spec := "flowNone", unfollowed := true, recurses := true, apart := false }
def FlowNoneSaid : Prop := flowNoneRow.holds Try.pinned (OpenSpec.ofChange flowNoneSpec)

/-- ITS FALSE NEIGHBOUR: 'it returns false'. Refute it at one input. -/
def flowNoneWrong : ChangeSpec := { name := "flowNone", fn := fun _ => fun
  | [d] => { results := [.lit (.bool false)], args := [d] }
  | _ => none }
def FlowNoneWrongFalsely : Prop := flowNoneRow.holds Try.pinned (OpenSpec.ofChange flowNoneWrong)

/-- 'turnspitlaw08.LockSteps': WHATEVER THE INPUT: true; the input reads as it did. -/
def lockStepsSpec : ChangeSpec := { name := "lockSteps", fn := fun _ => fun
  | [d1, d2, d3] => { results := [.lit (.bool true)], args := [d1, d2, d3] }
  | _ => none }
def lockStepsRow : OpenClaim := { program := "ytjbkhnolnlcjnaa", sum := "ea1e72007e0b694ba9336fe4a0145d4ff4e8f7cb48ef7dd2bbbcc124188150dc", func := "turnspit/turnspitlaw08.LockSteps", spec := "lockSteps", unfollowed := true, recurses := true, apart := false }
def LockStepsSaid : Prop := lockStepsRow.holds Try.pinned (OpenSpec.ofChange lockStepsSpec)

/-- ITS FALSE NEIGHBOUR: 'it returns false'. Refute it at one input. -/
def lockStepsWrong : ChangeSpec := { name := "lockSteps", fn := fun _ => fun
  | [d1, d2, d3] => { results := [.lit (.bool false)], args := [d1, d2, d3] }
  | _ => none }
def LockStepsWrongFalsely : Prop := lockStepsRow.holds Try.pinned (OpenSpec.ofChange lockStepsWrong)

/-- 'turnspitlaw08.LockReleases': WHATEVER THE INPUT: true; the input reads as it did. -/
def lockReleasesSpec : ChangeSpec := { name := "lockReleases", fn := fun _ => fun
  | [d1, d2, d3] => { results := [.lit (.bool true)], args := [d1, d2, d3] }
  | _ => none }
def lockReleasesRow : OpenClaim := { program := "ytjbkhnolnlcjnaa", sum := "ea1e72007e0b694ba9336fe4a0145d4ff4e8f7cb48ef7dd2bbbcc124188150dc", func := "turnspit/turnspitlaw08.LockReleases", spec := "lockReleases", unfollowed := true, recurses := true, apart := false }
def LockReleasesSaid : Prop := lockReleasesRow.holds Try.pinned (OpenSpec.ofChange lockReleasesSpec)

/-- ITS FALSE NEIGHBOUR: 'it returns false'. Refute it at one input. -/
def lockReleasesWrong : ChangeSpec := { name := "lockReleases", fn := fun _ => fun
  | [d1, d2, d3] => { results := [.lit (.bool false)], args := [d1, d2, d3] }
  | _ => none }
def LockReleasesWrongFalsely : Prop := lockReleasesRow.holds Try.pinned (OpenSpec.ofChange lockReleasesWrong)

/-- 'turnspitlaw08.LockAlone': WHATEVER THE INPUT: true; the input reads as it did. -/
def lockAloneSpec : ChangeSpec := { name := "lockAlone", fn := fun _ => fun
  | [d1, d2, d3] => { results := [.lit (.bool true)], args := [d1, d2, d3] }
  | _ => none }
def lockAloneRow : OpenClaim := { program := "ytjbkhnolnlcjnaa", sum := "ea1e72007e0b694ba9336fe4a0145d4ff4e8f7cb48ef7dd2bbbcc124188150dc", func := "turnspit/turnspitlaw08.LockAlone", spec := "lockAlone", unfollowed := true, recurses := true, apart := false }
def LockAloneSaid : Prop := lockAloneRow.holds Try.pinned (OpenSpec.ofChange lockAloneSpec)

/-- ITS FALSE NEIGHBOUR: 'it returns false'. Refute it at one input. -/
def lockAloneWrong : ChangeSpec := { name := "lockAlone", fn := fun _ => fun
  | [d1, d2, d3] => { results := [.lit (.bool false)], args := [d1, d2, d3] }
  | _ => none }
def LockAloneWrongFalsely : Prop := lockAloneRow.holds Try.pinned (OpenSpec.ofChange lockAloneWrong)

/-- 'turnspitlaw08.LockNone': WHATEVER THE INPUT: true; the input reads as it did. -/
def lockNoneSpec : ChangeSpec := { name := "lockNone", fn := fun _ => fun
  | [d] => { results := [.lit (.bool true)], args := [d] }
  | _ => none }
def lockNoneRow : OpenClaim := { program := "ytjbkhnolnlcjnaa", sum := "ea1e72007e0b694ba9336fe4a0145d4ff4e8f7cb48ef7dd2bbbcc124188150dc", func := "turnspit/turnspitlaw08.LockNone", spec := "lockNone", unfollowed := true, recurses := true, apart := false }
def LockNoneSaid : Prop := lockNoneRow.holds Try.pinned (OpenSpec.ofChange lockNoneSpec)

/-- ITS FALSE NEIGHBOUR: 'it returns false'. Refute it at one input. -/
def lockNoneWrong : ChangeSpec := { name := "lockNone", fn := fun _ => fun
  | [d] => { results := [.lit (.bool false)], args := [d] }
  | _ => none }
def LockNoneWrongFalsely : Prop := lockNoneRow.holds Try.pinned (OpenSpec.ofChange lockNoneWrong)

/-- 'turnspitlaw09.NoteSteps': WHATEVER THE INPUT: true; the input reads as it did. -/
def noteStepsSpec : ChangeSpec := { name := "noteSteps", fn := fun _ => fun
  | [d1, d2, d3] => { results := [.lit (.bool true)], args := [d1, d2, d3] }
  | _ => none }
def noteStepsRow : OpenClaim := { program := "ytjbkhnolnlcjnaa", sum := "ea1e72007e0b694ba9336fe4a0145d4ff4e8f7cb48ef7dd2bbbcc124188150dc", func := "turnspit/turnspitlaw09.NoteSteps", spec := "noteSteps", unfollowed := true, recurses := true, apart := false }
def NoteStepsSaid : Prop := noteStepsRow.holds Try.pinned (OpenSpec.ofChange noteStepsSpec)

/-- ITS FALSE NEIGHBOUR: 'it returns false'. Refute it at one input. -/
def noteStepsWrong : ChangeSpec := { name := "noteSteps", fn := fun _ => fun
  | [d1, d2, d3] => { results := [.lit (.bool false)], args := [d1, d2, d3] }
  | _ => none }
def NoteStepsWrongFalsely : Prop := noteStepsRow.holds Try.pinned (OpenSpec.ofChange noteStepsWrong)

/-- 'turnspitlaw09.NoteWakes': WHATEVER THE INPUT: true; the input reads as it did. -/
def noteWakesSpec : ChangeSpec := { name := "noteWakes", fn := fun _ => fun
  | [d1, d2, d3] => { results := [.lit (.bool true)], args := [d1, d2, d3] }
  | _ => none }
def noteWakesRow : OpenClaim := { program := "ytjbkhnolnlcjnaa", sum := "ea1e72007e0b694ba9336fe4a0145d4ff4e8f7cb48ef7dd2bbbcc124188150dc", func := "turnspit/turnspitlaw09.NoteWakes", spec := "noteWakes", unfollowed := true, recurses := true, apart := false }
def NoteWakesSaid : Prop := noteWakesRow.holds Try.pinned (OpenSpec.ofChange noteWakesSpec)

/-- ITS FALSE NEIGHBOUR: 'it returns false'. Refute it at one input. -/
def noteWakesWrong : ChangeSpec := { name := "noteWakes", fn := fun _ => fun
  | [d1, d2, d3] => { results := [.lit (.bool false)], args := [d1, d2, d3] }
  | _ => none }
def NoteWakesWrongFalsely : Prop := noteWakesRow.holds Try.pinned (OpenSpec.ofChange noteWakesWrong)

/-- 'turnspitlaw09.NoteKeeps': WHATEVER THE INPUT: true; the input reads as it did. -/
def noteKeepsSpec : ChangeSpec := { name := "noteKeeps", fn := fun _ => fun
  | [d1, d2, d3] => { results := [.lit (.bool true)], args := [d1, d2, d3] }
  | _ => none }
def noteKeepsRow : OpenClaim := { program := "ytjbkhnolnlcjnaa", sum := "ea1e72007e0b694ba9336fe4a0145d4ff4e8f7cb48ef7dd2bbbcc124188150dc", func := "turnspit/turnspitlaw09.NoteKeeps", spec := "noteKeeps", unfollowed := true, recurses := true, apart := false }
def NoteKeepsSaid : Prop := noteKeepsRow.holds Try.pinned (OpenSpec.ofChange noteKeepsSpec)

/-- ITS FALSE NEIGHBOUR: 'it returns false'. Refute it at one input. -/
def noteKeepsWrong : ChangeSpec := { name := "noteKeeps", fn := fun _ => fun
  | [d1, d2, d3] => { results := [.lit (.bool false)], args := [d1, d2, d3] }
  | _ => none }
def NoteKeepsWrongFalsely : Prop := noteKeepsRow.holds Try.pinned (OpenSpec.ofChange noteKeepsWrong)

/- THE SECOND FORM. 'bulk': how many values and letters a reading holds, each counted each time it is reached (what is shared counts as often as it is met; a slice's spare places count too). A statement '..UptoSaid' is the law's where the arguments, and the package variables that the reading takes, are together of bulk at most 1048576: NARROWER than '..Said'. Prove '..Said' where nothing that the law and all that it calls make is longer than what came in: it says more and counts as full. Else prove '..UptoSaid'. A law counts once. -/
mutual
def uptoBulk {H : Type} : DataW H → Nat
  | .lit (.string bytes) => bytes.length + 1
  | .lit _ => 1
  | .nil => 1
  | .ptr d => uptoBulk d + 1
  | .slice elems spare => uptoBulkAll elems + uptoBulkAll spare + 1
  | .agg parts => uptoBulkAll parts + 1
  | .iface _ d => uptoBulk d + 1
  | .map entries => uptoBulkEntries entries + 1
  | .held _ => 1
def uptoBulkAll {H : Type} : List (DataW H) → Nat
  | [] => 0
  | d :: r => uptoBulk d + uptoBulkAll r
def uptoBulkEntries {H : Type} : List (Lit × DataW H) → Nat
  | [] => 0
  | x :: r => uptoBulkEntry x + uptoBulkEntries r
def uptoBulkEntry {H : Type} : Lit × DataW H → Nat
  | (.string bytes, d) => bytes.length + uptoBulk d + 1
  | (_, d) => uptoBulk d + 1
 end
def uptoSmall : (H : Type) → List (DataW H) → Bool := fun _ ds => decide (uptoBulkAll ds ≤ 1048576)
def OpenSpec.upto (s : _root_.Go.ChangeSpec) : _root_.Go.OpenSpec := { _root_.Go.OpenSpec.ofChange s with cond := some uptoSmall }

/-- 'turnspitlaw07.FlowChains', WHERE WHAT IT READS IS OF BULK AT MOST 1048576: true; the input reads as it did. -/
def flowChainsUptoRow : OpenClaim := { program := "ytjbkhnolnlcjnaa", sum := "ea1e72007e0b694ba9336fe4a0145d4ff4e8f7cb48ef7dd2bbbcc124188150dc", func := "turnspit/turnspitlaw07.FlowChains", spec := "flowChains", unfollowed := true, recurses := true, apart := false, narrowed := true }
def FlowChainsUptoSaid : Prop := flowChainsUptoRow.holds Try.pinned (OpenSpec.upto flowChainsSpec)

/-- 'turnspitlaw07.FlowParts', WHERE WHAT IT READS IS OF BULK AT MOST 1048576: true; the input reads as it did. -/
def flowPartsUptoRow : OpenClaim := { program := "ytjbkhnolnlcjnaa", sum := "ea1e72007e0b694ba9336fe4a0145d4ff4e8f7cb48ef7dd2bbbcc124188150dc", func := "turnspit/turnspitlaw07.FlowParts", spec := "flowParts", unfollowed := true, recurses := true, apart := false, narrowed := true }
def FlowPartsUptoSaid : Prop := flowPartsUptoRow.holds Try.pinned (OpenSpec.upto flowPartsSpec)

/-- 'turnspitlaw07.FlowNone', WHERE WHAT IT READS IS OF BULK AT MOST 1048576: true; the input reads as it did. -/
def flowNoneUptoRow : OpenClaim := { program := "ytjbkhnolnlcjnaa", sum := "ea1e72007e0b694ba9336fe4a0145d4ff4e8f7cb48ef7dd2bbbcc124188150dc", func := "turnspit/turnspitlaw07.FlowNone", spec := "flowNone", unfollowed := true, recurses := true, apart := false, narrowed := true }
def FlowNoneUptoSaid : Prop := flowNoneUptoRow.holds Try.pinned (OpenSpec.upto flowNoneSpec)

/-- 'turnspitlaw08.LockSteps', WHERE WHAT IT READS IS OF BULK AT MOST 1048576: true; the input reads as it did. -/
def lockStepsUptoRow : OpenClaim := { program := "ytjbkhnolnlcjnaa", sum := "ea1e72007e0b694ba9336fe4a0145d4ff4e8f7cb48ef7dd2bbbcc124188150dc", func := "turnspit/turnspitlaw08.LockSteps", spec := "lockSteps", unfollowed := true, recurses := true, apart := false, narrowed := true }
def LockStepsUptoSaid : Prop := lockStepsUptoRow.holds Try.pinned (OpenSpec.upto lockStepsSpec)

/-- 'turnspitlaw08.LockReleases', WHERE WHAT IT READS IS OF BULK AT MOST 1048576: true; the input reads as it did. -/
def lockReleasesUptoRow : OpenClaim := { program := "ytjbkhnolnlcjnaa", sum := "ea1e72007e0b694ba9336fe4a0145d4ff4e8f7cb48ef7dd2bbbcc124188150dc", func := "turnspit/turnspitlaw08.LockReleases", spec := "lockReleases", unfollowed := true, recurses := true, apart := false, narrowed := true }
def LockReleasesUptoSaid : Prop := lockReleasesUptoRow.holds Try.pinned (OpenSpec.upto lockReleasesSpec)

/-- 'turnspitlaw08.LockAlone', WHERE WHAT IT READS IS OF BULK AT MOST 1048576: true; the input reads as it did. -/
def lockAloneUptoRow : OpenClaim := { program := "ytjbkhnolnlcjnaa", sum := "ea1e72007e0b694ba9336fe4a0145d4ff4e8f7cb48ef7dd2bbbcc124188150dc", func := "turnspit/turnspitlaw08.LockAlone", spec := "lockAlone", unfollowed := true, recurses := true, apart := false, narrowed := true }
def LockAloneUptoSaid : Prop := lockAloneUptoRow.holds Try.pinned (OpenSpec.upto lockAloneSpec)

/-- 'turnspitlaw08.LockNone', WHERE WHAT IT READS IS OF BULK AT MOST 1048576: true; the input reads as it did. -/
def lockNoneUptoRow : OpenClaim := { program := "ytjbkhnolnlcjnaa", sum := "ea1e72007e0b694ba9336fe4a0145d4ff4e8f7cb48ef7dd2bbbcc124188150dc", func := "turnspit/turnspitlaw08.LockNone", spec := "lockNone", unfollowed := true, recurses := true, apart := false, narrowed := true }
def LockNoneUptoSaid : Prop := lockNoneUptoRow.holds Try.pinned (OpenSpec.upto lockNoneSpec)

/-- 'turnspitlaw09.NoteSteps', WHERE WHAT IT READS IS OF BULK AT MOST 1048576: true; the input reads as it did. -/
def noteStepsUptoRow : OpenClaim := { program := "ytjbkhnolnlcjnaa", sum := "ea1e72007e0b694ba9336fe4a0145d4ff4e8f7cb48ef7dd2bbbcc124188150dc", func := "turnspit/turnspitlaw09.NoteSteps", spec := "noteSteps", unfollowed := true, recurses := true, apart := false, narrowed := true }
def NoteStepsUptoSaid : Prop := noteStepsUptoRow.holds Try.pinned (OpenSpec.upto noteStepsSpec)

/-- 'turnspitlaw09.NoteWakes', WHERE WHAT IT READS IS OF BULK AT MOST 1048576: true; the input reads as it did. -/
def noteWakesUptoRow : OpenClaim := { program := "ytjbkhnolnlcjnaa", sum := "ea1e72007e0b694ba9336fe4a0145d4ff4e8f7cb48ef7dd2bbbcc124188150dc", func := "turnspit/turnspitlaw09.NoteWakes", spec := "noteWakes", unfollowed := true, recurses := true, apart := false, narrowed := true }
def NoteWakesUptoSaid : Prop := noteWakesUptoRow.holds Try.pinned (OpenSpec.upto noteWakesSpec)

/-- 'turnspitlaw09.NoteKeeps', WHERE WHAT IT READS IS OF BULK AT MOST 1048576: true; the input reads as it did. -/
def noteKeepsUptoRow : OpenClaim := { program := "ytjbkhnolnlcjnaa", sum := "ea1e72007e0b694ba9336fe4a0145d4ff4e8f7cb48ef7dd2bbbcc124188150dc", func := "turnspit/turnspitlaw09.NoteKeeps", spec := "noteKeeps", unfollowed := true, recurses := true, apart := false, narrowed := true }
def NoteKeepsUptoSaid : Prop := noteKeepsUptoRow.holds Try.pinned (OpenSpec.upto noteKeepsSpec)

end Rows
end Go.Proofs.Ytjbkhnolnlcjnaa
