/-
  No cell of these rows narrows 'for every input' (looked for: loops, veiled, ifaces, maps, wideKeys, modest, calm, conditions, laid).
  DERIVED. THE GIVEN ROWS OF THIS SEAT. 8 by the template 'for every input the law returns true; each argument reads behind the call as it read before'; 0 by the template 'total and deterministic' (their statements: YthbgoakaijeemaaGreatTotals.lean).
  GIVEN WITH THE SEED: the statements are not yours to turn. If you find one false, say at which input.
  Laid BY PROGRAM, IN A SANDBOX (cutbox-rows.mjs): the forced cells as the released guide's own fill.sh prints them over the translation e0445fcc2ba0b607… (all of the seat's roots in one cut). By AI agents, Wed Nov 11 2026. No macro, syntax, notation, axiom, sorry.
-/
import Derived.Test.YthbgoakaijeemaaGreatChecked
import GoSem.Claim
import GoSem.ClaimJoined
import GoSem.ClaimMapViews
import Derived.JoinedTies
import Derived.KernelRfl
namespace Go.Proofs.YthbgoakaijeemaaGreat
/- THE CELL 'sum', in the pinned program and in every row, IS THE sha256 OF THE DUMP (.gsa) THAT YthbgoakaijeemaaGreatProg.lean LOADS. Nothing in Lean hashes anything: it is a label: what it is worth is what the hold of that sum in a sandbox is worth. -/
noncomputable def Tryz.pinned : Pinned := { name := "ythbgoakaijeemaagreat", sum := "e0445fcc2ba0b60794f1776674a08457b037b83b9f2ff8eddd30c37160d925b5", checked := Tryz.checked }
namespace Rows
def none {H : Type} : Left H := { results := [], args := [] }

/-- 'turnspitlaw19.WakeStarts': WHATEVER THE INPUT: true; the input reads as it did. -/
def wakeStartsSpec : ChangeSpec := { name := "wakeStarts", fn := fun _ => fun
  | [d1, d2, d3] => { results := [.lit (.bool true)], args := [d1, d2, d3] }
  | _ => none }
def wakeStartsRow : OpenClaim := { program := "ythbgoakaijeemaagreat", sum := "e0445fcc2ba0b60794f1776674a08457b037b83b9f2ff8eddd30c37160d925b5", func := "turnspit/turnspitlaw19.WakeStarts", spec := "wakeStarts", unfollowed := true, recurses := true, apart := false }
def WakeStartsSaid : Prop := wakeStartsRow.holds Tryz.pinned (OpenSpec.ofChange wakeStartsSpec)

/-- ITS FALSE NEIGHBOUR: 'it returns false'. Refute it at one input. -/
def wakeStartsWrong : ChangeSpec := { name := "wakeStarts", fn := fun _ => fun
  | [d1, d2, d3] => { results := [.lit (.bool false)], args := [d1, d2, d3] }
  | _ => none }
def WakeStartsWrongFalsely : Prop := wakeStartsRow.holds Tryz.pinned (OpenSpec.ofChange wakeStartsWrong)

/-- 'turnspitlaw19.WakeWakes': WHATEVER THE INPUT: true; the input reads as it did. -/
def wakeWakesSpec : ChangeSpec := { name := "wakeWakes", fn := fun _ => fun
  | [d1, d2, d3] => { results := [.lit (.bool true)], args := [d1, d2, d3] }
  | _ => none }
def wakeWakesRow : OpenClaim := { program := "ythbgoakaijeemaagreat", sum := "e0445fcc2ba0b60794f1776674a08457b037b83b9f2ff8eddd30c37160d925b5", func := "turnspit/turnspitlaw19.WakeWakes", spec := "wakeWakes", unfollowed := true, recurses := true, apart := false }
def WakeWakesSaid : Prop := wakeWakesRow.holds Tryz.pinned (OpenSpec.ofChange wakeWakesSpec)

/-- ITS FALSE NEIGHBOUR: 'it returns false'. Refute it at one input. -/
def wakeWakesWrong : ChangeSpec := { name := "wakeWakes", fn := fun _ => fun
  | [d1, d2, d3] => { results := [.lit (.bool false)], args := [d1, d2, d3] }
  | _ => none }
def WakeWakesWrongFalsely : Prop := wakeWakesRow.holds Tryz.pinned (OpenSpec.ofChange wakeWakesWrong)

/-- 'turnspitlaw19.WakeWords': WHATEVER THE INPUT: true; the input reads as it did. -/
def wakeWordsSpec : ChangeSpec := { name := "wakeWords", fn := fun _ => fun
  | [d1, d2, d3] => { results := [.lit (.bool true)], args := [d1, d2, d3] }
  | _ => none }
def wakeWordsRow : OpenClaim := { program := "ythbgoakaijeemaagreat", sum := "e0445fcc2ba0b60794f1776674a08457b037b83b9f2ff8eddd30c37160d925b5", func := "turnspit/turnspitlaw19.WakeWords", spec := "wakeWords", unfollowed := true, recurses := true, apart := false }
def WakeWordsSaid : Prop := wakeWordsRow.holds Tryz.pinned (OpenSpec.ofChange wakeWordsSpec)

/-- ITS FALSE NEIGHBOUR: 'it returns false'. Refute it at one input. -/
def wakeWordsWrong : ChangeSpec := { name := "wakeWords", fn := fun _ => fun
  | [d1, d2, d3] => { results := [.lit (.bool false)], args := [d1, d2, d3] }
  | _ => none }
def WakeWordsWrongFalsely : Prop := wakeWordsRow.holds Tryz.pinned (OpenSpec.ofChange wakeWordsWrong)

/-- 'turnspitlaw19.WakeMany': WHATEVER THE INPUT: true; the input reads as it did. -/
def wakeManySpec : ChangeSpec := { name := "wakeMany", fn := fun _ => fun
  | [d1, d2] => { results := [.lit (.bool true)], args := [d1, d2] }
  | _ => none }
def wakeManyRow : OpenClaim := { program := "ythbgoakaijeemaagreat", sum := "e0445fcc2ba0b60794f1776674a08457b037b83b9f2ff8eddd30c37160d925b5", func := "turnspit/turnspitlaw19.WakeMany", spec := "wakeMany", unfollowed := true, recurses := true, apart := false }
def WakeManySaid : Prop := wakeManyRow.holds Tryz.pinned (OpenSpec.ofChange wakeManySpec)

/-- ITS FALSE NEIGHBOUR: 'it returns false'. Refute it at one input. -/
def wakeManyWrong : ChangeSpec := { name := "wakeMany", fn := fun _ => fun
  | [d1, d2] => { results := [.lit (.bool false)], args := [d1, d2] }
  | _ => none }
def WakeManyWrongFalsely : Prop := wakeManyRow.holds Tryz.pinned (OpenSpec.ofChange wakeManyWrong)

/-- 'turnspitlaw20.RestNaps': WHATEVER THE INPUT: true; the input reads as it did. -/
def restNapsSpec : ChangeSpec := { name := "restNaps", fn := fun _ => fun
  | [d1, d2, d3] => { results := [.lit (.bool true)], args := [d1, d2, d3] }
  | _ => none }
def restNapsRow : OpenClaim := { program := "ythbgoakaijeemaagreat", sum := "e0445fcc2ba0b60794f1776674a08457b037b83b9f2ff8eddd30c37160d925b5", func := "turnspit/turnspitlaw20.RestNaps", spec := "restNaps", unfollowed := true, recurses := true, apart := false }
def RestNapsSaid : Prop := restNapsRow.holds Tryz.pinned (OpenSpec.ofChange restNapsSpec)

/-- ITS FALSE NEIGHBOUR: 'it returns false'. Refute it at one input. -/
def restNapsWrong : ChangeSpec := { name := "restNaps", fn := fun _ => fun
  | [d1, d2, d3] => { results := [.lit (.bool false)], args := [d1, d2, d3] }
  | _ => none }
def RestNapsWrongFalsely : Prop := restNapsRow.holds Tryz.pinned (OpenSpec.ofChange restNapsWrong)

/-- 'turnspitlaw20.RestRests': WHATEVER THE INPUT: true; the input reads as it did. -/
def restRestsSpec : ChangeSpec := { name := "restRests", fn := fun _ => fun
  | [d1, d2, d3] => { results := [.lit (.bool true)], args := [d1, d2, d3] }
  | _ => none }
def restRestsRow : OpenClaim := { program := "ythbgoakaijeemaagreat", sum := "e0445fcc2ba0b60794f1776674a08457b037b83b9f2ff8eddd30c37160d925b5", func := "turnspit/turnspitlaw20.RestRests", spec := "restRests", unfollowed := true, recurses := true, apart := false }
def RestRestsSaid : Prop := restRestsRow.holds Tryz.pinned (OpenSpec.ofChange restRestsSpec)

/-- ITS FALSE NEIGHBOUR: 'it returns false'. Refute it at one input. -/
def restRestsWrong : ChangeSpec := { name := "restRests", fn := fun _ => fun
  | [d1, d2, d3] => { results := [.lit (.bool false)], args := [d1, d2, d3] }
  | _ => none }
def RestRestsWrongFalsely : Prop := restRestsRow.holds Tryz.pinned (OpenSpec.ofChange restRestsWrong)

/-- 'turnspitlaw20.RestSpins': WHATEVER THE INPUT: true; the input reads as it did. -/
def restSpinsSpec : ChangeSpec := { name := "restSpins", fn := fun _ => fun
  | [d1, d2, d3] => { results := [.lit (.bool true)], args := [d1, d2, d3] }
  | _ => none }
def restSpinsRow : OpenClaim := { program := "ythbgoakaijeemaagreat", sum := "e0445fcc2ba0b60794f1776674a08457b037b83b9f2ff8eddd30c37160d925b5", func := "turnspit/turnspitlaw20.RestSpins", spec := "restSpins", unfollowed := true, recurses := true, apart := false }
def RestSpinsSaid : Prop := restSpinsRow.holds Tryz.pinned (OpenSpec.ofChange restSpinsSpec)

/-- ITS FALSE NEIGHBOUR: 'it returns false'. Refute it at one input. -/
def restSpinsWrong : ChangeSpec := { name := "restSpins", fn := fun _ => fun
  | [d1, d2, d3] => { results := [.lit (.bool false)], args := [d1, d2, d3] }
  | _ => none }
def RestSpinsWrongFalsely : Prop := restSpinsRow.holds Tryz.pinned (OpenSpec.ofChange restSpinsWrong)

/-- 'turnspitlaw20.RestNeeded': WHATEVER THE INPUT: true; the input reads as it did. -/
def restNeededSpec : ChangeSpec := { name := "restNeeded", fn := fun _ => fun
  | [d1, d2, d3] => { results := [.lit (.bool true)], args := [d1, d2, d3] }
  | _ => none }
def restNeededRow : OpenClaim := { program := "ythbgoakaijeemaagreat", sum := "e0445fcc2ba0b60794f1776674a08457b037b83b9f2ff8eddd30c37160d925b5", func := "turnspit/turnspitlaw20.RestNeeded", spec := "restNeeded", unfollowed := true, recurses := true, apart := false }
def RestNeededSaid : Prop := restNeededRow.holds Tryz.pinned (OpenSpec.ofChange restNeededSpec)

/-- ITS FALSE NEIGHBOUR: 'it returns false'. Refute it at one input. -/
def restNeededWrong : ChangeSpec := { name := "restNeeded", fn := fun _ => fun
  | [d1, d2, d3] => { results := [.lit (.bool false)], args := [d1, d2, d3] }
  | _ => none }
def RestNeededWrongFalsely : Prop := restNeededRow.holds Tryz.pinned (OpenSpec.ofChange restNeededWrong)

/- THE SECOND FORM. 'bulk': how many values and letters a reading holds, each counted each time it is reached (what is shared counts as often as it is met; a slice's spare places count too). A statement '..UptoSaid' is the law's where the arguments, and the package variables that the reading takes, are together of bulk at most 1048576: NARROWER than '..Said'. Prove '..Said' where nothing that the law and all that it calls make is longer than what came in: it says more and counts as full. Else prove '..UptoSaid'. A law counts once. -/
mutual
def uptoBulk {H : Type} : DataW H → Nat
  | .lit (.string bytes) => bytes.length + 1
  | .lit _ => 1
  | .nil => 1
  | .ptr d => uptoBulk d + 1
  | .slice elems spare => uptoBulkAll elems + uptoBulkAll spare + 1
  | .agg parts => uptoBulkAll parts + 1
  | .iface _ d => uptoBulk d + 1
  | .map entries => uptoBulkEntries entries + 1
  | .held _ => 1
def uptoBulkAll {H : Type} : List (DataW H) → Nat
  | [] => 0
  | d :: r => uptoBulk d + uptoBulkAll r
def uptoBulkEntries {H : Type} : List (Lit × DataW H) → Nat
  | [] => 0
  | x :: r => uptoBulkEntry x + uptoBulkEntries r
def uptoBulkEntry {H : Type} : Lit × DataW H → Nat
  | (.string bytes, d) => bytes.length + uptoBulk d + 1
  | (_, d) => uptoBulk d + 1
 end
def uptoSmall : (H : Type) → List (DataW H) → Bool := fun _ ds => decide (uptoBulkAll ds ≤ 1048576)
def OpenSpec.upto (s : _root_.Go.ChangeSpec) : _root_.Go.OpenSpec := { _root_.Go.OpenSpec.ofChange s with cond := some uptoSmall }

/-- 'turnspitlaw19.WakeStarts', WHERE WHAT IT READS IS OF BULK AT MOST 1048576: true; the input reads as it did. -/
def wakeStartsUptoRow : OpenClaim := { program := "ythbgoakaijeemaagreat", sum := "e0445fcc2ba0b60794f1776674a08457b037b83b9f2ff8eddd30c37160d925b5", func := "turnspit/turnspitlaw19.WakeStarts", spec := "wakeStarts", unfollowed := true, recurses := true, apart := false, narrowed := true }
def WakeStartsUptoSaid : Prop := wakeStartsUptoRow.holds Tryz.pinned (OpenSpec.upto wakeStartsSpec)

/-- 'turnspitlaw19.WakeWakes', WHERE WHAT IT READS IS OF BULK AT MOST 1048576: true; the input reads as it did. -/
def wakeWakesUptoRow : OpenClaim := { program := "ythbgoakaijeemaagreat", sum := "e0445fcc2ba0b60794f1776674a08457b037b83b9f2ff8eddd30c37160d925b5", func := "turnspit/turnspitlaw19.WakeWakes", spec := "wakeWakes", unfollowed := true, recurses := true, apart := false, narrowed := true }
def WakeWakesUptoSaid : Prop := wakeWakesUptoRow.holds Tryz.pinned (OpenSpec.upto wakeWakesSpec)

/-- 'turnspitlaw19.WakeWords', WHERE WHAT IT READS IS OF BULK AT MOST 1048576: true; the input reads as it did. -/
def wakeWordsUptoRow : OpenClaim := { program := "ythbgoakaijeemaagreat", sum := "e0445fcc2ba0b60794f1776674a08457b037b83b9f2ff8eddd30c37160d925b5", func := "turnspit/turnspitlaw19.WakeWords", spec := "wakeWords", unfollowed := true, recurses := true, apart := false, narrowed := true }
def WakeWordsUptoSaid : Prop := wakeWordsUptoRow.holds Tryz.pinned (OpenSpec.upto wakeWordsSpec)

/-- 'turnspitlaw19.WakeMany', WHERE WHAT IT READS IS OF BULK AT MOST 1048576: true; the input reads as it did. -/
def wakeManyUptoRow : OpenClaim := { program := "ythbgoakaijeemaagreat", sum := "e0445fcc2ba0b60794f1776674a08457b037b83b9f2ff8eddd30c37160d925b5", func := "turnspit/turnspitlaw19.WakeMany", spec := "wakeMany", unfollowed := true, recurses := true, apart := false, narrowed := true }
def WakeManyUptoSaid : Prop := wakeManyUptoRow.holds Tryz.pinned (OpenSpec.upto wakeManySpec)

/-- 'turnspitlaw20.RestNaps', WHERE WHAT IT READS IS OF BULK AT MOST 1048576: true; the input reads as it did. -/
def restNapsUptoRow : OpenClaim := { program := "ythbgoakaijeemaagreat", sum := "e0445fcc2ba0b60794f1776674a08457b037b83b9f2ff8eddd30c37160d925b5", func := "turnspit/turnspitlaw20.RestNaps", spec := "restNaps", unfollowed := true, recurses := true, apart := false, narrowed := true }
def RestNapsUptoSaid : Prop := restNapsUptoRow.holds Tryz.pinned (OpenSpec.upto restNapsSpec)

/-- 'turnspitlaw20.RestRests', WHERE WHAT IT READS IS OF BULK AT MOST 1048576: true; the input reads as it did. -/
def restRestsUptoRow : OpenClaim := { program := "ythbgoakaijeemaagreat", sum := "e0445fcc2ba0b60794f1776674a08457b037b83b9f2ff8eddd30c37160d925b5", func := "turnspit/turnspitlaw20.RestRests", spec := "restRests", unfollowed := true, recurses := true, apart := false, narrowed := true }
def RestRestsUptoSaid : Prop := restRestsUptoRow.holds Tryz.pinned (OpenSpec.upto restRestsSpec)

/-- 'turnspitlaw20.RestSpins', WHERE WHAT IT READS IS OF BULK AT MOST 1048576: true; the input reads as it did. -/
def restSpinsUptoRow : OpenClaim := { program := "ythbgoakaijeemaagreat", sum := "e0445fcc2ba0b60794f1776674a08457b037b83b9f2ff8eddd30c37160d925b5", func := "turnspit/turnspitlaw20.RestSpins", spec := "restSpins", unfollowed := true, recurses := true, apart := false, narrowed := true }
def RestSpinsUptoSaid : Prop := restSpinsUptoRow.holds Tryz.pinned (OpenSpec.upto restSpinsSpec)

/-- 'turnspitlaw20.RestNeeded', WHERE WHAT IT READS IS OF BULK AT MOST 1048576: true; the input reads as it did. -/
def restNeededUptoRow : OpenClaim := { program := "ythbgoakaijeemaagreat", sum := "e0445fcc2ba0b60794f1776674a08457b037b83b9f2ff8eddd30c37160d925b5", func := "turnspit/turnspitlaw20.RestNeeded", spec := "restNeeded", unfollowed := true, recurses := true, apart := false, narrowed := true }
def RestNeededUptoSaid : Prop := restNeededUptoRow.holds Tryz.pinned (OpenSpec.upto restNeededSpec)

end Rows
end Go.Proofs.YthbgoakaijeemaaGreat
