/-
  No cell of these rows narrows 'for every input' (looked for: loops, veiled, ifaces, maps, wideKeys, modest, calm, conditions, laid).
  DERIVED. THE GIVEN ROWS OF THIS SEAT. 8 by the template 'for every input the law returns true; each argument reads behind the call as it read before'; 0 by the template 'total and deterministic' (their statements: YtlnjjcfkcoaceaaTotals.lean).
  GIVEN WITH THE SEED: the statements are not yours to turn. If you find one false, say at which input.
  Laid BY PROGRAM, IN A SANDBOX (cutbox-rows.mjs): the forced cells as the released guide's own fill.sh prints them over the translation fd36505e6870a078… (all of the seat's roots in one cut). By AI agents, Wed Nov 11 2026. No macro, syntax, notation, axiom, sorry.
-/
import Derived.Test.YtlnjjcfkcoaceaaChecked
import GoSem.Claim
import GoSem.ClaimJoined
import GoSem.ClaimMapViews
import Derived.JoinedTies
import Derived.KernelRfl
namespace Go.Proofs.Ytlnjjcfkcoaceaa
/- THE CELL 'sum', in the pinned program and in every row, IS THE sha256 OF THE DUMP (.gsa) THAT YtlnjjcfkcoaceaaProg.lean LOADS. Nothing in Lean hashes anything: it is a label: what it is worth is what the hold of that sum in a sandbox is worth. -/
noncomputable def Try.pinned : Pinned := { name := "ytlnjjcfkcoaceaa", sum := "fd36505e6870a078f520bd9d2d9ab95b95bdc46d0d10ea7c38c35307198ebdb7", checked := Try.checked }
namespace Rows
def none {H : Type} : Left H := { results := [], args := [] }

/-- 'turnspitlaw07.FlowChains': WHATEVER THE INPUT: true; the input reads as it did. -/
def flowChainsSpec : ChangeSpec := { name := "flowChains", fn := fun _ => fun
  | [d1, d2, d3] => { results := [.lit (.bool true)], args := [d1, d2, d3] }
  | _ => none }
def flowChainsRow : OpenClaim := { program := "ytlnjjcfkcoaceaa", sum := "fd36505e6870a078f520bd9d2d9ab95b95bdc46d0d10ea7c38c35307198ebdb7", func := "turnspit/turnspitlaw07.FlowChains", spec := "flowChains", unfollowed := true, recurses := true, apart := false }
def FlowChainsSaid : Prop := flowChainsRow.holds Try.pinned (OpenSpec.ofChange flowChainsSpec)

/-- ITS FALSE NEIGHBOUR: 'it returns false'. Refute it at one input. -/
def flowChainsWrong : ChangeSpec := { name := "flowChains", fn := fun _ => fun
  | [d1, d2, d3] => { results := [.lit (.bool false)], args := [d1, d2, d3] }
  | _ => none }
def FlowChainsWrongFalsely : Prop := flowChainsRow.holds Try.pinned (OpenSpec.ofChange flowChainsWrong)

/-- 'turnspitlaw07.FlowParts': WHATEVER THE INPUT: true; the input reads as it did. -/
def flowPartsSpec : ChangeSpec := { name := "flowParts", fn := fun _ => fun
  | [d1, d2] => { results := [.lit (.bool true)], args := [d1, d2] }
  | _ => none }
def flowPartsRow : OpenClaim := { program := "ytlnjjcfkcoaceaa", sum := "fd36505e6870a078f520bd9d2d9ab95b95bdc46d0d10ea7c38c35307198ebdb7", func := "turnspit/turnspitlaw07.FlowParts", spec := "flowParts", unfollowed := true, recurses := true, apart := false }
def FlowPartsSaid : Prop := flowPartsRow.holds Try.pinned (OpenSpec.ofChange flowPartsSpec)

/-- ITS FALSE NEIGHBOUR: 'it returns false'. Refute it at one input. -/
def flowPartsWrong : ChangeSpec := { name := "flowParts", fn := fun _ => fun
  | [d1, d2] => { results := [.lit (.bool false)], args := [d1, d2] }
  | _ => none }
def FlowPartsWrongFalsely : Prop := flowPartsRow.holds Try.pinned (OpenSpec.ofChange flowPartsWrong)

/-- 'turnspitlaw08.LockAlone': WHATEVER THE INPUT: true; the input reads as it did. -/
def lockAloneSpec : ChangeSpec := { name := "lockAlone", fn := fun _ => fun
  | [d1, d2, d3] => { results := [.lit (.bool true)], args := [d1, d2, d3] }
  | _ => none }
def lockAloneRow : OpenClaim := { program := "ytlnjjcfkcoaceaa", sum := "fd36505e6870a078f520bd9d2d9ab95b95bdc46d0d10ea7c38c35307198ebdb7", func := "turnspit/turnspitlaw08.LockAlone", spec := "lockAlone", unfollowed := true, recurses := true, apart := false }
def LockAloneSaid : Prop := lockAloneRow.holds Try.pinned (OpenSpec.ofChange lockAloneSpec)

/-- ITS FALSE NEIGHBOUR: 'it returns false'. Refute it at one input. -/
def lockAloneWrong : ChangeSpec := { name := "lockAlone", fn := fun _ => fun
  | [d1, d2, d3] => { results := [.lit (.bool false)], args := [d1, d2, d3] }
  | _ => none }
def LockAloneWrongFalsely : Prop := lockAloneRow.holds Try.pinned (OpenSpec.ofChange lockAloneWrong)

/-- 'turnspitlaw10.GoroMakes': WHATEVER THE INPUT: true; the input reads as it did. -/
def goroMakesSpec : ChangeSpec := { name := "goroMakes", fn := fun _ => fun
  | [d1, d2, d3] => { results := [.lit (.bool true)], args := [d1, d2, d3] }
  | _ => none }
def goroMakesRow : OpenClaim := { program := "ytlnjjcfkcoaceaa", sum := "fd36505e6870a078f520bd9d2d9ab95b95bdc46d0d10ea7c38c35307198ebdb7", func := "turnspit/turnspitlaw10.GoroMakes", spec := "goroMakes", unfollowed := true, recurses := true, apart := false }
def GoroMakesSaid : Prop := goroMakesRow.holds Try.pinned (OpenSpec.ofChange goroMakesSpec)

/-- ITS FALSE NEIGHBOUR: 'it returns false'. Refute it at one input. -/
def goroMakesWrong : ChangeSpec := { name := "goroMakes", fn := fun _ => fun
  | [d1, d2, d3] => { results := [.lit (.bool false)], args := [d1, d2, d3] }
  | _ => none }
def GoroMakesWrongFalsely : Prop := goroMakesRow.holds Try.pinned (OpenSpec.ofChange goroMakesWrong)

/-- 'turnspitlaw10.GoroWhole': WHATEVER THE INPUT: true; the input reads as it did. -/
def goroWholeSpec : ChangeSpec := { name := "goroWhole", fn := fun _ => fun
  | [d1, d2, d3] => { results := [.lit (.bool true)], args := [d1, d2, d3] }
  | _ => none }
def goroWholeRow : OpenClaim := { program := "ytlnjjcfkcoaceaa", sum := "fd36505e6870a078f520bd9d2d9ab95b95bdc46d0d10ea7c38c35307198ebdb7", func := "turnspit/turnspitlaw10.GoroWhole", spec := "goroWhole", unfollowed := true, recurses := true, apart := false }
def GoroWholeSaid : Prop := goroWholeRow.holds Try.pinned (OpenSpec.ofChange goroWholeSpec)

/-- ITS FALSE NEIGHBOUR: 'it returns false'. Refute it at one input. -/
def goroWholeWrong : ChangeSpec := { name := "goroWhole", fn := fun _ => fun
  | [d1, d2, d3] => { results := [.lit (.bool false)], args := [d1, d2, d3] }
  | _ => none }
def GoroWholeWrongFalsely : Prop := goroWholeRow.holds Try.pinned (OpenSpec.ofChange goroWholeWrong)

/-- 'turnspitlaw11.GfreeMany': WHATEVER THE INPUT: true; the input reads as it did. -/
def gfreeManySpec : ChangeSpec := { name := "gfreeMany", fn := fun _ => fun
  | [d1, d2] => { results := [.lit (.bool true)], args := [d1, d2] }
  | _ => none }
def gfreeManyRow : OpenClaim := { program := "ytlnjjcfkcoaceaa", sum := "fd36505e6870a078f520bd9d2d9ab95b95bdc46d0d10ea7c38c35307198ebdb7", func := "turnspit/turnspitlaw11.GfreeMany", spec := "gfreeMany", unfollowed := true, recurses := true, apart := false }
def GfreeManySaid : Prop := gfreeManyRow.holds Try.pinned (OpenSpec.ofChange gfreeManySpec)

/-- ITS FALSE NEIGHBOUR: 'it returns false'. Refute it at one input. -/
def gfreeManyWrong : ChangeSpec := { name := "gfreeMany", fn := fun _ => fun
  | [d1, d2] => { results := [.lit (.bool false)], args := [d1, d2] }
  | _ => none }
def GfreeManyWrongFalsely : Prop := gfreeManyRow.holds Try.pinned (OpenSpec.ofChange gfreeManyWrong)

/-- 'turnspitlaw12.RingMany': WHATEVER THE INPUT: true; the input reads as it did. -/
def ringManySpec : ChangeSpec := { name := "ringMany", fn := fun _ => fun
  | [d1, d2] => { results := [.lit (.bool true)], args := [d1, d2] }
  | _ => none }
def ringManyRow : OpenClaim := { program := "ytlnjjcfkcoaceaa", sum := "fd36505e6870a078f520bd9d2d9ab95b95bdc46d0d10ea7c38c35307198ebdb7", func := "turnspit/turnspitlaw12.RingMany", spec := "ringMany", unfollowed := true, recurses := true, apart := false }
def RingManySaid : Prop := ringManyRow.holds Try.pinned (OpenSpec.ofChange ringManySpec)

/-- ITS FALSE NEIGHBOUR: 'it returns false'. Refute it at one input. -/
def ringManyWrong : ChangeSpec := { name := "ringMany", fn := fun _ => fun
  | [d1, d2] => { results := [.lit (.bool false)], args := [d1, d2] }
  | _ => none }
def RingManyWrongFalsely : Prop := ringManyRow.holds Try.pinned (OpenSpec.ofChange ringManyWrong)

/-- 'turnspitlaw12.RingLooks': WHATEVER THE INPUT: true; the input reads as it did. -/
def ringLooksSpec : ChangeSpec := { name := "ringLooks", fn := fun _ => fun
  | [d1, d2, d3] => { results := [.lit (.bool true)], args := [d1, d2, d3] }
  | _ => none }
def ringLooksRow : OpenClaim := { program := "ytlnjjcfkcoaceaa", sum := "fd36505e6870a078f520bd9d2d9ab95b95bdc46d0d10ea7c38c35307198ebdb7", func := "turnspit/turnspitlaw12.RingLooks", spec := "ringLooks", unfollowed := true, recurses := true, apart := false }
def RingLooksSaid : Prop := ringLooksRow.holds Try.pinned (OpenSpec.ofChange ringLooksSpec)

/-- ITS FALSE NEIGHBOUR: 'it returns false'. Refute it at one input. -/
def ringLooksWrong : ChangeSpec := { name := "ringLooks", fn := fun _ => fun
  | [d1, d2, d3] => { results := [.lit (.bool false)], args := [d1, d2, d3] }
  | _ => none }
def RingLooksWrongFalsely : Prop := ringLooksRow.holds Try.pinned (OpenSpec.ofChange ringLooksWrong)

/- THE SECOND FORM. 'bulk': how many values and letters a reading holds, each counted each time it is reached (what is shared counts as often as it is met; a slice's spare places count too). A statement '..UptoSaid' is the law's where the arguments, and the package variables that the reading takes, are together of bulk at most 1048576: NARROWER than '..Said'. Prove '..Said' where nothing that the law and all that it calls make is longer than what came in: it says more and counts as full. Else prove '..UptoSaid'. A law counts once. -/
mutual
def uptoBulk {H : Type} : DataW H → Nat
  | .lit (.string bytes) => bytes.length + 1
  | .lit _ => 1
  | .nil => 1
  | .ptr d => uptoBulk d + 1
  | .slice elems spare => uptoBulkAll elems + uptoBulkAll spare + 1
  | .agg parts => uptoBulkAll parts + 1
  | .iface _ d => uptoBulk d + 1
  | .map entries => uptoBulkEntries entries + 1
  | .held _ => 1
def uptoBulkAll {H : Type} : List (DataW H) → Nat
  | [] => 0
  | d :: r => uptoBulk d + uptoBulkAll r
def uptoBulkEntries {H : Type} : List (Lit × DataW H) → Nat
  | [] => 0
  | x :: r => uptoBulkEntry x + uptoBulkEntries r
def uptoBulkEntry {H : Type} : Lit × DataW H → Nat
  | (.string bytes, d) => bytes.length + uptoBulk d + 1
  | (_, d) => uptoBulk d + 1
 end
def uptoSmall : (H : Type) → List (DataW H) → Bool := fun _ ds => decide (uptoBulkAll ds ≤ 1048576)
def OpenSpec.upto (s : _root_.Go.ChangeSpec) : _root_.Go.OpenSpec := { _root_.Go.OpenSpec.ofChange s with cond := some uptoSmall }

/-- 'turnspitlaw07.FlowChains', WHERE WHAT IT READS IS OF BULK AT MOST 1048576: true; the input reads as it did. -/
def flowChainsUptoRow : OpenClaim := { program := "ytlnjjcfkcoaceaa", sum := "fd36505e6870a078f520bd9d2d9ab95b95bdc46d0d10ea7c38c35307198ebdb7", func := "turnspit/turnspitlaw07.FlowChains", spec := "flowChains", unfollowed := true, recurses := true, apart := false, narrowed := true }
def FlowChainsUptoSaid : Prop := flowChainsUptoRow.holds Try.pinned (OpenSpec.upto flowChainsSpec)

/-- 'turnspitlaw07.FlowParts', WHERE WHAT IT READS IS OF BULK AT MOST 1048576: true; the input reads as it did. -/
def flowPartsUptoRow : OpenClaim := { program := "ytlnjjcfkcoaceaa", sum := "fd36505e6870a078f520bd9d2d9ab95b95bdc46d0d10ea7c38c35307198ebdb7", func := "turnspit/turnspitlaw07.FlowParts", spec := "flowParts", unfollowed := true, recurses := true, apart := false, narrowed := true }
def FlowPartsUptoSaid : Prop := flowPartsUptoRow.holds Try.pinned (OpenSpec.upto flowPartsSpec)

/-- 'turnspitlaw08.LockAlone', WHERE WHAT IT READS IS OF BULK AT MOST 1048576: true; the input reads as it did. -/
def lockAloneUptoRow : OpenClaim := { program := "ytlnjjcfkcoaceaa", sum := "fd36505e6870a078f520bd9d2d9ab95b95bdc46d0d10ea7c38c35307198ebdb7", func := "turnspit/turnspitlaw08.LockAlone", spec := "lockAlone", unfollowed := true, recurses := true, apart := false, narrowed := true }
def LockAloneUptoSaid : Prop := lockAloneUptoRow.holds Try.pinned (OpenSpec.upto lockAloneSpec)

/-- 'turnspitlaw10.GoroMakes', WHERE WHAT IT READS IS OF BULK AT MOST 1048576: true; the input reads as it did. -/
def goroMakesUptoRow : OpenClaim := { program := "ytlnjjcfkcoaceaa", sum := "fd36505e6870a078f520bd9d2d9ab95b95bdc46d0d10ea7c38c35307198ebdb7", func := "turnspit/turnspitlaw10.GoroMakes", spec := "goroMakes", unfollowed := true, recurses := true, apart := false, narrowed := true }
def GoroMakesUptoSaid : Prop := goroMakesUptoRow.holds Try.pinned (OpenSpec.upto goroMakesSpec)

/-- 'turnspitlaw10.GoroWhole', WHERE WHAT IT READS IS OF BULK AT MOST 1048576: true; the input reads as it did. -/
def goroWholeUptoRow : OpenClaim := { program := "ytlnjjcfkcoaceaa", sum := "fd36505e6870a078f520bd9d2d9ab95b95bdc46d0d10ea7c38c35307198ebdb7", func := "turnspit/turnspitlaw10.GoroWhole", spec := "goroWhole", unfollowed := true, recurses := true, apart := false, narrowed := true }
def GoroWholeUptoSaid : Prop := goroWholeUptoRow.holds Try.pinned (OpenSpec.upto goroWholeSpec)

/-- 'turnspitlaw11.GfreeMany', WHERE WHAT IT READS IS OF BULK AT MOST 1048576: true; the input reads as it did. -/
def gfreeManyUptoRow : OpenClaim := { program := "ytlnjjcfkcoaceaa", sum := "fd36505e6870a078f520bd9d2d9ab95b95bdc46d0d10ea7c38c35307198ebdb7", func := "turnspit/turnspitlaw11.GfreeMany", spec := "gfreeMany", unfollowed := true, recurses := true, apart := false, narrowed := true }
def GfreeManyUptoSaid : Prop := gfreeManyUptoRow.holds Try.pinned (OpenSpec.upto gfreeManySpec)

/-- 'turnspitlaw12.RingMany', WHERE WHAT IT READS IS OF BULK AT MOST 1048576: true; the input reads as it did. -/
def ringManyUptoRow : OpenClaim := { program := "ytlnjjcfkcoaceaa", sum := "fd36505e6870a078f520bd9d2d9ab95b95bdc46d0d10ea7c38c35307198ebdb7", func := "turnspit/turnspitlaw12.RingMany", spec := "ringMany", unfollowed := true, recurses := true, apart := false, narrowed := true }
def RingManyUptoSaid : Prop := ringManyUptoRow.holds Try.pinned (OpenSpec.upto ringManySpec)

/-- 'turnspitlaw12.RingLooks', WHERE WHAT IT READS IS OF BULK AT MOST 1048576: true; the input reads as it did. -/
def ringLooksUptoRow : OpenClaim := { program := "ytlnjjcfkcoaceaa", sum := "fd36505e6870a078f520bd9d2d9ab95b95bdc46d0d10ea7c38c35307198ebdb7", func := "turnspit/turnspitlaw12.RingLooks", spec := "ringLooks", unfollowed := true, recurses := true, apart := false, narrowed := true }
def RingLooksUptoSaid : Prop := ringLooksUptoRow.holds Try.pinned (OpenSpec.upto ringLooksSpec)

end Rows
end Go.Proofs.Ytlnjjcfkcoaceaa
