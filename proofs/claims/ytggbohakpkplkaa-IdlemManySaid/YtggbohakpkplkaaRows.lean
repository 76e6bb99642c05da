/-
  No cell of these rows narrows 'for every input' (looked for: loops, veiled, ifaces, maps, wideKeys, modest, calm, conditions, laid).
  DERIVED. THE GIVEN ROWS OF THIS SEAT. 7 by the template 'for every input the law returns true; each argument reads behind the call as it read before'; 0 by the template 'total and deterministic' (their statements: YtggbohakpkplkaaTotals.lean).
  GIVEN WITH THE SEED: the statements are not yours to turn. If you find one false, say at which input.
  Laid BY PROGRAM, IN A SANDBOX (cutbox-rows.mjs): the forced cells as the released guide's own fill.sh prints them over the translation 6478f9abd7f070c2… (all of the seat's roots in one cut). By AI agents, Wed Nov 11 2026. No macro, syntax, notation, axiom, sorry.
-/
import Derived.Test.YtggbohakpkplkaaChecked
import GoSem.Claim
import GoSem.ClaimJoined
import GoSem.ClaimMapViews
import Derived.JoinedTies
import Derived.KernelRfl
namespace Go.Proofs.Ytggbohakpkplkaa
/- THE CELL 'sum', in the pinned program and in every row, IS THE sha256 OF THE DUMP (.gsa) THAT YtggbohakpkplkaaProg.lean LOADS. Nothing in Lean hashes anything: it is a label: what it is worth is what the hold of that sum in a sandbox is worth. -/
noncomputable def Try.pinned : Pinned := { name := "ytggbohakpkplkaa", sum := "6478f9abd7f070c2bed68b6b52c6f491e7c002f0d7023ba3a401d76393de5db8", checked := Try.checked }
namespace Rows
def none {H : Type} : Left H := { results := [], args := [] }

/-- 'turnspitlaw17.IdlepPuts': WHATEVER THE INPUT: true; the input reads as it did. -/
def idlepPutsSpec : ChangeSpec := { name := "idlepPuts", fn := fun _ => fun
  | [d1, d2, d3] => { results := [.lit (.bool true)], args := [d1, d2, d3] }
  | _ => none }
def idlepPutsRow : OpenClaim := { program := "ytggbohakpkplkaa", sum := "6478f9abd7f070c2bed68b6b52c6f491e7c002f0d7023ba3a401d76393de5db8", func := "turnspit/turnspitlaw17.IdlepPuts", spec := "idlepPuts", unfollowed := true, recurses := true, apart := false }
def IdlepPutsSaid : Prop := idlepPutsRow.holds Try.pinned (OpenSpec.ofChange idlepPutsSpec)

/-- ITS FALSE NEIGHBOUR: 'it returns false'. Refute it at one input. -/
def idlepPutsWrong : ChangeSpec := { name := "idlepPuts", fn := fun _ => fun
  | [d1, d2, d3] => { results := [.lit (.bool false)], args := [d1, d2, d3] }
  | _ => none }
def IdlepPutsWrongFalsely : Prop := idlepPutsRow.holds Try.pinned (OpenSpec.ofChange idlepPutsWrong)

/-- 'turnspitlaw17.IdlepGets': WHATEVER THE INPUT: true; the input reads as it did. -/
def idlepGetsSpec : ChangeSpec := { name := "idlepGets", fn := fun _ => fun
  | [d1, d2, d3] => { results := [.lit (.bool true)], args := [d1, d2, d3] }
  | _ => none }
def idlepGetsRow : OpenClaim := { program := "ytggbohakpkplkaa", sum := "6478f9abd7f070c2bed68b6b52c6f491e7c002f0d7023ba3a401d76393de5db8", func := "turnspit/turnspitlaw17.IdlepGets", spec := "idlepGets", unfollowed := true, recurses := true, apart := false }
def IdlepGetsSaid : Prop := idlepGetsRow.holds Try.pinned (OpenSpec.ofChange idlepGetsSpec)

/-- ITS FALSE NEIGHBOUR: 'it returns false'. Refute it at one input. -/
def idlepGetsWrong : ChangeSpec := { name := "idlepGets", fn := fun _ => fun
  | [d1, d2, d3] => { results := [.lit (.bool false)], args := [d1, d2, d3] }
  | _ => none }
def IdlepGetsWrongFalsely : Prop := idlepGetsRow.holds Try.pinned (OpenSpec.ofChange idlepGetsWrong)

/-- 'turnspitlaw17.IdlepBits': WHATEVER THE INPUT: true; the input reads as it did. -/
def idlepBitsSpec : ChangeSpec := { name := "idlepBits", fn := fun _ => fun
  | [d1, d2] => { results := [.lit (.bool true)], args := [d1, d2] }
  | _ => none }
def idlepBitsRow : OpenClaim := { program := "ytggbohakpkplkaa", sum := "6478f9abd7f070c2bed68b6b52c6f491e7c002f0d7023ba3a401d76393de5db8", func := "turnspit/turnspitlaw17.IdlepBits", spec := "idlepBits", unfollowed := true, recurses := true, apart := false }
def IdlepBitsSaid : Prop := idlepBitsRow.holds Try.pinned (OpenSpec.ofChange idlepBitsSpec)

/-- ITS FALSE NEIGHBOUR: 'it returns false'. Refute it at one input. -/
def idlepBitsWrong : ChangeSpec := { name := "idlepBits", fn := fun _ => fun
  | [d1, d2] => { results := [.lit (.bool false)], args := [d1, d2] }
  | _ => none }
def IdlepBitsWrongFalsely : Prop := idlepBitsRow.holds Try.pinned (OpenSpec.ofChange idlepBitsWrong)

/-- 'turnspitlaw17.IdlepPile': WHATEVER THE INPUT: true; the input reads as it did. -/
def idlepPileSpec : ChangeSpec := { name := "idlepPile", fn := fun _ => fun
  | [d1, d2] => { results := [.lit (.bool true)], args := [d1, d2] }
  | _ => none }
def idlepPileRow : OpenClaim := { program := "ytggbohakpkplkaa", sum := "6478f9abd7f070c2bed68b6b52c6f491e7c002f0d7023ba3a401d76393de5db8", func := "turnspit/turnspitlaw17.IdlepPile", spec := "idlepPile", unfollowed := true, recurses := true, apart := false }
def IdlepPileSaid : Prop := idlepPileRow.holds Try.pinned (OpenSpec.ofChange idlepPileSpec)

/-- ITS FALSE NEIGHBOUR: 'it returns false'. Refute it at one input. -/
def idlepPileWrong : ChangeSpec := { name := "idlepPile", fn := fun _ => fun
  | [d1, d2] => { results := [.lit (.bool false)], args := [d1, d2] }
  | _ => none }
def IdlepPileWrongFalsely : Prop := idlepPileRow.holds Try.pinned (OpenSpec.ofChange idlepPileWrong)

/-- 'turnspitlaw18.IdlemPuts': WHATEVER THE INPUT: true; the input reads as it did. -/
def idlemPutsSpec : ChangeSpec := { name := "idlemPuts", fn := fun _ => fun
  | [d1, d2, d3] => { results := [.lit (.bool true)], args := [d1, d2, d3] }
  | _ => none }
def idlemPutsRow : OpenClaim := { program := "ytggbohakpkplkaa", sum := "6478f9abd7f070c2bed68b6b52c6f491e7c002f0d7023ba3a401d76393de5db8", func := "turnspit/turnspitlaw18.IdlemPuts", spec := "idlemPuts", unfollowed := true, recurses := true, apart := false }
def IdlemPutsSaid : Prop := idlemPutsRow.holds Try.pinned (OpenSpec.ofChange idlemPutsSpec)

/-- ITS FALSE NEIGHBOUR: 'it returns false'. Refute it at one input. -/
def idlemPutsWrong : ChangeSpec := { name := "idlemPuts", fn := fun _ => fun
  | [d1, d2, d3] => { results := [.lit (.bool false)], args := [d1, d2, d3] }
  | _ => none }
def IdlemPutsWrongFalsely : Prop := idlemPutsRow.holds Try.pinned (OpenSpec.ofChange idlemPutsWrong)

/-- 'turnspitlaw18.IdlemGets': WHATEVER THE INPUT: true; the input reads as it did. -/
def idlemGetsSpec : ChangeSpec := { name := "idlemGets", fn := fun _ => fun
  | [d1, d2, d3] => { results := [.lit (.bool true)], args := [d1, d2, d3] }
  | _ => none }
def idlemGetsRow : OpenClaim := { program := "ytggbohakpkplkaa", sum := "6478f9abd7f070c2bed68b6b52c6f491e7c002f0d7023ba3a401d76393de5db8", func := "turnspit/turnspitlaw18.IdlemGets", spec := "idlemGets", unfollowed := true, recurses := true, apart := false }
def IdlemGetsSaid : Prop := idlemGetsRow.holds Try.pinned (OpenSpec.ofChange idlemGetsSpec)

/-- ITS FALSE NEIGHBOUR: 'it returns false'. Refute it at one input. -/
def idlemGetsWrong : ChangeSpec := { name := "idlemGets", fn := fun _ => fun
  | [d1, d2, d3] => { results := [.lit (.bool false)], args := [d1, d2, d3] }
  | _ => none }
def IdlemGetsWrongFalsely : Prop := idlemGetsRow.holds Try.pinned (OpenSpec.ofChange idlemGetsWrong)

/-- 'turnspitlaw18.IdlemMany': WHATEVER THE INPUT: true; the input reads as it did. -/
def idlemManySpec : ChangeSpec := { name := "idlemMany", fn := fun _ => fun
  | [d1, d2] => { results := [.lit (.bool true)], args := [d1, d2] }
  | _ => none }
def idlemManyRow : OpenClaim := { program := "ytggbohakpkplkaa", sum := "6478f9abd7f070c2bed68b6b52c6f491e7c002f0d7023ba3a401d76393de5db8", func := "turnspit/turnspitlaw18.IdlemMany", spec := "idlemMany", unfollowed := true, recurses := true, apart := false }
def IdlemManySaid : Prop := idlemManyRow.holds Try.pinned (OpenSpec.ofChange idlemManySpec)

/-- ITS FALSE NEIGHBOUR: 'it returns false'. Refute it at one input. -/
def idlemManyWrong : ChangeSpec := { name := "idlemMany", fn := fun _ => fun
  | [d1, d2] => { results := [.lit (.bool false)], args := [d1, d2] }
  | _ => none }
def IdlemManyWrongFalsely : Prop := idlemManyRow.holds Try.pinned (OpenSpec.ofChange idlemManyWrong)

/- THE SECOND FORM. 'bulk': how many values and letters a reading holds, each counted each time it is reached (what is shared counts as often as it is met; a slice's spare places count too). A statement '..UptoSaid' is the law's where the arguments, and the package variables that the reading takes, are together of bulk at most 1048576: NARROWER than '..Said'. Prove '..Said' where nothing that the law and all that it calls make is longer than what came in: it says more and counts as full. Else prove '..UptoSaid'. A law counts once. -/
mutual
def uptoBulk {H : Type} : DataW H → Nat
  | .lit (.string bytes) => bytes.length + 1
  | .lit _ => 1
  | .nil => 1
  | .ptr d => uptoBulk d + 1
  | .slice elems spare => uptoBulkAll elems + uptoBulkAll spare + 1
  | .agg parts => uptoBulkAll parts + 1
  | .iface _ d => uptoBulk d + 1
  | .map entries => uptoBulkEntries entries + 1
  | .held _ => 1
def uptoBulkAll {H : Type} : List (DataW H) → Nat
  | [] => 0
  | d :: r => uptoBulk d + uptoBulkAll r
def uptoBulkEntries {H : Type} : List (Lit × DataW H) → Nat
  | [] => 0
  | x :: r => uptoBulkEntry x + uptoBulkEntries r
def uptoBulkEntry {H : Type} : Lit × DataW H → Nat
  | (.string bytes, d) => bytes.length + uptoBulk d + 1
  | (_, d) => uptoBulk d + 1
 end
def uptoSmall : (H : Type) → List (DataW H) → Bool := fun _ ds => decide (uptoBulkAll ds ≤ 1048576)
def OpenSpec.upto (s : _root_.Go.ChangeSpec) : _root_.Go.OpenSpec := { _root_.Go.OpenSpec.ofChange s with cond := some uptoSmall }

/-- 'turnspitlaw17.IdlepPuts', WHERE WHAT IT READS IS OF BULK AT MOST 1048576: true; the input reads as it did. -/
def idlepPutsUptoRow : OpenClaim := { program := "ytggbohakpkplkaa", sum := "6478f9abd7f070c2bed68b6b52c6f491e7c002f0d7023ba3a401d76393de5db8", func := "turnspit/turnspitlaw17.IdlepPuts", spec := "idlepPuts", unfollowed := true, recurses := true, apart := false, narrowed := true }
def IdlepPutsUptoSaid : Prop := idlepPutsUptoRow.holds Try.pinned (OpenSpec.upto idlepPutsSpec)

/-- 'turnspitlaw17.IdlepGets', WHERE WHAT IT READS IS OF BULK AT MOST 1048576: true; the input reads as it did. -/
def idlepGetsUptoRow : OpenClaim := { program := "ytggbohakpkplkaa", sum := "6478f9abd7f070c2bed68b6b52c6f491e7c002f0d7023ba3a401d76393de5db8", func := "turnspit/turnspitlaw17.IdlepGets", spec := "idlepGets", unfollowed := true, recurses := true, apart := false, narrowed := true }
def IdlepGetsUptoSaid : Prop := idlepGetsUptoRow.holds Try.pinned (OpenSpec.upto idlepGetsSpec)

/-- 'turnspitlaw17.IdlepBits', WHERE WHAT IT READS IS OF BULK AT MOST 1048576: true; the input reads as it did. -/
def idlepBitsUptoRow : OpenClaim := { program := "ytggbohakpkplkaa", sum := "6478f9abd7f070c2bed68b6b52c6f491e7c002f0d7023ba3a401d76393de5db8", func := "turnspit/turnspitlaw17.IdlepBits", spec := "idlepBits", unfollowed := true, recurses := true, apart := false, narrowed := true }
def IdlepBitsUptoSaid : Prop := idlepBitsUptoRow.holds Try.pinned (OpenSpec.upto idlepBitsSpec)

/-- 'turnspitlaw17.IdlepPile', WHERE WHAT IT READS IS OF BULK AT MOST 1048576: true; the input reads as it did. -/
def idlepPileUptoRow : OpenClaim := { program := "ytggbohakpkplkaa", sum := "6478f9abd7f070c2bed68b6b52c6f491e7c002f0d7023ba3a401d76393de5db8", func := "turnspit/turnspitlaw17.IdlepPile", spec := "idlepPile", unfollowed := true, recurses := true, apart := false, narrowed := true }
def IdlepPileUptoSaid : Prop := idlepPileUptoRow.holds Try.pinned (OpenSpec.upto idlepPileSpec)

/-- 'turnspitlaw18.IdlemPuts', WHERE WHAT IT READS IS OF BULK AT MOST 1048576: true; the input reads as it did. -/
def idlemPutsUptoRow : OpenClaim := { program := "ytggbohakpkplkaa", sum := "6478f9abd7f070c2bed68b6b52c6f491e7c002f0d7023ba3a401d76393de5db8", func := "turnspit/turnspitlaw18.IdlemPuts", spec := "idlemPuts", unfollowed := true, recurses := true, apart := false, narrowed := true }
def IdlemPutsUptoSaid : Prop := idlemPutsUptoRow.holds Try.pinned (OpenSpec.upto idlemPutsSpec)

/-- 'turnspitlaw18.IdlemGets', WHERE WHAT IT READS IS OF BULK AT MOST 1048576: true; the input reads as it did. -/
def idlemGetsUptoRow : OpenClaim := { program := "ytggbohakpkplkaa", sum := "6478f9abd7f070c2bed68b6b52c6f491e7c002f0d7023ba3a401d76393de5db8", func := "turnspit/turnspitlaw18.IdlemGets", spec := "idlemGets", unfollowed := true, recurses := true, apart := false, narrowed := true }
def IdlemGetsUptoSaid : Prop := idlemGetsUptoRow.holds Try.pinned (OpenSpec.upto idlemGetsSpec)

/-- 'turnspitlaw18.IdlemMany', WHERE WHAT IT READS IS OF BULK AT MOST 1048576: true; the input reads as it did. -/
def idlemManyUptoRow : OpenClaim := { program := "ytggbohakpkplkaa", sum := "6478f9abd7f070c2bed68b6b52c6f491e7c002f0d7023ba3a401d76393de5db8", func := "turnspit/turnspitlaw18.IdlemMany", spec := "idlemMany", unfollowed := true, recurses := true, apart := false, narrowed := true }
def IdlemManyUptoSaid : Prop := idlemManyUptoRow.holds Try.pinned (OpenSpec.upto idlemManySpec)

end Rows
end Go.Proofs.Ytggbohakpkplkaa
