/-
  No cell of these rows narrows 'for every input' (looked for: loops, veiled, ifaces, maps, wideKeys, modest, calm, conditions, laid).
  DERIVED. THE GIVEN ROWS OF THIS SEAT. 7 by the template 'for every input the law returns true; each argument reads behind the call as it read before'; 0 by the template 'total and deterministic' (their statements: YtmkmpphfieckoaaTotals.lean).
  GIVEN WITH THE SEED: the statements are not yours to turn. If you find one false, say at which input.
  Laid BY PROGRAM, IN A SANDBOX (cutbox-rows.mjs): the forced cells as the released guide's own fill.sh prints them over the translation d21fdec8e28e2eb7… (all of the seat's roots in one cut). By AI agents, Wed Nov 11 2026. No macro, syntax, notation, axiom, sorry.
-/
import Derived.Test.YtmkmpphfieckoaaChecked
import GoSem.Claim
import GoSem.ClaimJoined
import GoSem.ClaimMapViews
import Derived.JoinedTies
import Derived.KernelRfl
namespace Go.Proofs.Ytmkmpphfieckoaa
/- THE CELL 'sum', in the pinned program and in every row, IS THE sha256 OF THE DUMP (.gsa) THAT YtmkmpphfieckoaaProg.lean LOADS. Nothing in Lean hashes anything: it is a label: what it is worth is what the hold of that sum in a sandbox is worth. -/
noncomputable def Try.pinned : Pinned := { name := "ytmkmpphfieckoaa", sum := "d21fdec8e28e2eb72b544633bc1b3042572e5f3072950cb16e8dcc1e37ff0698", checked := Try.checked }
namespace Rows
def none {H : Type} : Left H := { results := [], args := [] }

/-- 'turnspitlaw05.LayoutMay': WHATEVER THE INPUT: true; the input reads as it did. -/
def layoutMaySpec : ChangeSpec := { name := "layoutMay", fn := fun _ => fun
  | [d] => { results := [.lit (.bool true)], args := [d] }
  | _ => none }
def layoutMayRow : OpenClaim := { program := "ytmkmpphfieckoaa", sum := "d21fdec8e28e2eb72b544633bc1b3042572e5f3072950cb16e8dcc1e37ff0698", func := "turnspit/turnspitlaw05.LayoutMay", spec := "layoutMay", apart := false }
def LayoutMaySaid : Prop := layoutMayRow.holds Try.pinned (OpenSpec.ofChange layoutMaySpec)

/-- ITS FALSE NEIGHBOUR: 'it returns false'. Refute it at one input. -/
def layoutMayWrong : ChangeSpec := { name := "layoutMay", fn := fun _ => fun
  | [d] => { results := [.lit (.bool false)], args := [d] }
  | _ => none }
def LayoutMayWrongFalsely : Prop := layoutMayRow.holds Try.pinned (OpenSpec.ofChange layoutMayWrong)

/-- 'turnspitlaw05.LayoutAll': WHATEVER THE INPUT: true; the input reads as it did. -/
def layoutAllSpec : ChangeSpec := { name := "layoutAll", fn := fun _ => fun
  | [d] => { results := [.lit (.bool true)], args := [d] }
  | _ => none }
def layoutAllRow : OpenClaim := { program := "ytmkmpphfieckoaa", sum := "d21fdec8e28e2eb72b544633bc1b3042572e5f3072950cb16e8dcc1e37ff0698", func := "turnspit/turnspitlaw05.LayoutAll", spec := "layoutAll", apart := false }
def LayoutAllSaid : Prop := layoutAllRow.holds Try.pinned (OpenSpec.ofChange layoutAllSpec)

/-- ITS FALSE NEIGHBOUR: 'it returns false'. Refute it at one input. -/
def layoutAllWrong : ChangeSpec := { name := "layoutAll", fn := fun _ => fun
  | [d] => { results := [.lit (.bool false)], args := [d] }
  | _ => none }
def LayoutAllWrongFalsely : Prop := layoutAllRow.holds Try.pinned (OpenSpec.ofChange layoutAllWrong)

/-- 'turnspitlaw05.LayoutOne': WHATEVER THE INPUT: true; the input reads as it did. -/
def layoutOneSpec : ChangeSpec := { name := "layoutOne", fn := fun _ => fun
  | [d1, d2, d3] => { results := [.lit (.bool true)], args := [d1, d2, d3] }
  | _ => none }
def layoutOneRow : OpenClaim := { program := "ytmkmpphfieckoaa", sum := "d21fdec8e28e2eb72b544633bc1b3042572e5f3072950cb16e8dcc1e37ff0698", func := "turnspit/turnspitlaw05.LayoutOne", spec := "layoutOne", apart := false }
def LayoutOneSaid : Prop := layoutOneRow.holds Try.pinned (OpenSpec.ofChange layoutOneSpec)

/-- ITS FALSE NEIGHBOUR: 'it returns false'. Refute it at one input. -/
def layoutOneWrong : ChangeSpec := { name := "layoutOne", fn := fun _ => fun
  | [d1, d2, d3] => { results := [.lit (.bool false)], args := [d1, d2, d3] }
  | _ => none }
def LayoutOneWrongFalsely : Prop := layoutOneRow.holds Try.pinned (OpenSpec.ofChange layoutOneWrong)

/-- 'turnspitlaw06.CodeReads': WHATEVER THE INPUT: true; the input reads as it did. -/
def codeReadsSpec : ChangeSpec := { name := "codeReads", fn := fun _ => fun
  | [d1, d2] => { results := [.lit (.bool true)], args := [d1, d2] }
  | _ => none }
def codeReadsRow : OpenClaim := { program := "ytmkmpphfieckoaa", sum := "d21fdec8e28e2eb72b544633bc1b3042572e5f3072950cb16e8dcc1e37ff0698", func := "turnspit/turnspitlaw06.CodeReads", spec := "codeReads", unfollowed := true, recurses := true, apart := false }
def CodeReadsSaid : Prop := codeReadsRow.holds Try.pinned (OpenSpec.ofChange codeReadsSpec)

/-- ITS FALSE NEIGHBOUR: 'it returns false'. Refute it at one input. -/
def codeReadsWrong : ChangeSpec := { name := "codeReads", fn := fun _ => fun
  | [d1, d2] => { results := [.lit (.bool false)], args := [d1, d2] }
  | _ => none }
def CodeReadsWrongFalsely : Prop := codeReadsRow.holds Try.pinned (OpenSpec.ofChange codeReadsWrong)

/-- 'turnspitlaw06.CodeInstr': WHATEVER THE INPUT: true; the input reads as it did. -/
def codeInstrSpec : ChangeSpec := { name := "codeInstr", fn := fun _ => fun
  | [d1, d2] => { results := [.lit (.bool true)], args := [d1, d2] }
  | _ => none }
def codeInstrRow : OpenClaim := { program := "ytmkmpphfieckoaa", sum := "d21fdec8e28e2eb72b544633bc1b3042572e5f3072950cb16e8dcc1e37ff0698", func := "turnspit/turnspitlaw06.CodeInstr", spec := "codeInstr", unfollowed := true, recurses := true, apart := false }
def CodeInstrSaid : Prop := codeInstrRow.holds Try.pinned (OpenSpec.ofChange codeInstrSpec)

/-- ITS FALSE NEIGHBOUR: 'it returns false'. Refute it at one input. -/
def codeInstrWrong : ChangeSpec := { name := "codeInstr", fn := fun _ => fun
  | [d1, d2] => { results := [.lit (.bool false)], args := [d1, d2] }
  | _ => none }
def CodeInstrWrongFalsely : Prop := codeInstrRow.holds Try.pinned (OpenSpec.ofChange codeInstrWrong)

/-- 'turnspitlaw06.CodeWord': WHATEVER THE INPUT: true; the input reads as it did. -/
def codeWordSpec : ChangeSpec := { name := "codeWord", fn := fun _ => fun
  | [d1, d2] => { results := [.lit (.bool true)], args := [d1, d2] }
  | _ => none }
def codeWordRow : OpenClaim := { program := "ytmkmpphfieckoaa", sum := "d21fdec8e28e2eb72b544633bc1b3042572e5f3072950cb16e8dcc1e37ff0698", func := "turnspit/turnspitlaw06.CodeWord", spec := "codeWord", unfollowed := true, recurses := true, apart := false }
def CodeWordSaid : Prop := codeWordRow.holds Try.pinned (OpenSpec.ofChange codeWordSpec)

/-- ITS FALSE NEIGHBOUR: 'it returns false'. Refute it at one input. -/
def codeWordWrong : ChangeSpec := { name := "codeWord", fn := fun _ => fun
  | [d1, d2] => { results := [.lit (.bool false)], args := [d1, d2] }
  | _ => none }
def CodeWordWrongFalsely : Prop := codeWordRow.holds Try.pinned (OpenSpec.ofChange codeWordWrong)

/-- 'turnspitlaw06.CodeMost': WHATEVER THE INPUT: true; the input reads as it did. -/
def codeMostSpec : ChangeSpec := { name := "codeMost", fn := fun _ => fun
  | [d1, d2] => { results := [.lit (.bool true)], args := [d1, d2] }
  | _ => none }
def codeMostRow : OpenClaim := { program := "ytmkmpphfieckoaa", sum := "d21fdec8e28e2eb72b544633bc1b3042572e5f3072950cb16e8dcc1e37ff0698", func := "turnspit/turnspitlaw06.CodeMost", spec := "codeMost", unfollowed := true, recurses := true, apart := false }
def CodeMostSaid : Prop := codeMostRow.holds Try.pinned (OpenSpec.ofChange codeMostSpec)

/-- ITS FALSE NEIGHBOUR: 'it returns false'. Refute it at one input. -/
def codeMostWrong : ChangeSpec := { name := "codeMost", fn := fun _ => fun
  | [d1, d2] => { results := [.lit (.bool false)], args := [d1, d2] }
  | _ => none }
def CodeMostWrongFalsely : Prop := codeMostRow.holds Try.pinned (OpenSpec.ofChange codeMostWrong)

/- THE SECOND FORM. 'bulk': how many values and letters a reading holds, each counted each time it is reached (what is shared counts as often as it is met; a slice's spare places count too). A statement '..UptoSaid' is the law's where the arguments, and the package variables that the reading takes, are together of bulk at most 1048576: NARROWER than '..Said'. Prove '..Said' where nothing that the law and all that it calls make is longer than what came in: it says more and counts as full. Else prove '..UptoSaid'. A law counts once. -/
mutual
def uptoBulk {H : Type} : DataW H → Nat
  | .lit (.string bytes) => bytes.length + 1
  | .lit _ => 1
  | .nil => 1
  | .ptr d => uptoBulk d + 1
  | .slice elems spare => uptoBulkAll elems + uptoBulkAll spare + 1
  | .agg parts => uptoBulkAll parts + 1
  | .iface _ d => uptoBulk d + 1
  | .map entries => uptoBulkEntries entries + 1
  | .held _ => 1
def uptoBulkAll {H : Type} : List (DataW H) → Nat
  | [] => 0
  | d :: r => uptoBulk d + uptoBulkAll r
def uptoBulkEntries {H : Type} : List (Lit × DataW H) → Nat
  | [] => 0
  | x :: r => uptoBulkEntry x + uptoBulkEntries r
def uptoBulkEntry {H : Type} : Lit × DataW H → Nat
  | (.string bytes, d) => bytes.length + uptoBulk d + 1
  | (_, d) => uptoBulk d + 1
 end
def uptoSmall : (H : Type) → List (DataW H) → Bool := fun _ ds => decide (uptoBulkAll ds ≤ 1048576)
def OpenSpec.upto (s : _root_.Go.ChangeSpec) : _root_.Go.OpenSpec := { _root_.Go.OpenSpec.ofChange s with cond := some uptoSmall }

/-- 'turnspitlaw05.LayoutMay', WHERE WHAT IT READS IS OF BULK AT MOST 1048576: true; the input reads as it did. -/
def layoutMayUptoRow : OpenClaim := { program := "ytmkmpphfieckoaa", sum := "d21fdec8e28e2eb72b544633bc1b3042572e5f3072950cb16e8dcc1e37ff0698", func := "turnspit/turnspitlaw05.LayoutMay", spec := "layoutMay", apart := false, narrowed := true }
def LayoutMayUptoSaid : Prop := layoutMayUptoRow.holds Try.pinned (OpenSpec.upto layoutMaySpec)

/-- 'turnspitlaw05.LayoutAll', WHERE WHAT IT READS IS OF BULK AT MOST 1048576: true; the input reads as it did. -/
def layoutAllUptoRow : OpenClaim := { program := "ytmkmpphfieckoaa", sum := "d21fdec8e28e2eb72b544633bc1b3042572e5f3072950cb16e8dcc1e37ff0698", func := "turnspit/turnspitlaw05.LayoutAll", spec := "layoutAll", apart := false, narrowed := true }
def LayoutAllUptoSaid : Prop := layoutAllUptoRow.holds Try.pinned (OpenSpec.upto layoutAllSpec)

/-- 'turnspitlaw05.LayoutOne', WHERE WHAT IT READS IS OF BULK AT MOST 1048576: true; the input reads as it did. -/
def layoutOneUptoRow : OpenClaim := { program := "ytmkmpphfieckoaa", sum := "d21fdec8e28e2eb72b544633bc1b3042572e5f3072950cb16e8dcc1e37ff0698", func := "turnspit/turnspitlaw05.LayoutOne", spec := "layoutOne", apart := false, narrowed := true }
def LayoutOneUptoSaid : Prop := layoutOneUptoRow.holds Try.pinned (OpenSpec.upto layoutOneSpec)

/-- 'turnspitlaw06.CodeReads', WHERE WHAT IT READS IS OF BULK AT MOST 1048576: true; the input reads as it did. -/
def codeReadsUptoRow : OpenClaim := { program := "ytmkmpphfieckoaa", sum := "d21fdec8e28e2eb72b544633bc1b3042572e5f3072950cb16e8dcc1e37ff0698", func := "turnspit/turnspitlaw06.CodeReads", spec := "codeReads", unfollowed := true, recurses := true, apart := false, narrowed := true }
def CodeReadsUptoSaid : Prop := codeReadsUptoRow.holds Try.pinned (OpenSpec.upto codeReadsSpec)

/-- 'turnspitlaw06.CodeInstr', WHERE WHAT IT READS IS OF BULK AT MOST 1048576: true; the input reads as it did. -/
def codeInstrUptoRow : OpenClaim := { program := "ytmkmpphfieckoaa", sum := "d21fdec8e28e2eb72b544633bc1b3042572e5f3072950cb16e8dcc1e37ff0698", func := "turnspit/turnspitlaw06.CodeInstr", spec := "codeInstr", unfollowed := true, recurses := true, apart := false, narrowed := true }
def CodeInstrUptoSaid : Prop := codeInstrUptoRow.holds Try.pinned (OpenSpec.upto codeInstrSpec)

/-- 'turnspitlaw06.CodeWord', WHERE WHAT IT READS IS OF BULK AT MOST 1048576: true; the input reads as it did. -/
def codeWordUptoRow : OpenClaim := { program := "ytmkmpphfieckoaa", sum := "d21fdec8e28e2eb72b544633bc1b3042572e5f3072950cb16e8dcc1e37ff0698", func := "turnspit/turnspitlaw06.CodeWord", spec := "codeWord", unfollowed := true, recurses := true, apart := false, narrowed := true }
def CodeWordUptoSaid : Prop := codeWordUptoRow.holds Try.pinned (OpenSpec.upto codeWordSpec)

/-- 'turnspitlaw06.CodeMost', WHERE WHAT IT READS IS OF BULK AT MOST 1048576: true; the input reads as it did. -/
def codeMostUptoRow : OpenClaim := { program := "ytmkmpphfieckoaa", sum := "d21fdec8e28e2eb72b544633bc1b3042572e5f3072950cb16e8dcc1e37ff0698", func := "turnspit/turnspitlaw06.CodeMost", spec := "codeMost", unfollowed := true, recurses := true, apart := false, narrowed := true }
def CodeMostUptoSaid : Prop := codeMostUptoRow.holds Try.pinned (OpenSpec.upto codeMostSpec)

end Rows
end Go.Proofs.Ytmkmpphfieckoaa
