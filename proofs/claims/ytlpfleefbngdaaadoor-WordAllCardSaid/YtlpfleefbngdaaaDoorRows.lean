/-
  NARROWER THAN 'FOR EVERY INPUT', by the rows' own cells (each row's printed sentence says how): WordBits: laid · WordReads: laid · WordWrites: laid · WordAll: laid.
  DERIVED. THE GIVEN ROWS OF THIS SEAT. 4 by the template 'for every input the law returns true; each argument reads behind the call as it read before'; 0 by the template 'total and deterministic' (their statements: YtlpfleefbngdaaaDoorTotals.lean).
  GIVEN WITH THE SEED: the statements are not yours to turn. If you find one false, say at which input.
  Laid BY PROGRAM, IN A SANDBOX (cutbox-rows.mjs): the forced cells as the released guide's own fill.sh prints them over the translation 76477ee4267af8b3… (all of the seat's roots in one cut). By AI agents, Wed Nov 11 2026. No macro, syntax, notation, axiom, sorry.
-/
import Derived.Test.YtlpfleefbngdaaaDoorChecked
import GoSem.Claim
import GoSem.ClaimJoined
import GoSem.ClaimMapViews
import Derived.JoinedTies
import Derived.KernelRfl
namespace Go.Proofs.YtlpfleefbngdaaaDoor
/- THE CELL 'sum', in the pinned program and in every row, IS THE sha256 OF THE DUMP (.gsa) THAT YtlpfleefbngdaaaDoorProg.lean LOADS. Nothing in Lean hashes anything: it is a label: what it is worth is what the hold of that sum in a sandbox is worth. -/
noncomputable def Tryd.pinned : Pinned := { name := "ytlpfleefbngdaaadoor", sum := "76477ee4267af8b35559fd466ee7020eb4dc0272b6dd4f08de5128b9271f078f", checked := Tryd.checked }
namespace Rows
def none {H : Type} : Left H := { results := [], args := [] }

/- WHAT THE LISTED PACKAGE-LEVEL VARIABLES READ AS WHEN THE CALL BEGINS. Each datum BY PROGRAM (the guide's laid-datum.mjs) off the statement by which the dump's own 'gosem.cut.vars' lays the variable. In a bare row this is a premise. The card (YtlpfleefbngdaaaDoorCards.lean) ties it to the program's text. -/
def laid_turnspit_word_kinds {H : Type} : DataW H := .agg [.lit (.int .i64 1), .lit (.int .i64 1), .lit (.int .i64 1), .lit (.int .i64 1), .lit (.int .i64 2), .lit (.int .i64 3), .lit (.int .i64 4), .lit (.int .i64 2)]

/-- 'turnspitlaw01.WordBits': WHATEVER THE INPUT: true; the input reads as it did. -/
def wordBitsSpec : ChangeSpec := { name := "wordBits", fn := fun _ => fun
  | [d1, d2, d3] => { results := [.lit (.bool true)], args := [d1, d2, d3] }
  | _ => none }
def wordBitsRow : OpenClaim := { program := "ytlpfleefbngdaaadoor", sum := "76477ee4267af8b35559fd466ee7020eb4dc0272b6dd4f08de5128b9271f078f", func := "turnspit/turnspitlaw01.WordBits", spec := "wordBits", named := ["turnspit/word.kinds"], apart := false, laid := [("turnspit/word.kinds", laid_turnspit_word_kinds)] }
def WordBitsSaid : Prop := wordBitsRow.holds Tryd.pinned (OpenSpec.ofChange wordBitsSpec)

/-- ITS FALSE NEIGHBOUR: 'it returns false'. Refute it at one input. -/
def wordBitsWrong : ChangeSpec := { name := "wordBits", fn := fun _ => fun
  | [d1, d2, d3] => { results := [.lit (.bool false)], args := [d1, d2, d3] }
  | _ => none }
def WordBitsWrongFalsely : Prop := wordBitsRow.holds Tryd.pinned (OpenSpec.ofChange wordBitsWrong)

/-- 'turnspitlaw01.WordReads': WHATEVER THE INPUT: true; the input reads as it did. -/
def wordReadsSpec : ChangeSpec := { name := "wordReads", fn := fun _ => fun
  | [d1, d2] => { results := [.lit (.bool true)], args := [d1, d2] }
  | _ => none }
def wordReadsRow : OpenClaim := { program := "ytlpfleefbngdaaadoor", sum := "76477ee4267af8b35559fd466ee7020eb4dc0272b6dd4f08de5128b9271f078f", func := "turnspit/turnspitlaw01.WordReads", spec := "wordReads", named := ["turnspit/word.kinds"], apart := false, laid := [("turnspit/word.kinds", laid_turnspit_word_kinds)] }
def WordReadsSaid : Prop := wordReadsRow.holds Tryd.pinned (OpenSpec.ofChange wordReadsSpec)

/-- ITS FALSE NEIGHBOUR: 'it returns false'. Refute it at one input. -/
def wordReadsWrong : ChangeSpec := { name := "wordReads", fn := fun _ => fun
  | [d1, d2] => { results := [.lit (.bool false)], args := [d1, d2] }
  | _ => none }
def WordReadsWrongFalsely : Prop := wordReadsRow.holds Tryd.pinned (OpenSpec.ofChange wordReadsWrong)

/-- 'turnspitlaw01.WordWrites': WHATEVER THE INPUT: true; the input reads as it did. -/
def wordWritesSpec : ChangeSpec := { name := "wordWrites", fn := fun _ => fun
  | [d1, d2] => { results := [.lit (.bool true)], args := [d1, d2] }
  | _ => none }
def wordWritesRow : OpenClaim := { program := "ytlpfleefbngdaaadoor", sum := "76477ee4267af8b35559fd466ee7020eb4dc0272b6dd4f08de5128b9271f078f", func := "turnspit/turnspitlaw01.WordWrites", spec := "wordWrites", named := ["turnspit/word.kinds"], apart := false, laid := [("turnspit/word.kinds", laid_turnspit_word_kinds)] }
def WordWritesSaid : Prop := wordWritesRow.holds Tryd.pinned (OpenSpec.ofChange wordWritesSpec)

/-- ITS FALSE NEIGHBOUR: 'it returns false'. Refute it at one input. -/
def wordWritesWrong : ChangeSpec := { name := "wordWrites", fn := fun _ => fun
  | [d1, d2] => { results := [.lit (.bool false)], args := [d1, d2] }
  | _ => none }
def WordWritesWrongFalsely : Prop := wordWritesRow.holds Tryd.pinned (OpenSpec.ofChange wordWritesWrong)

/-- 'turnspitlaw01.WordAll': WHATEVER THE INPUT: true; the input reads as it did. -/
def wordAllSpec : ChangeSpec := { name := "wordAll", fn := fun _ => fun
  | [d1, d2, d3] => { results := [.lit (.bool true)], args := [d1, d2, d3] }
  | _ => none }
def wordAllRow : OpenClaim := { program := "ytlpfleefbngdaaadoor", sum := "76477ee4267af8b35559fd466ee7020eb4dc0272b6dd4f08de5128b9271f078f", func := "turnspit/turnspitlaw01.WordAll", spec := "wordAll", named := ["turnspit/word.kinds"], apart := false, laid := [("turnspit/word.kinds", laid_turnspit_word_kinds)] }
def WordAllSaid : Prop := wordAllRow.holds Tryd.pinned (OpenSpec.ofChange wordAllSpec)

/-- ITS FALSE NEIGHBOUR: 'it returns false'. Refute it at one input. -/
def wordAllWrong : ChangeSpec := { name := "wordAll", fn := fun _ => fun
  | [d1, d2, d3] => { results := [.lit (.bool false)], args := [d1, d2, d3] }
  | _ => none }
def WordAllWrongFalsely : Prop := wordAllRow.holds Tryd.pinned (OpenSpec.ofChange wordAllWrong)

/- THE SECOND FORM. 'bulk': how many values and letters a reading holds, each counted each time it is reached (what is shared counts as often as it is met; a slice's spare places count too). A statement '..UptoSaid' is the law's where the arguments, and the package variables that the reading takes, are together of bulk at most 1048576: NARROWER than '..Said'. Prove '..Said' where nothing that the law and all that it calls make is longer than what came in: it says more and counts as full. Else prove '..UptoSaid'. A law counts once. -/
mutual
def uptoBulk {H : Type} : DataW H → Nat
  | .lit (.string bytes) => bytes.length + 1
  | .lit _ => 1
  | .nil => 1
  | .ptr d => uptoBulk d + 1
  | .slice elems spare => uptoBulkAll elems + uptoBulkAll spare + 1
  | .agg parts => uptoBulkAll parts + 1
  | .iface _ d => uptoBulk d + 1
  | .map entries => uptoBulkEntries entries + 1
  | .held _ => 1
def uptoBulkAll {H : Type} : List (DataW H) → Nat
  | [] => 0
  | d :: r => uptoBulk d + uptoBulkAll r
def uptoBulkEntries {H : Type} : List (Lit × DataW H) → Nat
  | [] => 0
  | x :: r => uptoBulkEntry x + uptoBulkEntries r
def uptoBulkEntry {H : Type} : Lit × DataW H → Nat
  | (.string bytes, d) => bytes.length + uptoBulk d + 1
  | (_, d) => uptoBulk d + 1
 end
def uptoSmall : (H : Type) → List (DataW H) → Bool := fun _ ds => decide (uptoBulkAll ds ≤ 1048576)
def OpenSpec.upto (s : _root_.Go.ChangeSpec) : _root_.Go.OpenSpec := { _root_.Go.OpenSpec.ofChange s with cond := some uptoSmall }

/-- 'turnspitlaw01.WordBits', WHERE WHAT IT READS IS OF BULK AT MOST 1048576: true; the input reads as it did. -/
def wordBitsUptoRow : OpenClaim := { program := "ytlpfleefbngdaaadoor", sum := "76477ee4267af8b35559fd466ee7020eb4dc0272b6dd4f08de5128b9271f078f", func := "turnspit/turnspitlaw01.WordBits", spec := "wordBits", named := ["turnspit/word.kinds"], apart := false, laid := [("turnspit/word.kinds", laid_turnspit_word_kinds)], narrowed := true }
def WordBitsUptoSaid : Prop := wordBitsUptoRow.holds Tryd.pinned (OpenSpec.upto wordBitsSpec)

/-- 'turnspitlaw01.WordReads', WHERE WHAT IT READS IS OF BULK AT MOST 1048576: true; the input reads as it did. -/
def wordReadsUptoRow : OpenClaim := { program := "ytlpfleefbngdaaadoor", sum := "76477ee4267af8b35559fd466ee7020eb4dc0272b6dd4f08de5128b9271f078f", func := "turnspit/turnspitlaw01.WordReads", spec := "wordReads", named := ["turnspit/word.kinds"], apart := false, laid := [("turnspit/word.kinds", laid_turnspit_word_kinds)], narrowed := true }
def WordReadsUptoSaid : Prop := wordReadsUptoRow.holds Tryd.pinned (OpenSpec.upto wordReadsSpec)

/-- 'turnspitlaw01.WordWrites', WHERE WHAT IT READS IS OF BULK AT MOST 1048576: true; the input reads as it did. -/
def wordWritesUptoRow : OpenClaim := { program := "ytlpfleefbngdaaadoor", sum := "76477ee4267af8b35559fd466ee7020eb4dc0272b6dd4f08de5128b9271f078f", func := "turnspit/turnspitlaw01.WordWrites", spec := "wordWrites", named := ["turnspit/word.kinds"], apart := false, laid := [("turnspit/word.kinds", laid_turnspit_word_kinds)], narrowed := true }
def WordWritesUptoSaid : Prop := wordWritesUptoRow.holds Tryd.pinned (OpenSpec.upto wordWritesSpec)

/-- 'turnspitlaw01.WordAll', WHERE WHAT IT READS IS OF BULK AT MOST 1048576: true; the input reads as it did. -/
def wordAllUptoRow : OpenClaim := { program := "ytlpfleefbngdaaadoor", sum := "76477ee4267af8b35559fd466ee7020eb4dc0272b6dd4f08de5128b9271f078f", func := "turnspit/turnspitlaw01.WordAll", spec := "wordAll", named := ["turnspit/word.kinds"], apart := false, laid := [("turnspit/word.kinds", laid_turnspit_word_kinds)], narrowed := true }
def WordAllUptoSaid : Prop := wordAllUptoRow.holds Tryd.pinned (OpenSpec.upto wordAllSpec)

end Rows
end Go.Proofs.YtlpfleefbngdaaaDoor
