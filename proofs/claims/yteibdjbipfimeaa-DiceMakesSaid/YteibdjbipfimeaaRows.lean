/-
  No cell of these rows narrows 'for every input' (looked for: loops, veiled, ifaces, maps, wideKeys, modest, calm, conditions, laid).
  DERIVED. THE GIVEN ROWS OF THIS SEAT. 3 by the template 'for every input the law returns true; each argument reads behind the call as it read before'; 0 by the template 'total and deterministic' (their statements: YteibdjbipfimeaaTotals.lean).
  GIVEN WITH THE SEED: the statements are not yours to turn. If you find one false, say at which input.
  Laid BY PROGRAM, IN A SANDBOX (cutbox-rows.mjs): the forced cells as the released guide's own fill.sh prints them over the translation f9d3c0c68a5cd81e… (all of the seat's roots in one cut). By AI agents, Wed Nov 11 2026. No macro, syntax, notation, axiom, sorry.
-/
import Derived.Test.YteibdjbipfimeaaChecked
import GoSem.Claim
import GoSem.ClaimJoined
import GoSem.ClaimMapViews
import Derived.JoinedTies
import Derived.KernelRfl
namespace Go.Proofs.Yteibdjbipfimeaa
/- THE CELL 'sum', in the pinned program and in every row, IS THE sha256 OF THE DUMP (.gsa) THAT YteibdjbipfimeaaProg.lean LOADS. Nothing in Lean hashes anything: it is a label: what it is worth is what the hold of that sum in a sandbox is worth. -/
noncomputable def Try.pinned : Pinned := { name := "yteibdjbipfimeaa", sum := "f9d3c0c68a5cd81e812c60960ded057c35848678799bc4e12d13d045b3015ef2", checked := Try.checked }
namespace Rows
def none {H : Type} : Left H := { results := [], args := [] }

/-- 'turnspitlaw38.DiceNumbers': WHATEVER THE INPUT: true; the input reads as it did. -/
def diceNumbersSpec : ChangeSpec := { name := "diceNumbers", fn := fun _ => fun
  | [d1, d2] => { results := [.lit (.bool true)], args := [d1, d2] }
  | _ => none }
def diceNumbersRow : OpenClaim := { program := "yteibdjbipfimeaa", sum := "f9d3c0c68a5cd81e812c60960ded057c35848678799bc4e12d13d045b3015ef2", func := "turnspit/turnspitlaw38.DiceNumbers", spec := "diceNumbers", apart := false }
def DiceNumbersSaid : Prop := diceNumbersRow.holds Try.pinned (OpenSpec.ofChange diceNumbersSpec)

/-- ITS FALSE NEIGHBOUR: 'it returns false'. Refute it at one input. -/
def diceNumbersWrong : ChangeSpec := { name := "diceNumbers", fn := fun _ => fun
  | [d1, d2] => { results := [.lit (.bool false)], args := [d1, d2] }
  | _ => none }
def DiceNumbersWrongFalsely : Prop := diceNumbersRow.holds Try.pinned (OpenSpec.ofChange diceNumbersWrong)

/-- 'turnspitlaw38.DiceMakes': WHATEVER THE INPUT: true; the input reads as it did. -/
def diceMakesSpec : ChangeSpec := { name := "diceMakes", fn := fun _ => fun
  | [d1, d2, d3] => { results := [.lit (.bool true)], args := [d1, d2, d3] }
  | _ => none }
def diceMakesRow : OpenClaim := { program := "yteibdjbipfimeaa", sum := "f9d3c0c68a5cd81e812c60960ded057c35848678799bc4e12d13d045b3015ef2", func := "turnspit/turnspitlaw38.DiceMakes", spec := "diceMakes", apart := false }
def DiceMakesSaid : Prop := diceMakesRow.holds Try.pinned (OpenSpec.ofChange diceMakesSpec)

/-- ITS FALSE NEIGHBOUR: 'it returns false'. Refute it at one input. -/
def diceMakesWrong : ChangeSpec := { name := "diceMakes", fn := fun _ => fun
  | [d1, d2, d3] => { results := [.lit (.bool false)], args := [d1, d2, d3] }
  | _ => none }
def DiceMakesWrongFalsely : Prop := diceMakesRow.holds Try.pinned (OpenSpec.ofChange diceMakesWrong)

/-- 'turnspitlaw38.DiceSame': WHATEVER THE INPUT: true; the input reads as it did. -/
def diceSameSpec : ChangeSpec := { name := "diceSame", fn := fun _ => fun
  | [d1, d2, d3] => { results := [.lit (.bool true)], args := [d1, d2, d3] }
  | _ => none }
def diceSameRow : OpenClaim := { program := "yteibdjbipfimeaa", sum := "f9d3c0c68a5cd81e812c60960ded057c35848678799bc4e12d13d045b3015ef2", func := "turnspit/turnspitlaw38.DiceSame", spec := "diceSame", apart := false }
def DiceSameSaid : Prop := diceSameRow.holds Try.pinned (OpenSpec.ofChange diceSameSpec)

/-- ITS FALSE NEIGHBOUR: 'it returns false'. Refute it at one input. -/
def diceSameWrong : ChangeSpec := { name := "diceSame", fn := fun _ => fun
  | [d1, d2, d3] => { results := [.lit (.bool false)], args := [d1, d2, d3] }
  | _ => none }
def DiceSameWrongFalsely : Prop := diceSameRow.holds Try.pinned (OpenSpec.ofChange diceSameWrong)

/- THE SECOND FORM. 'bulk': how many values and letters a reading holds, each counted each time it is reached (what is shared counts as often as it is met; a slice's spare places count too). A statement '..UptoSaid' is the law's where the arguments, and the package variables that the reading takes, are together of bulk at most 1048576: NARROWER than '..Said'. Prove '..Said' where nothing that the law and all that it calls make is longer than what came in: it says more and counts as full. Else prove '..UptoSaid'. A law counts once. -/
mutual
def uptoBulk {H : Type} : DataW H → Nat
  | .lit (.string bytes) => bytes.length + 1
  | .lit _ => 1
  | .nil => 1
  | .ptr d => uptoBulk d + 1
  | .slice elems spare => uptoBulkAll elems + uptoBulkAll spare + 1
  | .agg parts => uptoBulkAll parts + 1
  | .iface _ d => uptoBulk d + 1
  | .map entries => uptoBulkEntries entries + 1
  | .held _ => 1
def uptoBulkAll {H : Type} : List (DataW H) → Nat
  | [] => 0
  | d :: r => uptoBulk d + uptoBulkAll r
def uptoBulkEntries {H : Type} : List (Lit × DataW H) → Nat
  | [] => 0
  | x :: r => uptoBulkEntry x + uptoBulkEntries r
def uptoBulkEntry {H : Type} : Lit × DataW H → Nat
  | (.string bytes, d) => bytes.length + uptoBulk d + 1
  | (_, d) => uptoBulk d + 1
 end
def uptoSmall : (H : Type) → List (DataW H) → Bool := fun _ ds => decide (uptoBulkAll ds ≤ 1048576)
def OpenSpec.upto (s : _root_.Go.ChangeSpec) : _root_.Go.OpenSpec := { _root_.Go.OpenSpec.ofChange s with cond := some uptoSmall }

/-- 'turnspitlaw38.DiceNumbers', WHERE WHAT IT READS IS OF BULK AT MOST 1048576: true; the input reads as it did. -/
def diceNumbersUptoRow : OpenClaim := { program := "yteibdjbipfimeaa", sum := "f9d3c0c68a5cd81e812c60960ded057c35848678799bc4e12d13d045b3015ef2", func := "turnspit/turnspitlaw38.DiceNumbers", spec := "diceNumbers", apart := false, narrowed := true }
def DiceNumbersUptoSaid : Prop := diceNumbersUptoRow.holds Try.pinned (OpenSpec.upto diceNumbersSpec)

/-- 'turnspitlaw38.DiceMakes', WHERE WHAT IT READS IS OF BULK AT MOST 1048576: true; the input reads as it did. -/
def diceMakesUptoRow : OpenClaim := { program := "yteibdjbipfimeaa", sum := "f9d3c0c68a5cd81e812c60960ded057c35848678799bc4e12d13d045b3015ef2", func := "turnspit/turnspitlaw38.DiceMakes", spec := "diceMakes", apart := false, narrowed := true }
def DiceMakesUptoSaid : Prop := diceMakesUptoRow.holds Try.pinned (OpenSpec.upto diceMakesSpec)

/-- 'turnspitlaw38.DiceSame', WHERE WHAT IT READS IS OF BULK AT MOST 1048576: true; the input reads as it did. -/
def diceSameUptoRow : OpenClaim := { program := "yteibdjbipfimeaa", sum := "f9d3c0c68a5cd81e812c60960ded057c35848678799bc4e12d13d045b3015ef2", func := "turnspit/turnspitlaw38.DiceSame", spec := "diceSame", apart := false, narrowed := true }
def DiceSameUptoSaid : Prop := diceSameUptoRow.holds Try.pinned (OpenSpec.upto diceSameSpec)

end Rows
end Go.Proofs.Yteibdjbipfimeaa
