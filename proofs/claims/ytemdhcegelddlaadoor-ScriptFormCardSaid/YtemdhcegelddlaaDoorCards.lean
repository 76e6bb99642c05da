/-
  DERIVED. GIVEN WITH THE SEED: THE CARDS: each row of YtemdhcegelddlaaDoorRows.lean that lists a variable, with what it lists TIED to the program's text (the seventh form; the later family's looks); each row that meets fmt, with fmt's text TOLD by the authors' own Lean function (tested against real Go, not proved from fmt's source: count such statements apart). THE CARD IS WHAT COUNTS. Prove the row's statement (the work); the ties are given (YtemdhcegelddlaaDoorTie.lean); close each card by the builder's one call (the guide's Derived/Test/ToyasCard.lean, 'card_holds'). Laid BY PROGRAM, IN A SANDBOX (cutbox-door.mjs). By AI agents, Wed Nov 11 2026. No macro, syntax, notation, axiom, sorry.
-/
import Derived.Test.YtemdhcegelddlaaDoorRows
import GoSem.ClaimSeven
namespace Go.Proofs.YtemdhcegelddlaaDoor
namespace Rows

/-- THE TIED CARD OF 'turnspitlaw33.ScriptInstr'. -/
def scriptInstrCard : Claim7 := { stood := { row := scriptInstrRow, standIns := [], harness := (true, "375492ff4bbc669cd85b8bb63748590ef90e6309f4195f5d75c52761de129b79"), looks := true }, kinds := [], alts := [], laidByText := true, laidKinds := [.data, .data, .data, .data, .data, .data], laidTests := true, laidLooks := .later }
def ScriptInstrCardSaid : Prop := Claim7.holds Tryd.pinned (.plain (OpenSpec.ofChange scriptInstrSpec)) scriptInstrCard

/-- THE TIED CARD OF 'turnspitlaw33.ScriptWrites'. -/
def scriptWritesCard : Claim7 := { stood := { row := scriptWritesRow, standIns := [], harness := (true, "375492ff4bbc669cd85b8bb63748590ef90e6309f4195f5d75c52761de129b79"), looks := true }, kinds := [], alts := [], laidByText := true, laidKinds := [.data, .data, .data, .data, .sentinel, .sentinel, .data], laidTests := true, laidLooks := .later }
def ScriptWritesCardSaid : Prop := Claim7.holds Tryd.pinned (.plain (OpenSpec.ofChange scriptWritesSpec)) scriptWritesCard

/-- THE TIED CARD OF 'turnspitlaw33.ScriptForm'. -/
def scriptFormCard : Claim7 := { stood := { row := scriptFormRow, standIns := [], harness := (true, "375492ff4bbc669cd85b8bb63748590ef90e6309f4195f5d75c52761de129b79"), looks := true }, kinds := [], alts := [], laidByText := true, laidKinds := [.data, .data, .data, .data, .sentinel, .sentinel, .data], laidTests := true, laidLooks := .later }
def ScriptFormCardSaid : Prop := Claim7.holds Tryd.pinned (.plain (OpenSpec.ofChange scriptFormSpec)) scriptFormCard

/-- THE TIED CARD OF 'turnspitlaw33.ScriptReads'. -/
def scriptReadsCard : Claim7 := { stood := { row := scriptReadsRow, standIns := [], harness := (true, "375492ff4bbc669cd85b8bb63748590ef90e6309f4195f5d75c52761de129b79"), looks := true }, kinds := [], alts := [], laidByText := true, laidKinds := [.data, .data, .data, .data, .sentinel, .sentinel, .data], laidTests := true, laidLooks := .later }
def ScriptReadsCardSaid : Prop := Claim7.holds Tryd.pinned (.plain (OpenSpec.ofChange scriptReadsSpec)) scriptReadsCard

/-- THE TIED CARD OF 'turnspitlaw33.ScriptPrograms'. -/
def scriptProgramsCard : Claim7 := { stood := { row := scriptProgramsRow, standIns := [], harness := (true, "375492ff4bbc669cd85b8bb63748590ef90e6309f4195f5d75c52761de129b79"), looks := true }, kinds := [], alts := [], laidByText := true, laidKinds := [.data, .data, .data, .data, .sentinel, .sentinel, .data, .data], laidTests := true, laidLooks := .later }
def ScriptProgramsCardSaid : Prop := Claim7.holds Tryd.pinned (.plain (OpenSpec.ofChange scriptProgramsSpec)) scriptProgramsCard

/-- THE TIED CARD OF 'turnspitlaw33.ScriptWords'. -/
def scriptWordsCard : Claim7 := { stood := { row := scriptWordsRow, standIns := [], harness := (true, "375492ff4bbc669cd85b8bb63748590ef90e6309f4195f5d75c52761de129b79"), looks := true }, kinds := [], alts := [], laidByText := true, laidKinds := [.data, .data, .data, .data, .sentinel, .sentinel, .data, .data], laidTests := true, laidLooks := .later }
def ScriptWordsCardSaid : Prop := Claim7.holds Tryd.pinned (.plain (OpenSpec.ofChange scriptWordsSpec)) scriptWordsCard

/-- THE SECOND FORM's CARD OF 'turnspitlaw33.ScriptInstr'. -/
def scriptInstrUptoCard : Claim7 := { stood := { row := scriptInstrUptoRow, standIns := [], harness := (true, "375492ff4bbc669cd85b8bb63748590ef90e6309f4195f5d75c52761de129b79"), looks := true }, kinds := [], alts := [], laidByText := true, laidKinds := [.data, .data, .data, .data, .data, .data], laidTests := true, laidLooks := .later }
def ScriptInstrUptoCardSaid : Prop := Claim7.holds Tryd.pinned (.plain (OpenSpec.upto scriptInstrSpec)) scriptInstrUptoCard

/-- THE SECOND FORM's CARD OF 'turnspitlaw33.ScriptWrites'. -/
def scriptWritesUptoCard : Claim7 := { stood := { row := scriptWritesUptoRow, standIns := [], harness := (true, "375492ff4bbc669cd85b8bb63748590ef90e6309f4195f5d75c52761de129b79"), looks := true }, kinds := [], alts := [], laidByText := true, laidKinds := [.data, .data, .data, .data, .sentinel, .sentinel, .data], laidTests := true, laidLooks := .later }
def ScriptWritesUptoCardSaid : Prop := Claim7.holds Tryd.pinned (.plain (OpenSpec.upto scriptWritesSpec)) scriptWritesUptoCard

/-- THE SECOND FORM's CARD OF 'turnspitlaw33.ScriptForm'. -/
def scriptFormUptoCard : Claim7 := { stood := { row := scriptFormUptoRow, standIns := [], harness := (true, "375492ff4bbc669cd85b8bb63748590ef90e6309f4195f5d75c52761de129b79"), looks := true }, kinds := [], alts := [], laidByText := true, laidKinds := [.data, .data, .data, .data, .sentinel, .sentinel, .data], laidTests := true, laidLooks := .later }
def ScriptFormUptoCardSaid : Prop := Claim7.holds Tryd.pinned (.plain (OpenSpec.upto scriptFormSpec)) scriptFormUptoCard

/-- THE SECOND FORM's CARD OF 'turnspitlaw33.ScriptReads'. -/
def scriptReadsUptoCard : Claim7 := { stood := { row := scriptReadsUptoRow, standIns := [], harness := (true, "375492ff4bbc669cd85b8bb63748590ef90e6309f4195f5d75c52761de129b79"), looks := true }, kinds := [], alts := [], laidByText := true, laidKinds := [.data, .data, .data, .data, .sentinel, .sentinel, .data], laidTests := true, laidLooks := .later }
def ScriptReadsUptoCardSaid : Prop := Claim7.holds Tryd.pinned (.plain (OpenSpec.upto scriptReadsSpec)) scriptReadsUptoCard

/-- THE SECOND FORM's CARD OF 'turnspitlaw33.ScriptPrograms'. -/
def scriptProgramsUptoCard : Claim7 := { stood := { row := scriptProgramsUptoRow, standIns := [], harness := (true, "375492ff4bbc669cd85b8bb63748590ef90e6309f4195f5d75c52761de129b79"), looks := true }, kinds := [], alts := [], laidByText := true, laidKinds := [.data, .data, .data, .data, .sentinel, .sentinel, .data, .data], laidTests := true, laidLooks := .later }
def ScriptProgramsUptoCardSaid : Prop := Claim7.holds Tryd.pinned (.plain (OpenSpec.upto scriptProgramsSpec)) scriptProgramsUptoCard

/-- THE SECOND FORM's CARD OF 'turnspitlaw33.ScriptWords'. -/
def scriptWordsUptoCard : Claim7 := { stood := { row := scriptWordsUptoRow, standIns := [], harness := (true, "375492ff4bbc669cd85b8bb63748590ef90e6309f4195f5d75c52761de129b79"), looks := true }, kinds := [], alts := [], laidByText := true, laidKinds := [.data, .data, .data, .data, .sentinel, .sentinel, .data, .data], laidTests := true, laidLooks := .later }
def ScriptWordsUptoCardSaid : Prop := Claim7.holds Tryd.pinned (.plain (OpenSpec.upto scriptWordsSpec)) scriptWordsUptoCard
end Rows
end Go.Proofs.YtemdhcegelddlaaDoor
