/-
  DERIVED. GIVEN WITH THE SEED: THE CARDS: each row of YtaglbikjnaahnacDoorRows.lean that lists a variable, with what it lists TIED to the program's text (the seventh form; the later family's looks); each row that meets fmt, with fmt's text TOLD by the authors' own Lean function (tested against real Go, not proved from fmt's source: count such statements apart). THE CARD IS WHAT COUNTS. Prove the row's statement (the work); the ties are given (YtaglbikjnaahnacDoorTie.lean); close each card by the builder's one call (the guide's Derived/Test/ToyasCard.lean, 'card_holds'). Laid BY PROGRAM, IN A SANDBOX (cutbox-door.mjs). By AI agents, Wed Nov 11 2026. No macro, syntax, notation, axiom, sorry.
-/
import Derived.Test.YtaglbikjnaahnacDoorRows
import GoSem.ClaimSeven
namespace Go.Proofs.YtaglbikjnaahnacDoor
namespace Rows

/-- THE TIED CARD OF 'heliographlaw04.WriteSame'. -/
def writeSameCard : Claim7 := { stood := { row := writeSameRow, standIns := [], harness := (true, "b8dc478c222f5626c31b4706f46286ff95ea85d020f1405ea3048d5252ad3625"), looks := true }, kinds := [], alts := [], laidByText := true, laidKinds := [.data, .data, .pinned], laidTests := true, laidLooks := .later }
def WriteSameCardSaid : Prop := Claim7.holds Tryd.pinned (.plain (OpenSpec.ofChange writeSameSpec)) writeSameCard

/-- THE TIED CARD OF 'heliographlaw04.WriteBack'. -/
def writeBackCard : Claim7 := { stood := { row := writeBackRow, standIns := [], harness := (true, "b8dc478c222f5626c31b4706f46286ff95ea85d020f1405ea3048d5252ad3625"), looks := true }, kinds := [], alts := [], laidByText := true, laidKinds := [.data, .data, .pinned], laidTests := true, laidLooks := .later }
def WriteBackCardSaid : Prop := Claim7.holds Tryd.pinned (.plain (OpenSpec.ofChange writeBackSpec)) writeBackCard

/-- THE TIED CARD OF 'heliographlaw04.WriteWraps'. -/
def writeWrapsCard : Claim7 := { stood := { row := writeWrapsRow, standIns := [], harness := (true, "b8dc478c222f5626c31b4706f46286ff95ea85d020f1405ea3048d5252ad3625"), looks := true }, kinds := [], alts := [], laidByText := true, laidKinds := [.data, .data, .pinned], laidTests := true, laidLooks := .later }
def WriteWrapsCardSaid : Prop := Claim7.holds Tryd.pinned (.plain (OpenSpec.ofChange writeWrapsSpec)) writeWrapsCard

/-- THE TIED CARD OF 'heliographlaw04.WriteJoins'. -/
def writeJoinsCard : Claim7 := { stood := { row := writeJoinsRow, standIns := [], harness := (true, "b8dc478c222f5626c31b4706f46286ff95ea85d020f1405ea3048d5252ad3625"), looks := true }, kinds := [], alts := [], laidByText := true, laidKinds := [.data, .data, .pinned], laidTests := true, laidLooks := .later }
def WriteJoinsCardSaid : Prop := Claim7.holds Tryd.pinned (.plain (OpenSpec.ofChange writeJoinsSpec)) writeJoinsCard

/-- THE TIED CARD OF 'heliographlaw04.WriteAttr'. -/
def writeAttrCard : Claim7 := { stood := { row := writeAttrRow, standIns := [], harness := (true, "b8dc478c222f5626c31b4706f46286ff95ea85d020f1405ea3048d5252ad3625"), looks := true }, kinds := [], alts := [], laidByText := true, laidKinds := [.data, .data, .pinned], laidTests := true, laidLooks := .later }
def WriteAttrCardSaid : Prop := Claim7.holds Tryd.pinned (.plain (OpenSpec.ofChange writeAttrSpec)) writeAttrCard

/-- THE TIED CARD OF 'heliographtop.TopCarried'. -/
def topCarriedCard : Claim7 := { stood := { row := topCarriedRow, standIns := [], harness := (true, "b8dc478c222f5626c31b4706f46286ff95ea85d020f1405ea3048d5252ad3625"), looks := true }, kinds := [], alts := [], laidByText := true, laidKinds := [.data, .data, .pinned], laidTests := true, laidLooks := .later }
def TopCarriedCardSaid : Prop := Claim7.holds Tryd.pinned (.plain (OpenSpec.ofChange topCarriedSpec)) topCarriedCard

/-- THE SECOND FORM's CARD OF 'heliographlaw04.WriteSame'. -/
def writeSameUptoCard : Claim7 := { stood := { row := writeSameUptoRow, standIns := [], harness := (true, "b8dc478c222f5626c31b4706f46286ff95ea85d020f1405ea3048d5252ad3625"), looks := true }, kinds := [], alts := [], laidByText := true, laidKinds := [.data, .data, .pinned], laidTests := true, laidLooks := .later }
def WriteSameUptoCardSaid : Prop := Claim7.holds Tryd.pinned (.plain (OpenSpec.upto writeSameSpec)) writeSameUptoCard

/-- THE SECOND FORM's CARD OF 'heliographlaw04.WriteBack'. -/
def writeBackUptoCard : Claim7 := { stood := { row := writeBackUptoRow, standIns := [], harness := (true, "b8dc478c222f5626c31b4706f46286ff95ea85d020f1405ea3048d5252ad3625"), looks := true }, kinds := [], alts := [], laidByText := true, laidKinds := [.data, .data, .pinned], laidTests := true, laidLooks := .later }
def WriteBackUptoCardSaid : Prop := Claim7.holds Tryd.pinned (.plain (OpenSpec.upto writeBackSpec)) writeBackUptoCard

/-- THE SECOND FORM's CARD OF 'heliographlaw04.WriteWraps'. -/
def writeWrapsUptoCard : Claim7 := { stood := { row := writeWrapsUptoRow, standIns := [], harness := (true, "b8dc478c222f5626c31b4706f46286ff95ea85d020f1405ea3048d5252ad3625"), looks := true }, kinds := [], alts := [], laidByText := true, laidKinds := [.data, .data, .pinned], laidTests := true, laidLooks := .later }
def WriteWrapsUptoCardSaid : Prop := Claim7.holds Tryd.pinned (.plain (OpenSpec.upto writeWrapsSpec)) writeWrapsUptoCard

/-- THE SECOND FORM's CARD OF 'heliographlaw04.WriteJoins'. -/
def writeJoinsUptoCard : Claim7 := { stood := { row := writeJoinsUptoRow, standIns := [], harness := (true, "b8dc478c222f5626c31b4706f46286ff95ea85d020f1405ea3048d5252ad3625"), looks := true }, kinds := [], alts := [], laidByText := true, laidKinds := [.data, .data, .pinned], laidTests := true, laidLooks := .later }
def WriteJoinsUptoCardSaid : Prop := Claim7.holds Tryd.pinned (.plain (OpenSpec.upto writeJoinsSpec)) writeJoinsUptoCard

/-- THE SECOND FORM's CARD OF 'heliographlaw04.WriteAttr'. -/
def writeAttrUptoCard : Claim7 := { stood := { row := writeAttrUptoRow, standIns := [], harness := (true, "b8dc478c222f5626c31b4706f46286ff95ea85d020f1405ea3048d5252ad3625"), looks := true }, kinds := [], alts := [], laidByText := true, laidKinds := [.data, .data, .pinned], laidTests := true, laidLooks := .later }
def WriteAttrUptoCardSaid : Prop := Claim7.holds Tryd.pinned (.plain (OpenSpec.upto writeAttrSpec)) writeAttrUptoCard

/-- THE SECOND FORM's CARD OF 'heliographtop.TopCarried'. -/
def topCarriedUptoCard : Claim7 := { stood := { row := topCarriedUptoRow, standIns := [], harness := (true, "b8dc478c222f5626c31b4706f46286ff95ea85d020f1405ea3048d5252ad3625"), looks := true }, kinds := [], alts := [], laidByText := true, laidKinds := [.data, .data, .pinned], laidTests := true, laidLooks := .later }
def TopCarriedUptoCardSaid : Prop := Claim7.holds Tryd.pinned (.plain (OpenSpec.upto topCarriedSpec)) topCarriedUptoCard
end Rows
end Go.Proofs.YtaglbikjnaahnacDoor
