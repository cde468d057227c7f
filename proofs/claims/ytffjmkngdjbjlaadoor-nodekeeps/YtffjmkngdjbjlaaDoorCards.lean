/-
  DERIVED. GIVEN WITH THE SEED: THE CARDS: each row of YtffjmkngdjbjlaaDoorRows.lean that lists a variable, with what it lists TIED to the program's text (the seventh form; the later family's looks); each row that meets fmt, with fmt's text TOLD by the authors' own Lean function (tested against real Go, not proved from fmt's source: count such statements apart). THE CARD IS WHAT COUNTS. Prove the row's statement (the work); the ties are given (YtffjmkngdjbjlaaDoorTie.lean); close each card by the builder's one call (the guide's Derived/Test/ToyasCard.lean, 'card_holds'). Laid BY PROGRAM, IN A SANDBOX (cutbox-door.mjs). By AI agents, Wed Nov 11 2026. No macro, syntax, notation, axiom, sorry.
-/
import Derived.Test.YtffjmkngdjbjlaaDoorRows
import GoSem.ClaimSeven
namespace Go.Proofs.YtffjmkngdjbjlaaDoor
namespace Rows

/-- THE TIED CARD OF 'heliographlaw11.NodeStays'. -/
def nodeStaysCard : Claim7 := { stood := { row := nodeStaysRow, standIns := [], harness := (true, "6c2705f03c8ed9f8fdc68c73d7ea9b338cebb601e1f6875f82f637b612f69b1c"), looks := false }, kinds := [], alts := [], laidByText := true, laidKinds := [.data, .pinned], laidTests := true, laidLooks := .later }
def NodeStaysCardSaid : Prop := Claim7.holds Tryd.pinned (.plain (OpenSpec.ofChange nodeStaysSpec)) nodeStaysCard

/-- THE TIED CARD OF 'heliographlaw11.NodeOnly'. -/
def nodeOnlyCard : Claim7 := { stood := { row := nodeOnlyRow, standIns := [], harness := (true, "6c2705f03c8ed9f8fdc68c73d7ea9b338cebb601e1f6875f82f637b612f69b1c"), looks := false }, kinds := [], alts := [], laidByText := true, laidKinds := [.data, .pinned], laidTests := true, laidLooks := .later }
def NodeOnlyCardSaid : Prop := Claim7.holds Tryd.pinned (.plain (OpenSpec.ofChange nodeOnlySpec)) nodeOnlyCard

/-- THE TIED CARD OF 'heliographlaw11.NodeMay'. -/
def nodeMayCard : Claim7 := { stood := { row := nodeMayRow, standIns := [], harness := (true, "6c2705f03c8ed9f8fdc68c73d7ea9b338cebb601e1f6875f82f637b612f69b1c"), looks := false }, kinds := [], alts := [], laidByText := true, laidKinds := [.data, .pinned], laidTests := true, laidLooks := .later }
def NodeMayCardSaid : Prop := Claim7.holds Tryd.pinned (.plain (OpenSpec.ofChange nodeMaySpec)) nodeMayCard

/-- THE TIED CARD OF 'heliographlaw11.NodeKeeps'. -/
def nodeKeepsCard : Claim7 := { stood := { row := nodeKeepsRow, standIns := [], harness := (true, "6c2705f03c8ed9f8fdc68c73d7ea9b338cebb601e1f6875f82f637b612f69b1c"), looks := false }, kinds := [], alts := [], laidByText := true, laidKinds := [.data, .pinned], laidTests := true, laidLooks := .later }
def NodeKeepsCardSaid : Prop := Claim7.holds Tryd.pinned (.plain (OpenSpec.ofChange nodeKeepsSpec)) nodeKeepsCard

/-- THE TIED CARD OF 'heliographlaw11.NodeDecides'. -/
def nodeDecidesCard : Claim7 := { stood := { row := nodeDecidesRow, standIns := [], harness := (true, "6c2705f03c8ed9f8fdc68c73d7ea9b338cebb601e1f6875f82f637b612f69b1c"), looks := false }, kinds := [], alts := [], laidByText := true, laidKinds := [.data, .pinned], laidTests := true, laidLooks := .later }
def NodeDecidesCardSaid : Prop := Claim7.holds Tryd.pinned (.plain (OpenSpec.ofChange nodeDecidesSpec)) nodeDecidesCard

/-- THE TIED CARD OF 'heliographtop.TopTree'. -/
def topTreeCard : Claim7 := { stood := { row := topTreeRow, standIns := [], harness := (true, "6c2705f03c8ed9f8fdc68c73d7ea9b338cebb601e1f6875f82f637b612f69b1c"), looks := false }, kinds := [], alts := [], laidByText := true, laidKinds := [.data, .pinned], laidTests := true, laidLooks := .later }
def TopTreeCardSaid : Prop := Claim7.holds Tryd.pinned (.plain (OpenSpec.ofChange topTreeSpec)) topTreeCard

/-- THE SECOND FORM's CARD OF 'heliographlaw11.NodeStays'. -/
def nodeStaysUptoCard : Claim7 := { stood := { row := nodeStaysUptoRow, standIns := [], harness := (true, "6c2705f03c8ed9f8fdc68c73d7ea9b338cebb601e1f6875f82f637b612f69b1c"), looks := false }, kinds := [], alts := [], laidByText := true, laidKinds := [.data, .pinned], laidTests := true, laidLooks := .later }
def NodeStaysUptoCardSaid : Prop := Claim7.holds Tryd.pinned (.plain (OpenSpec.upto nodeStaysSpec)) nodeStaysUptoCard

/-- THE SECOND FORM's CARD OF 'heliographlaw11.NodeOnly'. -/
def nodeOnlyUptoCard : Claim7 := { stood := { row := nodeOnlyUptoRow, standIns := [], harness := (true, "6c2705f03c8ed9f8fdc68c73d7ea9b338cebb601e1f6875f82f637b612f69b1c"), looks := false }, kinds := [], alts := [], laidByText := true, laidKinds := [.data, .pinned], laidTests := true, laidLooks := .later }
def NodeOnlyUptoCardSaid : Prop := Claim7.holds Tryd.pinned (.plain (OpenSpec.upto nodeOnlySpec)) nodeOnlyUptoCard

/-- THE SECOND FORM's CARD OF 'heliographlaw11.NodeMay'. -/
def nodeMayUptoCard : Claim7 := { stood := { row := nodeMayUptoRow, standIns := [], harness := (true, "6c2705f03c8ed9f8fdc68c73d7ea9b338cebb601e1f6875f82f637b612f69b1c"), looks := false }, kinds := [], alts := [], laidByText := true, laidKinds := [.data, .pinned], laidTests := true, laidLooks := .later }
def NodeMayUptoCardSaid : Prop := Claim7.holds Tryd.pinned (.plain (OpenSpec.upto nodeMaySpec)) nodeMayUptoCard

/-- THE SECOND FORM's CARD OF 'heliographlaw11.NodeKeeps'. -/
def nodeKeepsUptoCard : Claim7 := { stood := { row := nodeKeepsUptoRow, standIns := [], harness := (true, "6c2705f03c8ed9f8fdc68c73d7ea9b338cebb601e1f6875f82f637b612f69b1c"), looks := false }, kinds := [], alts := [], laidByText := true, laidKinds := [.data, .pinned], laidTests := true, laidLooks := .later }
def NodeKeepsUptoCardSaid : Prop := Claim7.holds Tryd.pinned (.plain (OpenSpec.upto nodeKeepsSpec)) nodeKeepsUptoCard

/-- THE SECOND FORM's CARD OF 'heliographlaw11.NodeDecides'. -/
def nodeDecidesUptoCard : Claim7 := { stood := { row := nodeDecidesUptoRow, standIns := [], harness := (true, "6c2705f03c8ed9f8fdc68c73d7ea9b338cebb601e1f6875f82f637b612f69b1c"), looks := false }, kinds := [], alts := [], laidByText := true, laidKinds := [.data, .pinned], laidTests := true, laidLooks := .later }
def NodeDecidesUptoCardSaid : Prop := Claim7.holds Tryd.pinned (.plain (OpenSpec.upto nodeDecidesSpec)) nodeDecidesUptoCard

/-- THE SECOND FORM's CARD OF 'heliographtop.TopTree'. -/
def topTreeUptoCard : Claim7 := { stood := { row := topTreeUptoRow, standIns := [], harness := (true, "6c2705f03c8ed9f8fdc68c73d7ea9b338cebb601e1f6875f82f637b612f69b1c"), looks := false }, kinds := [], alts := [], laidByText := true, laidKinds := [.data, .pinned], laidTests := true, laidLooks := .later }
def TopTreeUptoCardSaid : Prop := Claim7.holds Tryd.pinned (.plain (OpenSpec.upto topTreeSpec)) topTreeUptoCard
end Rows
end Go.Proofs.YtffjmkngdjbjlaaDoor
