/-
  DERIVED. GIVEN WITH THE SEED: THE CARDS: each row of YtaglbikjnaahnabDoorRows.lean that lists a variable, with what it lists TIED to the program's text (the seventh form; the later family's looks); each row that meets fmt, with fmt's text TOLD by the authors' own Lean function (tested against real Go, not proved from fmt's source: count such statements apart). THE CARD IS WHAT COUNTS. Prove the row's statement (the work); the ties are given (YtaglbikjnaahnabDoorTie.lean); close each card by the builder's one call (the guide's Derived/Test/ToyasCard.lean, 'card_holds'). Laid BY PROGRAM, IN A SANDBOX (cutbox-door.mjs). By AI agents, Wed Nov 11 2026. No macro, syntax, notation, axiom, sorry.
-/
import Derived.Test.YtaglbikjnaahnabDoorRows
import GoSem.ClaimSeven
namespace Go.Proofs.YtaglbikjnaahnabDoor
namespace Rows

/-- THE TIED CARD OF 'heliographlaw03.XmlForks'. -/
def xmlForksCard : Claim7 := { stood := { row := xmlForksRow, standIns := [], harness := (true, "a523faf5f8c505addb61b6333c7efc9c4dec9d210695b9f6099d07ca0572d9f8"), looks := true }, kinds := [], alts := [], laidByText := true, laidKinds := [.data, .data, .pinned], laidTests := true, laidLooks := .later }
def XmlForksCardSaid : Prop := Claim7.holds Tryd.pinned (.plain (OpenSpec.ofChange xmlForksSpec)) xmlForksCard

/-- THE TIED CARD OF 'heliographlaw03.XmlNone'. -/
def xmlNoneCard : Claim7 := { stood := { row := xmlNoneRow, standIns := [], harness := (true, "a523faf5f8c505addb61b6333c7efc9c4dec9d210695b9f6099d07ca0572d9f8"), looks := true }, kinds := [], alts := [], laidByText := true, laidKinds := [.data, .data, .pinned], laidTests := true, laidLooks := .later }
def XmlNoneCardSaid : Prop := Claim7.holds Tryd.pinned (.plain (OpenSpec.ofChange xmlNoneSpec)) xmlNoneCard

/-- THE TIED CARD OF 'heliographlaw03.XmlEmpty'. -/
def xmlEmptyCard : Claim7 := { stood := { row := xmlEmptyRow, standIns := [], harness := (true, "a523faf5f8c505addb61b6333c7efc9c4dec9d210695b9f6099d07ca0572d9f8"), looks := true }, kinds := [], alts := [], laidByText := true, laidKinds := [.data, .data, .pinned], laidTests := true, laidLooks := .later }
def XmlEmptyCardSaid : Prop := Claim7.holds Tryd.pinned (.plain (OpenSpec.ofChange xmlEmptySpec)) xmlEmptyCard

/-- THE TIED CARD OF 'heliographlaw03.XmlDeep'. -/
def xmlDeepCard : Claim7 := { stood := { row := xmlDeepRow, standIns := [], harness := (true, "a523faf5f8c505addb61b6333c7efc9c4dec9d210695b9f6099d07ca0572d9f8"), looks := true }, kinds := [], alts := [], laidByText := true, laidKinds := [.data, .data, .pinned], laidTests := true, laidLooks := .later }
def XmlDeepCardSaid : Prop := Claim7.holds Tryd.pinned (.plain (OpenSpec.ofChange xmlDeepSpec)) xmlDeepCard

/-- THE TIED CARD OF 'heliographlaw04.WritePrints'. -/
def writePrintsCard : Claim7 := { stood := { row := writePrintsRow, standIns := [], harness := (true, "a523faf5f8c505addb61b6333c7efc9c4dec9d210695b9f6099d07ca0572d9f8"), looks := true }, kinds := [], alts := [], laidByText := true, laidKinds := [.data, .data, .pinned], laidTests := true, laidLooks := .later }
def WritePrintsCardSaid : Prop := Claim7.holds Tryd.pinned (.plain (OpenSpec.ofChange writePrintsSpec)) writePrintsCard

/-- THE TIED CARD OF 'heliographlaw04.WriteElements'. -/
def writeElementsCard : Claim7 := { stood := { row := writeElementsRow, standIns := [], harness := (true, "a523faf5f8c505addb61b6333c7efc9c4dec9d210695b9f6099d07ca0572d9f8"), looks := true }, kinds := [], alts := [], laidByText := true, laidKinds := [.data, .data, .pinned], laidTests := true, laidLooks := .later }
def WriteElementsCardSaid : Prop := Claim7.holds Tryd.pinned (.plain (OpenSpec.ofChange writeElementsSpec)) writeElementsCard

/-- THE SECOND FORM's CARD OF 'heliographlaw03.XmlForks'. -/
def xmlForksUptoCard : Claim7 := { stood := { row := xmlForksUptoRow, standIns := [], harness := (true, "a523faf5f8c505addb61b6333c7efc9c4dec9d210695b9f6099d07ca0572d9f8"), looks := true }, kinds := [], alts := [], laidByText := true, laidKinds := [.data, .data, .pinned], laidTests := true, laidLooks := .later }
def XmlForksUptoCardSaid : Prop := Claim7.holds Tryd.pinned (.plain (OpenSpec.upto xmlForksSpec)) xmlForksUptoCard

/-- THE SECOND FORM's CARD OF 'heliographlaw03.XmlNone'. -/
def xmlNoneUptoCard : Claim7 := { stood := { row := xmlNoneUptoRow, standIns := [], harness := (true, "a523faf5f8c505addb61b6333c7efc9c4dec9d210695b9f6099d07ca0572d9f8"), looks := true }, kinds := [], alts := [], laidByText := true, laidKinds := [.data, .data, .pinned], laidTests := true, laidLooks := .later }
def XmlNoneUptoCardSaid : Prop := Claim7.holds Tryd.pinned (.plain (OpenSpec.upto xmlNoneSpec)) xmlNoneUptoCard

/-- THE SECOND FORM's CARD OF 'heliographlaw03.XmlEmpty'. -/
def xmlEmptyUptoCard : Claim7 := { stood := { row := xmlEmptyUptoRow, standIns := [], harness := (true, "a523faf5f8c505addb61b6333c7efc9c4dec9d210695b9f6099d07ca0572d9f8"), looks := true }, kinds := [], alts := [], laidByText := true, laidKinds := [.data, .data, .pinned], laidTests := true, laidLooks := .later }
def XmlEmptyUptoCardSaid : Prop := Claim7.holds Tryd.pinned (.plain (OpenSpec.upto xmlEmptySpec)) xmlEmptyUptoCard

/-- THE SECOND FORM's CARD OF 'heliographlaw03.XmlDeep'. -/
def xmlDeepUptoCard : Claim7 := { stood := { row := xmlDeepUptoRow, standIns := [], harness := (true, "a523faf5f8c505addb61b6333c7efc9c4dec9d210695b9f6099d07ca0572d9f8"), looks := true }, kinds := [], alts := [], laidByText := true, laidKinds := [.data, .data, .pinned], laidTests := true, laidLooks := .later }
def XmlDeepUptoCardSaid : Prop := Claim7.holds Tryd.pinned (.plain (OpenSpec.upto xmlDeepSpec)) xmlDeepUptoCard

/-- THE SECOND FORM's CARD OF 'heliographlaw04.WritePrints'. -/
def writePrintsUptoCard : Claim7 := { stood := { row := writePrintsUptoRow, standIns := [], harness := (true, "a523faf5f8c505addb61b6333c7efc9c4dec9d210695b9f6099d07ca0572d9f8"), looks := true }, kinds := [], alts := [], laidByText := true, laidKinds := [.data, .data, .pinned], laidTests := true, laidLooks := .later }
def WritePrintsUptoCardSaid : Prop := Claim7.holds Tryd.pinned (.plain (OpenSpec.upto writePrintsSpec)) writePrintsUptoCard

/-- THE SECOND FORM's CARD OF 'heliographlaw04.WriteElements'. -/
def writeElementsUptoCard : Claim7 := { stood := { row := writeElementsUptoRow, standIns := [], harness := (true, "a523faf5f8c505addb61b6333c7efc9c4dec9d210695b9f6099d07ca0572d9f8"), looks := true }, kinds := [], alts := [], laidByText := true, laidKinds := [.data, .data, .pinned], laidTests := true, laidLooks := .later }
def WriteElementsUptoCardSaid : Prop := Claim7.holds Tryd.pinned (.plain (OpenSpec.upto writeElementsSpec)) writeElementsUptoCard
end Rows
end Go.Proofs.YtaglbikjnaahnabDoor
