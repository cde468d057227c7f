/-
  DERIVED. GIVEN WITH THE SEED: THE CARDS: each row of YthmidlmknkbdaaaDoorRows.lean that lists a variable, with what it lists TIED to the program's text (the seventh form; the later family's looks); each row that meets fmt, with fmt's text TOLD by the authors' own Lean function (tested against real Go, not proved from fmt's source: count such statements apart). THE CARD IS WHAT COUNTS. Prove the row's statement (the work); the ties are given (YthmidlmknkbdaaaDoorTie.lean); close each card by the builder's one call (the guide's Derived/Test/ToyasCard.lean, 'card_holds'). Laid BY PROGRAM, IN A SANDBOX (cutbox-door.mjs). By AI agents, Wed Nov 11 2026. No macro, syntax, notation, axiom, sorry.
-/
import Derived.Test.YthmidlmknkbdaaaDoorRows
import GoSem.ClaimSeven
namespace Go.Proofs.YthmidlmknkbdaaaDoor
namespace Rows

/-- THE TIED CARD OF 'heliographlaw04.WriteBack'. -/
def writeBackCard : Claim7 := { stood := { row := writeBackRow, standIns := [], harness := (true, "8e12b88c295ea4db04ba89915b3b3eba10ae66bcb3ac9ebd88b0c12b19c54439"), looks := true }, kinds := [], alts := [], laidByText := true, laidKinds := [.data, .data, .pinned], laidTests := true, laidLooks := .later }
def WriteBackCardSaid : Prop := Claim7.holds Tryd.pinned (.plain (OpenSpec.ofChange writeBackSpec)) writeBackCard

/-- THE TIED CARD OF 'heliographtop.TopSent'. -/
def topSentCard : Claim7 := { stood := { row := topSentRow, standIns := [], harness := (true, "8e12b88c295ea4db04ba89915b3b3eba10ae66bcb3ac9ebd88b0c12b19c54439"), looks := true }, kinds := [], alts := [], laidByText := true, laidKinds := [.data, .data, .pinned], laidTests := true, laidLooks := .later }
def TopSentCardSaid : Prop := Claim7.holds Tryd.pinned (.plain (OpenSpec.ofChange topSentSpec)) topSentCard

/-- THE SECOND FORM's CARD OF 'heliographlaw04.WriteBack'. -/
def writeBackUptoCard : Claim7 := { stood := { row := writeBackUptoRow, standIns := [], harness := (true, "8e12b88c295ea4db04ba89915b3b3eba10ae66bcb3ac9ebd88b0c12b19c54439"), looks := true }, kinds := [], alts := [], laidByText := true, laidKinds := [.data, .data, .pinned], laidTests := true, laidLooks := .later }
def WriteBackUptoCardSaid : Prop := Claim7.holds Tryd.pinned (.plain (OpenSpec.upto writeBackSpec)) writeBackUptoCard

/-- THE SECOND FORM's CARD OF 'heliographtop.TopSent'. -/
def topSentUptoCard : Claim7 := { stood := { row := topSentUptoRow, standIns := [], harness := (true, "8e12b88c295ea4db04ba89915b3b3eba10ae66bcb3ac9ebd88b0c12b19c54439"), looks := true }, kinds := [], alts := [], laidByText := true, laidKinds := [.data, .data, .pinned], laidTests := true, laidLooks := .later }
def TopSentUptoCardSaid : Prop := Claim7.holds Tryd.pinned (.plain (OpenSpec.upto topSentSpec)) topSentUptoCard
end Rows
end Go.Proofs.YthmidlmknkbdaaaDoor
