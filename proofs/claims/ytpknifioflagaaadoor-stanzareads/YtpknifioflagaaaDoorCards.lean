/-
  DERIVED. GIVEN WITH THE SEED: THE CARDS: each row of YtpknifioflagaaaDoorRows.lean that lists a variable, with what it lists TIED to the program's text (the seventh form; the later family's looks); each row that meets fmt, with fmt's text TOLD by the authors' own Lean function (tested against real Go, not proved from fmt's source: count such statements apart). THE CARD IS WHAT COUNTS. Prove the row's statement (the work); the ties are given (YtpknifioflagaaaDoorTie.lean); close each card by the builder's one call (the guide's Derived/Test/ToyasCard.lean, 'card_holds'). Laid BY PROGRAM, IN A SANDBOX (cutbox-door.mjs). By AI agents, Wed Nov 11 2026. No macro, syntax, notation, axiom, sorry.
-/
import Derived.Test.YtpknifioflagaaaDoorRows
import GoSem.ClaimSeven
namespace Go.Proofs.YtpknifioflagaaaDoor
namespace Rows

/-- THE TIED CARD OF 'heliographlaw06.StanzaWrites'. -/
def stanzaWritesCard : Claim7 := { stood := { row := stanzaWritesRow, standIns := [], harness := (true, "bacb9a77b0ff0706ed8bdb0b7a92f944d0accce125bd4bfd39242fff41852afc"), looks := false }, kinds := [], alts := [], laidByText := true, laidKinds := [.data, .data, .pinned], laidTests := true, laidLooks := .later }
def StanzaWritesCardSaid : Prop := Claim7.holds Tryd.pinned (.plain (OpenSpec.ofChange stanzaWritesSpec)) stanzaWritesCard

/-- THE TIED CARD OF 'heliographlaw06.StanzaReads'. -/
def stanzaReadsCard : Claim7 := { stood := { row := stanzaReadsRow, standIns := [], harness := (true, "bacb9a77b0ff0706ed8bdb0b7a92f944d0accce125bd4bfd39242fff41852afc"), looks := false }, kinds := [], alts := [], laidByText := true, laidKinds := [.data, .data, .pinned], laidTests := true, laidLooks := .later }
def StanzaReadsCardSaid : Prop := Claim7.holds Tryd.pinned (.plain (OpenSpec.ofChange stanzaReadsSpec)) stanzaReadsCard

/-- THE TIED CARD OF 'heliographlaw06.StanzaBack'. -/
def stanzaBackCard : Claim7 := { stood := { row := stanzaBackRow, standIns := [], harness := (true, "bacb9a77b0ff0706ed8bdb0b7a92f944d0accce125bd4bfd39242fff41852afc"), looks := false }, kinds := [], alts := [], laidByText := true, laidKinds := [.data, .data, .pinned], laidTests := true, laidLooks := .later }
def StanzaBackCardSaid : Prop := Claim7.holds Tryd.pinned (.plain (OpenSpec.ofChange stanzaBackSpec)) stanzaBackCard

/-- THE TIED CARD OF 'heliographlaw06.StanzaAnswers'. -/
def stanzaAnswersCard : Claim7 := { stood := { row := stanzaAnswersRow, standIns := [], harness := (true, "bacb9a77b0ff0706ed8bdb0b7a92f944d0accce125bd4bfd39242fff41852afc"), looks := false }, kinds := [], alts := [], laidByText := true, laidKinds := [.data, .data, .pinned], laidTests := true, laidLooks := .later }
def StanzaAnswersCardSaid : Prop := Claim7.holds Tryd.pinned (.plain (OpenSpec.ofChange stanzaAnswersSpec)) stanzaAnswersCard

/-- THE TIED CARD OF 'heliographlaw06.StanzaFails'. -/
def stanzaFailsCard : Claim7 := { stood := { row := stanzaFailsRow, standIns := [], harness := (true, "bacb9a77b0ff0706ed8bdb0b7a92f944d0accce125bd4bfd39242fff41852afc"), looks := false }, kinds := [], alts := [], laidByText := true, laidKinds := [.data, .data, .pinned], laidTests := true, laidLooks := .later }
def StanzaFailsCardSaid : Prop := Claim7.holds Tryd.pinned (.plain (OpenSpec.ofChange stanzaFailsSpec)) stanzaFailsCard

/-- THE TIED CARD OF 'heliographtop.TopWay'. -/
def topWayCard : Claim7 := { stood := { row := topWayRow, standIns := [], harness := (true, "bacb9a77b0ff0706ed8bdb0b7a92f944d0accce125bd4bfd39242fff41852afc"), looks := false }, kinds := [], alts := [], laidByText := true, laidKinds := [.data, .data, .pinned], laidTests := true, laidLooks := .later }
def TopWayCardSaid : Prop := Claim7.holds Tryd.pinned (.plain (OpenSpec.ofChange topWaySpec)) topWayCard

/-- THE SECOND FORM's CARD OF 'heliographlaw06.StanzaWrites'. -/
def stanzaWritesUptoCard : Claim7 := { stood := { row := stanzaWritesUptoRow, standIns := [], harness := (true, "bacb9a77b0ff0706ed8bdb0b7a92f944d0accce125bd4bfd39242fff41852afc"), looks := false }, kinds := [], alts := [], laidByText := true, laidKinds := [.data, .data, .pinned], laidTests := true, laidLooks := .later }
def StanzaWritesUptoCardSaid : Prop := Claim7.holds Tryd.pinned (.plain (OpenSpec.upto stanzaWritesSpec)) stanzaWritesUptoCard

/-- THE SECOND FORM's CARD OF 'heliographlaw06.StanzaReads'. -/
def stanzaReadsUptoCard : Claim7 := { stood := { row := stanzaReadsUptoRow, standIns := [], harness := (true, "bacb9a77b0ff0706ed8bdb0b7a92f944d0accce125bd4bfd39242fff41852afc"), looks := false }, kinds := [], alts := [], laidByText := true, laidKinds := [.data, .data, .pinned], laidTests := true, laidLooks := .later }
def StanzaReadsUptoCardSaid : Prop := Claim7.holds Tryd.pinned (.plain (OpenSpec.upto stanzaReadsSpec)) stanzaReadsUptoCard

/-- THE SECOND FORM's CARD OF 'heliographlaw06.StanzaBack'. -/
def stanzaBackUptoCard : Claim7 := { stood := { row := stanzaBackUptoRow, standIns := [], harness := (true, "bacb9a77b0ff0706ed8bdb0b7a92f944d0accce125bd4bfd39242fff41852afc"), looks := false }, kinds := [], alts := [], laidByText := true, laidKinds := [.data, .data, .pinned], laidTests := true, laidLooks := .later }
def StanzaBackUptoCardSaid : Prop := Claim7.holds Tryd.pinned (.plain (OpenSpec.upto stanzaBackSpec)) stanzaBackUptoCard

/-- THE SECOND FORM's CARD OF 'heliographlaw06.StanzaAnswers'. -/
def stanzaAnswersUptoCard : Claim7 := { stood := { row := stanzaAnswersUptoRow, standIns := [], harness := (true, "bacb9a77b0ff0706ed8bdb0b7a92f944d0accce125bd4bfd39242fff41852afc"), looks := false }, kinds := [], alts := [], laidByText := true, laidKinds := [.data, .data, .pinned], laidTests := true, laidLooks := .later }
def StanzaAnswersUptoCardSaid : Prop := Claim7.holds Tryd.pinned (.plain (OpenSpec.upto stanzaAnswersSpec)) stanzaAnswersUptoCard

/-- THE SECOND FORM's CARD OF 'heliographlaw06.StanzaFails'. -/
def stanzaFailsUptoCard : Claim7 := { stood := { row := stanzaFailsUptoRow, standIns := [], harness := (true, "bacb9a77b0ff0706ed8bdb0b7a92f944d0accce125bd4bfd39242fff41852afc"), looks := false }, kinds := [], alts := [], laidByText := true, laidKinds := [.data, .data, .pinned], laidTests := true, laidLooks := .later }
def StanzaFailsUptoCardSaid : Prop := Claim7.holds Tryd.pinned (.plain (OpenSpec.upto stanzaFailsSpec)) stanzaFailsUptoCard

/-- THE SECOND FORM's CARD OF 'heliographtop.TopWay'. -/
def topWayUptoCard : Claim7 := { stood := { row := topWayUptoRow, standIns := [], harness := (true, "bacb9a77b0ff0706ed8bdb0b7a92f944d0accce125bd4bfd39242fff41852afc"), looks := false }, kinds := [], alts := [], laidByText := true, laidKinds := [.data, .data, .pinned], laidTests := true, laidLooks := .later }
def TopWayUptoCardSaid : Prop := Claim7.holds Tryd.pinned (.plain (OpenSpec.upto topWaySpec)) topWayUptoCard
end Rows
end Go.Proofs.YtpknifioflagaaaDoor
