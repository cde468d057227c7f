/-
  DERIVED. GIVEN WITH THE SEED: THE CARDS: each row of YtabcmaajpamggaaDoorRows.lean that lists a variable, with what it lists TIED to the program's text (the seventh form; the later family's looks); each row that meets fmt, with fmt's text TOLD by the authors' own Lean function (tested against real Go, not proved from fmt's source: count such statements apart). THE CARD IS WHAT COUNTS. Prove the row's statement (the work); the ties are given (YtabcmaajpamggaaDoorTie.lean); close each card by the builder's one call (the guide's Derived/Test/ToyasCard.lean, 'card_holds'). Laid BY PROGRAM, IN A SANDBOX (cutbox-door.mjs). By AI agents, Wed Nov 11 2026. No macro, syntax, notation, axiom, sorry.
-/
import Derived.Test.YtabcmaajpamggaaDoorRows
import GoSem.ClaimSeven
namespace Go.Proofs.YtabcmaajpamggaaDoor
namespace Rows

/-- THE TIED CARD OF 'heliographlaw06.StanzaTypes'. -/
def stanzaTypesCard : Claim7 := { stood := { row := stanzaTypesRow, standIns := [], harness := (true, "0125a5a68c0d848a22bb3e0140a97c69b6f9c52cd11f99c1162ad87400b30818"), looks := false }, kinds := [], alts := [], laidByText := true, laidKinds := [.data, .data, .pinned], laidTests := true, laidLooks := .later }
def StanzaTypesCardSaid : Prop := Claim7.holds Tryd.pinned (.plain (OpenSpec.ofChange stanzaTypesSpec)) stanzaTypesCard

/-- THE TIED CARD OF 'heliographlaw06.StanzaSame'. -/
def stanzaSameCard : Claim7 := { stood := { row := stanzaSameRow, standIns := [], harness := (true, "0125a5a68c0d848a22bb3e0140a97c69b6f9c52cd11f99c1162ad87400b30818"), looks := false }, kinds := [], alts := [], laidByText := true, laidKinds := [.data, .data, .pinned], laidTests := true, laidLooks := .later }
def StanzaSameCardSaid : Prop := Claim7.holds Tryd.pinned (.plain (OpenSpec.ofChange stanzaSameSpec)) stanzaSameCard

/-- THE TIED CARD OF 'heliographlaw06.StanzaWrites'. -/
def stanzaWritesCard : Claim7 := { stood := { row := stanzaWritesRow, standIns := [], harness := (true, "0125a5a68c0d848a22bb3e0140a97c69b6f9c52cd11f99c1162ad87400b30818"), looks := false }, kinds := [], alts := [], laidByText := true, laidKinds := [.data, .data, .pinned], laidTests := true, laidLooks := .later }
def StanzaWritesCardSaid : Prop := Claim7.holds Tryd.pinned (.plain (OpenSpec.ofChange stanzaWritesSpec)) stanzaWritesCard

/-- THE TIED CARD OF 'heliographlaw06.StanzaReads'. -/
def stanzaReadsCard : Claim7 := { stood := { row := stanzaReadsRow, standIns := [], harness := (true, "0125a5a68c0d848a22bb3e0140a97c69b6f9c52cd11f99c1162ad87400b30818"), looks := false }, kinds := [], alts := [], laidByText := true, laidKinds := [.data, .data, .pinned], laidTests := true, laidLooks := .later }
def StanzaReadsCardSaid : Prop := Claim7.holds Tryd.pinned (.plain (OpenSpec.ofChange stanzaReadsSpec)) stanzaReadsCard

/-- THE TIED CARD OF 'heliographlaw06.StanzaBack'. -/
def stanzaBackCard : Claim7 := { stood := { row := stanzaBackRow, standIns := [], harness := (true, "0125a5a68c0d848a22bb3e0140a97c69b6f9c52cd11f99c1162ad87400b30818"), looks := false }, kinds := [], alts := [], laidByText := true, laidKinds := [.data, .data, .pinned], laidTests := true, laidLooks := .later }
def StanzaBackCardSaid : Prop := Claim7.holds Tryd.pinned (.plain (OpenSpec.ofChange stanzaBackSpec)) stanzaBackCard

/-- THE TIED CARD OF 'heliographlaw06.StanzaAnswers'. -/
def stanzaAnswersCard : Claim7 := { stood := { row := stanzaAnswersRow, standIns := [], harness := (true, "0125a5a68c0d848a22bb3e0140a97c69b6f9c52cd11f99c1162ad87400b30818"), looks := false }, kinds := [], alts := [], laidByText := true, laidKinds := [.data, .data, .pinned], laidTests := true, laidLooks := .later }
def StanzaAnswersCardSaid : Prop := Claim7.holds Tryd.pinned (.plain (OpenSpec.ofChange stanzaAnswersSpec)) stanzaAnswersCard

/-- THE SECOND FORM's CARD OF 'heliographlaw06.StanzaTypes'. -/
def stanzaTypesUptoCard : Claim7 := { stood := { row := stanzaTypesUptoRow, standIns := [], harness := (true, "0125a5a68c0d848a22bb3e0140a97c69b6f9c52cd11f99c1162ad87400b30818"), looks := false }, kinds := [], alts := [], laidByText := true, laidKinds := [.data, .data, .pinned], laidTests := true, laidLooks := .later }
def StanzaTypesUptoCardSaid : Prop := Claim7.holds Tryd.pinned (.plain (OpenSpec.upto stanzaTypesSpec)) stanzaTypesUptoCard

/-- THE SECOND FORM's CARD OF 'heliographlaw06.StanzaSame'. -/
def stanzaSameUptoCard : Claim7 := { stood := { row := stanzaSameUptoRow, standIns := [], harness := (true, "0125a5a68c0d848a22bb3e0140a97c69b6f9c52cd11f99c1162ad87400b30818"), looks := false }, kinds := [], alts := [], laidByText := true, laidKinds := [.data, .data, .pinned], laidTests := true, laidLooks := .later }
def StanzaSameUptoCardSaid : Prop := Claim7.holds Tryd.pinned (.plain (OpenSpec.upto stanzaSameSpec)) stanzaSameUptoCard

/-- THE SECOND FORM's CARD OF 'heliographlaw06.StanzaWrites'. -/
def stanzaWritesUptoCard : Claim7 := { stood := { row := stanzaWritesUptoRow, standIns := [], harness := (true, "0125a5a68c0d848a22bb3e0140a97c69b6f9c52cd11f99c1162ad87400b30818"), looks := false }, kinds := [], alts := [], laidByText := true, laidKinds := [.data, .data, .pinned], laidTests := true, laidLooks := .later }
def StanzaWritesUptoCardSaid : Prop := Claim7.holds Tryd.pinned (.plain (OpenSpec.upto stanzaWritesSpec)) stanzaWritesUptoCard

/-- THE SECOND FORM's CARD OF 'heliographlaw06.StanzaReads'. -/
def stanzaReadsUptoCard : Claim7 := { stood := { row := stanzaReadsUptoRow, standIns := [], harness := (true, "0125a5a68c0d848a22bb3e0140a97c69b6f9c52cd11f99c1162ad87400b30818"), looks := false }, kinds := [], alts := [], laidByText := true, laidKinds := [.data, .data, .pinned], laidTests := true, laidLooks := .later }
def StanzaReadsUptoCardSaid : Prop := Claim7.holds Tryd.pinned (.plain (OpenSpec.upto stanzaReadsSpec)) stanzaReadsUptoCard

/-- THE SECOND FORM's CARD OF 'heliographlaw06.StanzaBack'. -/
def stanzaBackUptoCard : Claim7 := { stood := { row := stanzaBackUptoRow, standIns := [], harness := (true, "0125a5a68c0d848a22bb3e0140a97c69b6f9c52cd11f99c1162ad87400b30818"), looks := false }, kinds := [], alts := [], laidByText := true, laidKinds := [.data, .data, .pinned], laidTests := true, laidLooks := .later }
def StanzaBackUptoCardSaid : Prop := Claim7.holds Tryd.pinned (.plain (OpenSpec.upto stanzaBackSpec)) stanzaBackUptoCard

/-- THE SECOND FORM's CARD OF 'heliographlaw06.StanzaAnswers'. -/
def stanzaAnswersUptoCard : Claim7 := { stood := { row := stanzaAnswersUptoRow, standIns := [], harness := (true, "0125a5a68c0d848a22bb3e0140a97c69b6f9c52cd11f99c1162ad87400b30818"), looks := false }, kinds := [], alts := [], laidByText := true, laidKinds := [.data, .data, .pinned], laidTests := true, laidLooks := .later }
def StanzaAnswersUptoCardSaid : Prop := Claim7.holds Tryd.pinned (.plain (OpenSpec.upto stanzaAnswersSpec)) stanzaAnswersUptoCard
end Rows
end Go.Proofs.YtabcmaajpamggaaDoor
