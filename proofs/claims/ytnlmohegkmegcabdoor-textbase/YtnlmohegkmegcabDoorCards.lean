/-
  DERIVED. GIVEN WITH THE SEED: THE CARDS: each row of YtnlmohegkmegcabDoorRows.lean that lists a variable, with what it lists TIED to the program's text (the seventh form; the later family's looks); each row that meets fmt, with fmt's text TOLD by the authors' own Lean function (tested against real Go, not proved from fmt's source: count such statements apart). THE CARD IS WHAT COUNTS. Prove the row's statement (the work); the ties are given (YtnlmohegkmegcabDoorTie.lean); close each card by the builder's one call (the guide's Derived/Test/ToyasCard.lean, 'card_holds'). Laid BY PROGRAM, IN A SANDBOX (cutbox-door.mjs). By AI agents, Wed Nov 11 2026. No macro, syntax, notation, axiom, sorry.
-/
import Derived.Test.YtnlmohegkmegcabDoorRows
import GoSem.ClaimSeven
namespace Go.Proofs.YtnlmohegkmegcabDoor
namespace Rows

/-- THE TIED CARD OF 'heliographlaw02.TextChars'. -/
def textCharsCard : Claim7 := { stood := { row := textCharsRow, standIns := [], harness := (true, "0a92e988331da1141ba8cc48477684ca152fd9742436909e3af16c5b21035c6a"), looks := false }, kinds := [], alts := [], laidByText := true, laidKinds := [.data, .data, .pinned], laidTests := true, laidLooks := .later }
def TextCharsCardSaid : Prop := Claim7.holds Tryd.pinned (.plain (OpenSpec.ofChange textCharsSpec)) textCharsCard

/-- THE TIED CARD OF 'heliographlaw02.TextEscapes'. -/
def textEscapesCard : Claim7 := { stood := { row := textEscapesRow, standIns := [], harness := (true, "0a92e988331da1141ba8cc48477684ca152fd9742436909e3af16c5b21035c6a"), looks := false }, kinds := [], alts := [], laidByText := true, laidKinds := [.data, .data, .pinned], laidTests := true, laidLooks := .later }
def TextEscapesCardSaid : Prop := Claim7.holds Tryd.pinned (.plain (OpenSpec.ofChange textEscapesSpec)) textEscapesCard

/-- THE TIED CARD OF 'heliographlaw02.TextBase'. -/
def textBaseCard : Claim7 := { stood := { row := textBaseRow, standIns := [], harness := (true, "0a92e988331da1141ba8cc48477684ca152fd9742436909e3af16c5b21035c6a"), looks := false }, kinds := [], alts := [], laidByText := true, laidKinds := [.data, .data, .pinned], laidTests := true, laidLooks := .later }
def TextBaseCardSaid : Prop := Claim7.holds Tryd.pinned (.plain (OpenSpec.ofChange textBaseSpec)) textBaseCard

/-- THE TIED CARD OF 'heliographlaw02.TextBack'. -/
def textBackCard : Claim7 := { stood := { row := textBackRow, standIns := [], harness := (true, "0a92e988331da1141ba8cc48477684ca152fd9742436909e3af16c5b21035c6a"), looks := false }, kinds := [], alts := [], laidByText := true, laidKinds := [.data, .data, .pinned], laidTests := true, laidLooks := .later }
def TextBackCardSaid : Prop := Claim7.holds Tryd.pinned (.plain (OpenSpec.ofChange textBackSpec)) textBackCard

/-- THE TIED CARD OF 'heliographlaw02.TextSafe'. -/
def textSafeCard : Claim7 := { stood := { row := textSafeRow, standIns := [], harness := (true, "0a92e988331da1141ba8cc48477684ca152fd9742436909e3af16c5b21035c6a"), looks := false }, kinds := [], alts := [], laidByText := true, laidKinds := [.data, .data, .pinned], laidTests := true, laidLooks := .later }
def TextSafeCardSaid : Prop := Claim7.holds Tryd.pinned (.plain (OpenSpec.ofChange textSafeSpec)) textSafeCard

/-- THE TIED CARD OF 'heliographlaw02.TextJoins'. -/
def textJoinsCard : Claim7 := { stood := { row := textJoinsRow, standIns := [], harness := (true, "0a92e988331da1141ba8cc48477684ca152fd9742436909e3af16c5b21035c6a"), looks := false }, kinds := [], alts := [], laidByText := true, laidKinds := [.data, .data, .pinned], laidTests := true, laidLooks := .later }
def TextJoinsCardSaid : Prop := Claim7.holds Tryd.pinned (.plain (OpenSpec.ofChange textJoinsSpec)) textJoinsCard

/-- THE SECOND FORM's CARD OF 'heliographlaw02.TextChars'. -/
def textCharsUptoCard : Claim7 := { stood := { row := textCharsUptoRow, standIns := [], harness := (true, "0a92e988331da1141ba8cc48477684ca152fd9742436909e3af16c5b21035c6a"), looks := false }, kinds := [], alts := [], laidByText := true, laidKinds := [.data, .data, .pinned], laidTests := true, laidLooks := .later }
def TextCharsUptoCardSaid : Prop := Claim7.holds Tryd.pinned (.plain (OpenSpec.upto textCharsSpec)) textCharsUptoCard

/-- THE SECOND FORM's CARD OF 'heliographlaw02.TextEscapes'. -/
def textEscapesUptoCard : Claim7 := { stood := { row := textEscapesUptoRow, standIns := [], harness := (true, "0a92e988331da1141ba8cc48477684ca152fd9742436909e3af16c5b21035c6a"), looks := false }, kinds := [], alts := [], laidByText := true, laidKinds := [.data, .data, .pinned], laidTests := true, laidLooks := .later }
def TextEscapesUptoCardSaid : Prop := Claim7.holds Tryd.pinned (.plain (OpenSpec.upto textEscapesSpec)) textEscapesUptoCard

/-- THE SECOND FORM's CARD OF 'heliographlaw02.TextBase'. -/
def textBaseUptoCard : Claim7 := { stood := { row := textBaseUptoRow, standIns := [], harness := (true, "0a92e988331da1141ba8cc48477684ca152fd9742436909e3af16c5b21035c6a"), looks := false }, kinds := [], alts := [], laidByText := true, laidKinds := [.data, .data, .pinned], laidTests := true, laidLooks := .later }
def TextBaseUptoCardSaid : Prop := Claim7.holds Tryd.pinned (.plain (OpenSpec.upto textBaseSpec)) textBaseUptoCard

/-- THE SECOND FORM's CARD OF 'heliographlaw02.TextBack'. -/
def textBackUptoCard : Claim7 := { stood := { row := textBackUptoRow, standIns := [], harness := (true, "0a92e988331da1141ba8cc48477684ca152fd9742436909e3af16c5b21035c6a"), looks := false }, kinds := [], alts := [], laidByText := true, laidKinds := [.data, .data, .pinned], laidTests := true, laidLooks := .later }
def TextBackUptoCardSaid : Prop := Claim7.holds Tryd.pinned (.plain (OpenSpec.upto textBackSpec)) textBackUptoCard

/-- THE SECOND FORM's CARD OF 'heliographlaw02.TextSafe'. -/
def textSafeUptoCard : Claim7 := { stood := { row := textSafeUptoRow, standIns := [], harness := (true, "0a92e988331da1141ba8cc48477684ca152fd9742436909e3af16c5b21035c6a"), looks := false }, kinds := [], alts := [], laidByText := true, laidKinds := [.data, .data, .pinned], laidTests := true, laidLooks := .later }
def TextSafeUptoCardSaid : Prop := Claim7.holds Tryd.pinned (.plain (OpenSpec.upto textSafeSpec)) textSafeUptoCard

/-- THE SECOND FORM's CARD OF 'heliographlaw02.TextJoins'. -/
def textJoinsUptoCard : Claim7 := { stood := { row := textJoinsUptoRow, standIns := [], harness := (true, "0a92e988331da1141ba8cc48477684ca152fd9742436909e3af16c5b21035c6a"), looks := false }, kinds := [], alts := [], laidByText := true, laidKinds := [.data, .data, .pinned], laidTests := true, laidLooks := .later }
def TextJoinsUptoCardSaid : Prop := Claim7.holds Tryd.pinned (.plain (OpenSpec.upto textJoinsSpec)) textJoinsUptoCard
end Rows
end Go.Proofs.YtnlmohegkmegcabDoor
