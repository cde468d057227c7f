/-
  DERIVED. GIVEN WITH THE SEED: THE CARDS: each row of YtbhedmdbejoinaaDoorRows.lean that lists a variable, with what it lists TIED to the program's text (the seventh form; the later family's looks); each row that meets fmt, with fmt's text TOLD by the authors' own Lean function (tested against real Go, not proved from fmt's source: count such statements apart). THE CARD IS WHAT COUNTS. Prove the row's statement (the work); the ties are given (YtbhedmdbejoinaaDoorTie.lean); close each card by the builder's one call (the guide's Derived/Test/ToyasCard.lean, 'card_holds'). Laid BY PROGRAM, IN A SANDBOX (cutbox-door.mjs). By AI agents, Wed Nov 11 2026. No macro, syntax, notation, axiom, sorry.
-/
import Derived.Test.YtbhedmdbejoinaaDoorRows
import GoSem.ClaimSeven
namespace Go.Proofs.YtbhedmdbejoinaaDoor
namespace Rows

/-- THE TIED CARD OF 'heliographlaw03.XmlCuts'. -/
def xmlCutsCard : Claim7 := { stood := { row := xmlCutsRow, standIns := [], harness := (true, "8ecd2d7ee09f02cd1ce1c8ff6daabefdc00147708ea8026ed6a24f593a9ece15"), looks := true }, kinds := [], alts := [], laidByText := true, laidKinds := [.data, .data, .pinned], laidTests := true, laidLooks := .later }
def XmlCutsCardSaid : Prop := Claim7.holds Tryd.pinned (.plain (OpenSpec.ofChange xmlCutsSpec)) xmlCutsCard

/-- THE TIED CARD OF 'heliographlaw03.XmlBalanced'. -/
def xmlBalancedCard : Claim7 := { stood := { row := xmlBalancedRow, standIns := [], harness := (true, "8ecd2d7ee09f02cd1ce1c8ff6daabefdc00147708ea8026ed6a24f593a9ece15"), looks := true }, kinds := [], alts := [], laidByText := true, laidKinds := [.data, .data, .pinned], laidTests := true, laidLooks := .later }
def XmlBalancedCardSaid : Prop := Claim7.holds Tryd.pinned (.plain (OpenSpec.ofChange xmlBalancedSpec)) xmlBalancedCard

/-- THE TIED CARD OF 'heliographlaw03.XmlBarred'. -/
def xmlBarredCard : Claim7 := { stood := { row := xmlBarredRow, standIns := [], harness := (true, "8ecd2d7ee09f02cd1ce1c8ff6daabefdc00147708ea8026ed6a24f593a9ece15"), looks := true }, kinds := [], alts := [], laidByText := true, laidKinds := [.data, .data, .pinned], laidTests := true, laidLooks := .later }
def XmlBarredCardSaid : Prop := Claim7.holds Tryd.pinned (.plain (OpenSpec.ofChange xmlBarredSpec)) xmlBarredCard

/-- THE TIED CARD OF 'heliographlaw03.XmlEmpty'. -/
def xmlEmptyCard : Claim7 := { stood := { row := xmlEmptyRow, standIns := [], harness := (true, "8ecd2d7ee09f02cd1ce1c8ff6daabefdc00147708ea8026ed6a24f593a9ece15"), looks := true }, kinds := [], alts := [], laidByText := true, laidKinds := [.data, .data, .pinned], laidTests := true, laidLooks := .later }
def XmlEmptyCardSaid : Prop := Claim7.holds Tryd.pinned (.plain (OpenSpec.ofChange xmlEmptySpec)) xmlEmptyCard

/-- THE TIED CARD OF 'heliographtop.TopCarried'. -/
def topCarriedCard : Claim7 := { stood := { row := topCarriedRow, standIns := [], harness := (true, "8ecd2d7ee09f02cd1ce1c8ff6daabefdc00147708ea8026ed6a24f593a9ece15"), looks := true }, kinds := [], alts := [], laidByText := true, laidKinds := [.data, .data, .pinned], laidTests := true, laidLooks := .later }
def TopCarriedCardSaid : Prop := Claim7.holds Tryd.pinned (.plain (OpenSpec.ofChange topCarriedSpec)) topCarriedCard

/-- THE TIED CARD OF 'heliographtop.TopStream'. -/
def topStreamCard : Claim7 := { stood := { row := topStreamRow, standIns := [], harness := (true, "8ecd2d7ee09f02cd1ce1c8ff6daabefdc00147708ea8026ed6a24f593a9ece15"), looks := true }, kinds := [], alts := [], laidByText := true, laidKinds := [.data, .data, .pinned], laidTests := true, laidLooks := .later }
def TopStreamCardSaid : Prop := Claim7.holds Tryd.pinned (.plain (OpenSpec.ofChange topStreamSpec)) topStreamCard

/-- THE SECOND FORM's CARD OF 'heliographlaw03.XmlCuts'. -/
def xmlCutsUptoCard : Claim7 := { stood := { row := xmlCutsUptoRow, standIns := [], harness := (true, "8ecd2d7ee09f02cd1ce1c8ff6daabefdc00147708ea8026ed6a24f593a9ece15"), looks := true }, kinds := [], alts := [], laidByText := true, laidKinds := [.data, .data, .pinned], laidTests := true, laidLooks := .later }
def XmlCutsUptoCardSaid : Prop := Claim7.holds Tryd.pinned (.plain (OpenSpec.upto xmlCutsSpec)) xmlCutsUptoCard

/-- THE SECOND FORM's CARD OF 'heliographlaw03.XmlBalanced'. -/
def xmlBalancedUptoCard : Claim7 := { stood := { row := xmlBalancedUptoRow, standIns := [], harness := (true, "8ecd2d7ee09f02cd1ce1c8ff6daabefdc00147708ea8026ed6a24f593a9ece15"), looks := true }, kinds := [], alts := [], laidByText := true, laidKinds := [.data, .data, .pinned], laidTests := true, laidLooks := .later }
def XmlBalancedUptoCardSaid : Prop := Claim7.holds Tryd.pinned (.plain (OpenSpec.upto xmlBalancedSpec)) xmlBalancedUptoCard

/-- THE SECOND FORM's CARD OF 'heliographlaw03.XmlBarred'. -/
def xmlBarredUptoCard : Claim7 := { stood := { row := xmlBarredUptoRow, standIns := [], harness := (true, "8ecd2d7ee09f02cd1ce1c8ff6daabefdc00147708ea8026ed6a24f593a9ece15"), looks := true }, kinds := [], alts := [], laidByText := true, laidKinds := [.data, .data, .pinned], laidTests := true, laidLooks := .later }
def XmlBarredUptoCardSaid : Prop := Claim7.holds Tryd.pinned (.plain (OpenSpec.upto xmlBarredSpec)) xmlBarredUptoCard

/-- THE SECOND FORM's CARD OF 'heliographlaw03.XmlEmpty'. -/
def xmlEmptyUptoCard : Claim7 := { stood := { row := xmlEmptyUptoRow, standIns := [], harness := (true, "8ecd2d7ee09f02cd1ce1c8ff6daabefdc00147708ea8026ed6a24f593a9ece15"), looks := true }, kinds := [], alts := [], laidByText := true, laidKinds := [.data, .data, .pinned], laidTests := true, laidLooks := .later }
def XmlEmptyUptoCardSaid : Prop := Claim7.holds Tryd.pinned (.plain (OpenSpec.upto xmlEmptySpec)) xmlEmptyUptoCard

/-- THE SECOND FORM's CARD OF 'heliographtop.TopCarried'. -/
def topCarriedUptoCard : Claim7 := { stood := { row := topCarriedUptoRow, standIns := [], harness := (true, "8ecd2d7ee09f02cd1ce1c8ff6daabefdc00147708ea8026ed6a24f593a9ece15"), looks := true }, kinds := [], alts := [], laidByText := true, laidKinds := [.data, .data, .pinned], laidTests := true, laidLooks := .later }
def TopCarriedUptoCardSaid : Prop := Claim7.holds Tryd.pinned (.plain (OpenSpec.upto topCarriedSpec)) topCarriedUptoCard

/-- THE SECOND FORM's CARD OF 'heliographtop.TopStream'. -/
def topStreamUptoCard : Claim7 := { stood := { row := topStreamUptoRow, standIns := [], harness := (true, "8ecd2d7ee09f02cd1ce1c8ff6daabefdc00147708ea8026ed6a24f593a9ece15"), looks := true }, kinds := [], alts := [], laidByText := true, laidKinds := [.data, .data, .pinned], laidTests := true, laidLooks := .later }
def TopStreamUptoCardSaid : Prop := Claim7.holds Tryd.pinned (.plain (OpenSpec.upto topStreamSpec)) topStreamUptoCard
end Rows
end Go.Proofs.YtbhedmdbejoinaaDoor
