/-
  NARROWER THAN 'FOR EVERY INPUT', by the rows' own cells (each row's printed sentence says how): StanzaWrites: laid · StanzaReads: laid · StanzaBack: laid · StanzaAnswers: laid · StanzaFails: laid · TopWay: laid.
  DERIVED. THE GIVEN ROWS OF THIS SEAT. 6 by the template 'for every input the law returns true; each argument reads behind the call as it read before'; 0 by the template 'total and deterministic' (their statements: YtpknifioflagaaaDoorTotals.lean).
  GIVEN WITH THE SEED: the statements are not yours to turn. If you find one false, say at which input.
  Laid BY PROGRAM, IN A SANDBOX (cutbox-rows.mjs): the forced cells as the released guide's own fill.sh prints them over the translation ba39fced26eb9f0f… (all of the seat's roots in one cut). By AI agents, Wed Nov 11 2026. No macro, syntax, notation, axiom, sorry.
-/
import Derived.Test.YtpknifioflagaaaDoorChecked
import GoSem.PinnedTables
import GoSem.Claim
import GoSem.ClaimJoined
import GoSem.ClaimMapViews
import Derived.JoinedTies
import Derived.KernelRfl
namespace Go.Proofs.YtpknifioflagaaaDoor
/- THE CELL 'sum', in the pinned program and in every row, IS THE sha256 OF THE DUMP (.gsa) THAT YtpknifioflagaaaDoorProg.lean LOADS. Nothing in Lean hashes anything: it is a label: what it is worth is what the hold of that sum in a sandbox is worth. -/
noncomputable def Tryd.pinned : Pinned := { name := "ytpknifioflagaaadoor", sum := "ba39fced26eb9f0f6abd3c18c90dc5fa48cd017188a2bc67ddef88b7204ad559", checked := Tryd.checked }
namespace Rows
def none {H : Type} : Left H := { results := [], args := [] }

/- WHAT THE LISTED PACKAGE-LEVEL VARIABLES READ AS WHEN THE CALL BEGINS. Each datum BY PROGRAM (the guide's laid-datum.mjs) off the statement by which the dump's own 'gosem.cut.vars' lays the variable. In a bare row this is a premise. The card (YtpknifioflagaaaDoorCards.lean) ties it to the program's text. -/
def laid_unicode_utf8_acceptRanges {H : Type} : DataW H := .agg [.agg [.lit (.int .u8 128), .lit (.int .u8 191)], .agg [.lit (.int .u8 160), .lit (.int .u8 191)], .agg [.lit (.int .u8 128), .lit (.int .u8 159)], .agg [.lit (.int .u8 144), .lit (.int .u8 191)], .agg [.lit (.int .u8 128), .lit (.int .u8 143)], .agg [.lit (.int .u8 0), .lit (.int .u8 0)], .agg [.lit (.int .u8 0), .lit (.int .u8 0)], .agg [.lit (.int .u8 0), .lit (.int .u8 0)], .agg [.lit (.int .u8 0), .lit (.int .u8 0)], .agg [.lit (.int .u8 0), .lit (.int .u8 0)], .agg [.lit (.int .u8 0), .lit (.int .u8 0)], .agg [.lit (.int .u8 0), .lit (.int .u8 0)], .agg [.lit (.int .u8 0), .lit (.int .u8 0)], .agg [.lit (.int .u8 0), .lit (.int .u8 0)], .agg [.lit (.int .u8 0), .lit (.int .u8 0)], .agg [.lit (.int .u8 0), .lit (.int .u8 0)]]
def laid_heliograph_fault_rows {H : Type} : DataW H := .agg [.agg [.lit (.string []), .lit (.string [])], .agg [.lit (.string [98, 97, 100, 45, 114, 101, 113, 117, 101, 115, 116]), .lit (.string [109, 111, 100, 105, 102, 121])], .agg [.lit (.string [99, 111, 110, 102, 108, 105, 99, 116]), .lit (.string [99, 97, 110, 99, 101, 108])], .agg [.lit (.string [102, 111, 114, 98, 105, 100, 100, 101, 110]), .lit (.string [97, 117, 116, 104])], .agg [.lit (.string [105, 116, 101, 109, 45, 110, 111, 116, 45, 102, 111, 117, 110, 100]), .lit (.string [99, 97, 110, 99, 101, 108])], .agg [.lit (.string [106, 105, 100, 45, 109, 97, 108, 102, 111, 114, 109, 101, 100]), .lit (.string [109, 111, 100, 105, 102, 121])], .agg [.lit (.string [110, 111, 116, 45, 97, 108, 108, 111, 119, 101, 100]), .lit (.string [99, 97, 110, 99, 101, 108])], .agg [.lit (.string [110, 111, 116, 45, 97, 117, 116, 104, 111, 114, 105, 122, 101, 100]), .lit (.string [97, 117, 116, 104])], .agg [.lit (.string [114, 101, 115, 111, 117, 114, 99, 101, 45, 99, 111, 110, 115, 116, 114, 97, 105, 110, 116]), .lit (.string [119, 97, 105, 116])], .agg [.lit (.string [115, 101, 114, 118, 105, 99, 101, 45, 117, 110, 97, 118, 97, 105, 108, 97, 98, 108, 101]), .lit (.string [99, 97, 110, 99, 101, 108])], .agg [.lit (.string [117, 110, 101, 120, 112, 101, 99, 116, 101, 100, 45, 114, 101, 113, 117, 101, 115, 116]), .lit (.string [119, 97, 105, 116])]]
/-- One of Go's own tables, pinned by name: the form's constant. -/
def laid_unicode_utf8_first : DataW Unit := Go.Pinned.utf8First

/-- 'heliographlaw06.StanzaWrites': WHATEVER THE INPUT: true; the input reads as it did. -/
def stanzaWritesSpec : ChangeSpec := { name := "stanzaWrites", fn := fun _ => fun
  | [d] => { results := [.lit (.bool true)], args := [d] }
  | _ => none }
def stanzaWritesRow : OpenClaim := { program := "ytpknifioflagaaadoor", sum := "ba39fced26eb9f0f6abd3c18c90dc5fa48cd017188a2bc67ddef88b7204ad559", func := "heliograph/heliographlaw06.StanzaWrites", spec := "stanzaWrites", inPlace := ["internal/bytealg.IndexByteString", "internal/bytealg.IndexString"], unfollowed := true, recurses := true, named := ["internal/bytealg.MaxLen", "unicode/utf8.first", "unicode/utf8.acceptRanges", "heliograph/fault.rows"], apart := false, laid := [("unicode/utf8.acceptRanges", laid_unicode_utf8_acceptRanges), ("heliograph/fault.rows", laid_heliograph_fault_rows), ("unicode/utf8.first", laid_unicode_utf8_first)] }
def StanzaWritesSaid : Prop := stanzaWritesRow.holds Tryd.pinned (OpenSpec.ofChange stanzaWritesSpec)

/-- ITS FALSE NEIGHBOUR: 'it returns false'. Refute it at one input. -/
def stanzaWritesWrong : ChangeSpec := { name := "stanzaWrites", fn := fun _ => fun
  | [d] => { results := [.lit (.bool false)], args := [d] }
  | _ => none }
def StanzaWritesWrongFalsely : Prop := stanzaWritesRow.holds Tryd.pinned (OpenSpec.ofChange stanzaWritesWrong)

/-- 'heliographlaw06.StanzaReads': WHATEVER THE INPUT: true; the input reads as it did. -/
def stanzaReadsSpec : ChangeSpec := { name := "stanzaReads", fn := fun _ => fun
  | [d] => { results := [.lit (.bool true)], args := [d] }
  | _ => none }
def stanzaReadsRow : OpenClaim := { program := "ytpknifioflagaaadoor", sum := "ba39fced26eb9f0f6abd3c18c90dc5fa48cd017188a2bc67ddef88b7204ad559", func := "heliograph/heliographlaw06.StanzaReads", spec := "stanzaReads", inPlace := ["internal/bytealg.IndexByteString", "internal/bytealg.IndexString"], unfollowed := true, recurses := true, named := ["unicode/utf8.first", "unicode/utf8.acceptRanges", "internal/bytealg.MaxLen", "heliograph/fault.rows"], apart := false, laid := [("unicode/utf8.acceptRanges", laid_unicode_utf8_acceptRanges), ("heliograph/fault.rows", laid_heliograph_fault_rows), ("unicode/utf8.first", laid_unicode_utf8_first)] }
def StanzaReadsSaid : Prop := stanzaReadsRow.holds Tryd.pinned (OpenSpec.ofChange stanzaReadsSpec)

/-- ITS FALSE NEIGHBOUR: 'it returns false'. Refute it at one input. -/
def stanzaReadsWrong : ChangeSpec := { name := "stanzaReads", fn := fun _ => fun
  | [d] => { results := [.lit (.bool false)], args := [d] }
  | _ => none }
def StanzaReadsWrongFalsely : Prop := stanzaReadsRow.holds Tryd.pinned (OpenSpec.ofChange stanzaReadsWrong)

/-- 'heliographlaw06.StanzaBack': WHATEVER THE INPUT: true; the input reads as it did. -/
def stanzaBackSpec : ChangeSpec := { name := "stanzaBack", fn := fun _ => fun
  | [d1, d2] => { results := [.lit (.bool true)], args := [d1, d2] }
  | _ => none }
def stanzaBackRow : OpenClaim := { program := "ytpknifioflagaaadoor", sum := "ba39fced26eb9f0f6abd3c18c90dc5fa48cd017188a2bc67ddef88b7204ad559", func := "heliograph/heliographlaw06.StanzaBack", spec := "stanzaBack", inPlace := ["internal/bytealg.IndexByteString", "internal/bytealg.IndexString"], unfollowed := true, recurses := true, named := ["internal/bytealg.MaxLen", "unicode/utf8.first", "unicode/utf8.acceptRanges", "heliograph/fault.rows"], apart := false, laid := [("unicode/utf8.acceptRanges", laid_unicode_utf8_acceptRanges), ("heliograph/fault.rows", laid_heliograph_fault_rows), ("unicode/utf8.first", laid_unicode_utf8_first)] }
def StanzaBackSaid : Prop := stanzaBackRow.holds Tryd.pinned (OpenSpec.ofChange stanzaBackSpec)

/-- ITS FALSE NEIGHBOUR: 'it returns false'. Refute it at one input. -/
def stanzaBackWrong : ChangeSpec := { name := "stanzaBack", fn := fun _ => fun
  | [d1, d2] => { results := [.lit (.bool false)], args := [d1, d2] }
  | _ => none }
def StanzaBackWrongFalsely : Prop := stanzaBackRow.holds Tryd.pinned (OpenSpec.ofChange stanzaBackWrong)

/-- 'heliographlaw06.StanzaAnswers': WHATEVER THE INPUT: true; the input reads as it did. -/
def stanzaAnswersSpec : ChangeSpec := { name := "stanzaAnswers", fn := fun _ => fun
  | [d1, d2, d3] => { results := [.lit (.bool true)], args := [d1, d2, d3] }
  | _ => none }
def stanzaAnswersRow : OpenClaim := { program := "ytpknifioflagaaadoor", sum := "ba39fced26eb9f0f6abd3c18c90dc5fa48cd017188a2bc67ddef88b7204ad559", func := "heliograph/heliographlaw06.StanzaAnswers", spec := "stanzaAnswers", inPlace := ["internal/bytealg.IndexByteString", "internal/bytealg.IndexString"], unfollowed := true, recurses := true, named := ["heliograph/fault.rows", "internal/bytealg.MaxLen", "unicode/utf8.first", "unicode/utf8.acceptRanges"], apart := false, laid := [("unicode/utf8.acceptRanges", laid_unicode_utf8_acceptRanges), ("heliograph/fault.rows", laid_heliograph_fault_rows), ("unicode/utf8.first", laid_unicode_utf8_first)] }
def StanzaAnswersSaid : Prop := stanzaAnswersRow.holds Tryd.pinned (OpenSpec.ofChange stanzaAnswersSpec)

/-- ITS FALSE NEIGHBOUR: 'it returns false'. Refute it at one input. -/
def stanzaAnswersWrong : ChangeSpec := { name := "stanzaAnswers", fn := fun _ => fun
  | [d1, d2, d3] => { results := [.lit (.bool false)], args := [d1, d2, d3] }
  | _ => none }
def StanzaAnswersWrongFalsely : Prop := stanzaAnswersRow.holds Tryd.pinned (OpenSpec.ofChange stanzaAnswersWrong)

/-- 'heliographlaw06.StanzaFails': WHATEVER THE INPUT: true; the input reads as it did. -/
def stanzaFailsSpec : ChangeSpec := { name := "stanzaFails", fn := fun _ => fun
  | [d1, d2] => { results := [.lit (.bool true)], args := [d1, d2] }
  | _ => none }
def stanzaFailsRow : OpenClaim := { program := "ytpknifioflagaaadoor", sum := "ba39fced26eb9f0f6abd3c18c90dc5fa48cd017188a2bc67ddef88b7204ad559", func := "heliograph/heliographlaw06.StanzaFails", spec := "stanzaFails", inPlace := ["internal/bytealg.IndexByteString", "internal/bytealg.IndexString"], unfollowed := true, recurses := true, named := ["heliograph/fault.rows", "internal/bytealg.MaxLen", "unicode/utf8.first", "unicode/utf8.acceptRanges"], apart := false, laid := [("unicode/utf8.acceptRanges", laid_unicode_utf8_acceptRanges), ("heliograph/fault.rows", laid_heliograph_fault_rows), ("unicode/utf8.first", laid_unicode_utf8_first)] }
def StanzaFailsSaid : Prop := stanzaFailsRow.holds Tryd.pinned (OpenSpec.ofChange stanzaFailsSpec)

/-- ITS FALSE NEIGHBOUR: 'it returns false'. Refute it at one input. -/
def stanzaFailsWrong : ChangeSpec := { name := "stanzaFails", fn := fun _ => fun
  | [d1, d2] => { results := [.lit (.bool false)], args := [d1, d2] }
  | _ => none }
def StanzaFailsWrongFalsely : Prop := stanzaFailsRow.holds Tryd.pinned (OpenSpec.ofChange stanzaFailsWrong)

/-- 'heliographtop.TopWay': WHATEVER THE INPUT: true; the input reads as it did. -/
def topWaySpec : ChangeSpec := { name := "topWay", fn := fun _ => fun
  | [d1, d2, d3] => { results := [.lit (.bool true)], args := [d1, d2, d3] }
  | _ => none }
def topWayRow : OpenClaim := { program := "ytpknifioflagaaadoor", sum := "ba39fced26eb9f0f6abd3c18c90dc5fa48cd017188a2bc67ddef88b7204ad559", func := "heliograph/heliographtop.TopWay", spec := "topWay", inPlace := ["internal/bytealg.IndexByteString", "internal/bytealg.IndexString"], unfollowed := true, recurses := true, named := ["internal/bytealg.MaxLen", "heliograph/fault.rows", "unicode/utf8.first", "unicode/utf8.acceptRanges"], apart := false, laid := [("unicode/utf8.acceptRanges", laid_unicode_utf8_acceptRanges), ("heliograph/fault.rows", laid_heliograph_fault_rows), ("unicode/utf8.first", laid_unicode_utf8_first)] }
def TopWaySaid : Prop := topWayRow.holds Tryd.pinned (OpenSpec.ofChange topWaySpec)

/-- ITS FALSE NEIGHBOUR: 'it returns false'. Refute it at one input. -/
def topWayWrong : ChangeSpec := { name := "topWay", fn := fun _ => fun
  | [d1, d2, d3] => { results := [.lit (.bool false)], args := [d1, d2, d3] }
  | _ => none }
def TopWayWrongFalsely : Prop := topWayRow.holds Tryd.pinned (OpenSpec.ofChange topWayWrong)

/- THE SECOND FORM. 'bulk': how many values and letters a reading holds, each counted each time it is reached (what is shared counts as often as it is met; a slice's spare places count too). A statement '..UptoSaid' is the law's where the arguments, and the package variables that the reading takes, are together of bulk at most 1048576: NARROWER than '..Said'. Prove '..Said' where nothing that the law and all that it calls make is longer than what came in: it says more and counts as full. Else prove '..UptoSaid'. A law counts once. -/
mutual
def uptoBulk {H : Type} : DataW H → Nat
  | .lit (.string bytes) => bytes.length + 1
  | .lit _ => 1
  | .nil => 1
  | .ptr d => uptoBulk d + 1
  | .slice elems spare => uptoBulkAll elems + uptoBulkAll spare + 1
  | .agg parts => uptoBulkAll parts + 1
  | .iface _ d => uptoBulk d + 1
  | .map entries => uptoBulkEntries entries + 1
  | .held _ => 1
def uptoBulkAll {H : Type} : List (DataW H) → Nat
  | [] => 0
  | d :: r => uptoBulk d + uptoBulkAll r
def uptoBulkEntries {H : Type} : List (Lit × DataW H) → Nat
  | [] => 0
  | x :: r => uptoBulkEntry x + uptoBulkEntries r
def uptoBulkEntry {H : Type} : Lit × DataW H → Nat
  | (.string bytes, d) => bytes.length + uptoBulk d + 1
  | (_, d) => uptoBulk d + 1
 end
def uptoSmall : (H : Type) → List (DataW H) → Bool := fun _ ds => decide (uptoBulkAll ds ≤ 1048576)
def OpenSpec.upto (s : _root_.Go.ChangeSpec) : _root_.Go.OpenSpec := { _root_.Go.OpenSpec.ofChange s with cond := some uptoSmall }

/-- 'heliographlaw06.StanzaWrites', WHERE WHAT IT READS IS OF BULK AT MOST 1048576: true; the input reads as it did. -/
def stanzaWritesUptoRow : OpenClaim := { program := "ytpknifioflagaaadoor", sum := "ba39fced26eb9f0f6abd3c18c90dc5fa48cd017188a2bc67ddef88b7204ad559", func := "heliograph/heliographlaw06.StanzaWrites", spec := "stanzaWrites", inPlace := ["internal/bytealg.IndexByteString", "internal/bytealg.IndexString"], unfollowed := true, recurses := true, named := ["internal/bytealg.MaxLen", "unicode/utf8.first", "unicode/utf8.acceptRanges", "heliograph/fault.rows"], apart := false, laid := [("unicode/utf8.acceptRanges", laid_unicode_utf8_acceptRanges), ("heliograph/fault.rows", laid_heliograph_fault_rows), ("unicode/utf8.first", laid_unicode_utf8_first)], narrowed := true }
def StanzaWritesUptoSaid : Prop := stanzaWritesUptoRow.holds Tryd.pinned (OpenSpec.upto stanzaWritesSpec)

/-- 'heliographlaw06.StanzaReads', WHERE WHAT IT READS IS OF BULK AT MOST 1048576: true; the input reads as it did. -/
def stanzaReadsUptoRow : OpenClaim := { program := "ytpknifioflagaaadoor", sum := "ba39fced26eb9f0f6abd3c18c90dc5fa48cd017188a2bc67ddef88b7204ad559", func := "heliograph/heliographlaw06.StanzaReads", spec := "stanzaReads", inPlace := ["internal/bytealg.IndexByteString", "internal/bytealg.IndexString"], unfollowed := true, recurses := true, named := ["unicode/utf8.first", "unicode/utf8.acceptRanges", "internal/bytealg.MaxLen", "heliograph/fault.rows"], apart := false, laid := [("unicode/utf8.acceptRanges", laid_unicode_utf8_acceptRanges), ("heliograph/fault.rows", laid_heliograph_fault_rows), ("unicode/utf8.first", laid_unicode_utf8_first)], narrowed := true }
def StanzaReadsUptoSaid : Prop := stanzaReadsUptoRow.holds Tryd.pinned (OpenSpec.upto stanzaReadsSpec)

/-- 'heliographlaw06.StanzaBack', WHERE WHAT IT READS IS OF BULK AT MOST 1048576: true; the input reads as it did. -/
def stanzaBackUptoRow : OpenClaim := { program := "ytpknifioflagaaadoor", sum := "ba39fced26eb9f0f6abd3c18c90dc5fa48cd017188a2bc67ddef88b7204ad559", func := "heliograph/heliographlaw06.StanzaBack", spec := "stanzaBack", inPlace := ["internal/bytealg.IndexByteString", "internal/bytealg.IndexString"], unfollowed := true, recurses := true, named := ["internal/bytealg.MaxLen", "unicode/utf8.first", "unicode/utf8.acceptRanges", "heliograph/fault.rows"], apart := false, laid := [("unicode/utf8.acceptRanges", laid_unicode_utf8_acceptRanges), ("heliograph/fault.rows", laid_heliograph_fault_rows), ("unicode/utf8.first", laid_unicode_utf8_first)], narrowed := true }
def StanzaBackUptoSaid : Prop := stanzaBackUptoRow.holds Tryd.pinned (OpenSpec.upto stanzaBackSpec)

/-- 'heliographlaw06.StanzaAnswers', WHERE WHAT IT READS IS OF BULK AT MOST 1048576: true; the input reads as it did. -/
def stanzaAnswersUptoRow : OpenClaim := { program := "ytpknifioflagaaadoor", sum := "ba39fced26eb9f0f6abd3c18c90dc5fa48cd017188a2bc67ddef88b7204ad559", func := "heliograph/heliographlaw06.StanzaAnswers", spec := "stanzaAnswers", inPlace := ["internal/bytealg.IndexByteString", "internal/bytealg.IndexString"], unfollowed := true, recurses := true, named := ["heliograph/fault.rows", "internal/bytealg.MaxLen", "unicode/utf8.first", "unicode/utf8.acceptRanges"], apart := false, laid := [("unicode/utf8.acceptRanges", laid_unicode_utf8_acceptRanges), ("heliograph/fault.rows", laid_heliograph_fault_rows), ("unicode/utf8.first", laid_unicode_utf8_first)], narrowed := true }
def StanzaAnswersUptoSaid : Prop := stanzaAnswersUptoRow.holds Tryd.pinned (OpenSpec.upto stanzaAnswersSpec)

/-- 'heliographlaw06.StanzaFails', WHERE WHAT IT READS IS OF BULK AT MOST 1048576: true; the input reads as it did. -/
def stanzaFailsUptoRow : OpenClaim := { program := "ytpknifioflagaaadoor", sum := "ba39fced26eb9f0f6abd3c18c90dc5fa48cd017188a2bc67ddef88b7204ad559", func := "heliograph/heliographlaw06.StanzaFails", spec := "stanzaFails", inPlace := ["internal/bytealg.IndexByteString", "internal/bytealg.IndexString"], unfollowed := true, recurses := true, named := ["heliograph/fault.rows", "internal/bytealg.MaxLen", "unicode/utf8.first", "unicode/utf8.acceptRanges"], apart := false, laid := [("unicode/utf8.acceptRanges", laid_unicode_utf8_acceptRanges), ("heliograph/fault.rows", laid_heliograph_fault_rows), ("unicode/utf8.first", laid_unicode_utf8_first)], narrowed := true }
def StanzaFailsUptoSaid : Prop := stanzaFailsUptoRow.holds Tryd.pinned (OpenSpec.upto stanzaFailsSpec)

/-- 'heliographtop.TopWay', WHERE WHAT IT READS IS OF BULK AT MOST 1048576: true; the input reads as it did. -/
def topWayUptoRow : OpenClaim := { program := "ytpknifioflagaaadoor", sum := "ba39fced26eb9f0f6abd3c18c90dc5fa48cd017188a2bc67ddef88b7204ad559", func := "heliograph/heliographtop.TopWay", spec := "topWay", inPlace := ["internal/bytealg.IndexByteString", "internal/bytealg.IndexString"], unfollowed := true, recurses := true, named := ["internal/bytealg.MaxLen", "heliograph/fault.rows", "unicode/utf8.first", "unicode/utf8.acceptRanges"], apart := false, laid := [("unicode/utf8.acceptRanges", laid_unicode_utf8_acceptRanges), ("heliograph/fault.rows", laid_heliograph_fault_rows), ("unicode/utf8.first", laid_unicode_utf8_first)], narrowed := true }
def TopWayUptoSaid : Prop := topWayUptoRow.holds Tryd.pinned (OpenSpec.upto topWaySpec)

end Rows
end Go.Proofs.YtpknifioflagaaaDoor
