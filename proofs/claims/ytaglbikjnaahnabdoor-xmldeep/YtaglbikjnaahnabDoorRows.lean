/-
  NARROWER THAN 'FOR EVERY INPUT', by the rows' own cells (each row's printed sentence says how): XmlForks: laid · XmlNone: laid · XmlEmpty: laid · XmlDeep: laid · WritePrints: laid · WriteElements: laid.
  DERIVED. THE GIVEN ROWS OF THIS SEAT. 6 by the template 'for every input the law returns true; each argument reads behind the call as it read before'; 0 by the template 'total and deterministic' (their statements: YtaglbikjnaahnabDoorTotals.lean).
  GIVEN WITH THE SEED: the statements are not yours to turn. If you find one false, say at which input.
  Laid BY PROGRAM, IN A SANDBOX (cutbox-rows.mjs): the forced cells as the released guide's own fill.sh prints them over the translation 19d1052a7a2626d8… (all of the seat's roots in one cut). By AI agents, Wed Nov 11 2026. No macro, syntax, notation, axiom, sorry.
-/
import Derived.Test.YtaglbikjnaahnabDoorChecked
import GoSem.PinnedTables
import GoSem.Claim
import GoSem.ClaimJoined
import GoSem.ClaimMapViews
import Derived.JoinedTies
import Derived.KernelRfl
namespace Go.Proofs.YtaglbikjnaahnabDoor
/- THE CELL 'sum', in the pinned program and in every row, IS THE sha256 OF THE DUMP (.gsa) THAT YtaglbikjnaahnabDoorProg.lean LOADS. Nothing in Lean hashes anything: it is a label: what it is worth is what the hold of that sum in a sandbox is worth. -/
noncomputable def Tryd.pinned : Pinned := { name := "ytaglbikjnaahnabdoor", sum := "19d1052a7a2626d8fc56a53edbe71c450b026b1c333e30b455d9034f11e50f71", checked := Tryd.checked }
namespace Rows
def none {H : Type} : Left H := { results := [], args := [] }

/- WHAT THE LISTED PACKAGE-LEVEL VARIABLES READ AS WHEN THE CALL BEGINS. Each datum BY PROGRAM (the guide's laid-datum.mjs) off the statement by which the dump's own 'gosem.cut.vars' lays the variable. In a bare row this is a premise. The card (YtaglbikjnaahnabDoorCards.lean) ties it to the program's text. -/
def laid_unicode_utf8_acceptRanges {H : Type} : DataW H := .agg [.agg [.lit (.int .u8 128), .lit (.int .u8 191)], .agg [.lit (.int .u8 160), .lit (.int .u8 191)], .agg [.lit (.int .u8 128), .lit (.int .u8 159)], .agg [.lit (.int .u8 144), .lit (.int .u8 191)], .agg [.lit (.int .u8 128), .lit (.int .u8 143)], .agg [.lit (.int .u8 0), .lit (.int .u8 0)], .agg [.lit (.int .u8 0), .lit (.int .u8 0)], .agg [.lit (.int .u8 0), .lit (.int .u8 0)], .agg [.lit (.int .u8 0), .lit (.int .u8 0)], .agg [.lit (.int .u8 0), .lit (.int .u8 0)], .agg [.lit (.int .u8 0), .lit (.int .u8 0)], .agg [.lit (.int .u8 0), .lit (.int .u8 0)], .agg [.lit (.int .u8 0), .lit (.int .u8 0)], .agg [.lit (.int .u8 0), .lit (.int .u8 0)], .agg [.lit (.int .u8 0), .lit (.int .u8 0)], .agg [.lit (.int .u8 0), .lit (.int .u8 0)]]
def laid_heliograph_text_entities {H : Type} : DataW H := .agg [.agg [.lit (.int .i32 38), .lit (.string [97, 109, 112])], .agg [.lit (.int .i32 60), .lit (.string [108, 116])], .agg [.lit (.int .i32 62), .lit (.string [103, 116])], .agg [.lit (.int .i32 39), .lit (.string [97, 112, 111, 115])], .agg [.lit (.int .i32 34), .lit (.string [113, 117, 111, 116])]]
/-- One of Go's own tables, pinned by name: the form's constant. -/
def laid_unicode_utf8_first : DataW Unit := Go.Pinned.utf8First

/-- 'heliographlaw03.XmlForks': WHATEVER THE INPUT: true; the input reads as it did. -/
def xmlForksSpec : ChangeSpec := { name := "xmlForks", fn := fun _ => fun
  | [d1, d2] => { results := [.lit (.bool true)], args := [d1, d2] }
  | _ => none }
def xmlForksRow : OpenClaim := { program := "ytaglbikjnaahnabdoor", sum := "19d1052a7a2626d8fc56a53edbe71c450b026b1c333e30b455d9034f11e50f71", func := "heliograph/heliographlaw03.XmlForks", spec := "xmlForks", inPlace := ["internal/bytealg.IndexByteString", "internal/bytealg.IndexString", "internal/abi.NoEscape"], unfollowed := true, recurses := true, named := ["heliograph/text.entities", "internal/bytealg.MaxLen", "unicode/utf8.first", "unicode/utf8.acceptRanges"], apart := false, laid := [("unicode/utf8.acceptRanges", laid_unicode_utf8_acceptRanges), ("heliograph/text.entities", laid_heliograph_text_entities), ("unicode/utf8.first", laid_unicode_utf8_first)] }
def XmlForksSaid : Prop := xmlForksRow.holds Tryd.pinned (OpenSpec.ofChange xmlForksSpec)

/-- ITS FALSE NEIGHBOUR: 'it returns false'. Refute it at one input. -/
def xmlForksWrong : ChangeSpec := { name := "xmlForks", fn := fun _ => fun
  | [d1, d2] => { results := [.lit (.bool false)], args := [d1, d2] }
  | _ => none }
def XmlForksWrongFalsely : Prop := xmlForksRow.holds Tryd.pinned (OpenSpec.ofChange xmlForksWrong)

/-- 'heliographlaw03.XmlNone': WHATEVER THE INPUT: true; the input reads as it did. -/
def xmlNoneSpec : ChangeSpec := { name := "xmlNone", fn := fun _ => fun
  | [d] => { results := [.lit (.bool true)], args := [d] }
  | _ => none }
def xmlNoneRow : OpenClaim := { program := "ytaglbikjnaahnabdoor", sum := "19d1052a7a2626d8fc56a53edbe71c450b026b1c333e30b455d9034f11e50f71", func := "heliograph/heliographlaw03.XmlNone", spec := "xmlNone", inPlace := ["internal/bytealg.IndexByteString", "internal/bytealg.IndexString", "internal/abi.NoEscape"], unfollowed := true, recurses := true, named := ["heliograph/text.entities", "internal/bytealg.MaxLen", "unicode/utf8.first", "unicode/utf8.acceptRanges"], apart := false, laid := [("unicode/utf8.acceptRanges", laid_unicode_utf8_acceptRanges), ("heliograph/text.entities", laid_heliograph_text_entities), ("unicode/utf8.first", laid_unicode_utf8_first)] }
def XmlNoneSaid : Prop := xmlNoneRow.holds Tryd.pinned (OpenSpec.ofChange xmlNoneSpec)

/-- ITS FALSE NEIGHBOUR: 'it returns false'. Refute it at one input. -/
def xmlNoneWrong : ChangeSpec := { name := "xmlNone", fn := fun _ => fun
  | [d] => { results := [.lit (.bool false)], args := [d] }
  | _ => none }
def XmlNoneWrongFalsely : Prop := xmlNoneRow.holds Tryd.pinned (OpenSpec.ofChange xmlNoneWrong)

/-- 'heliographlaw03.XmlEmpty': WHATEVER THE INPUT: true; the input reads as it did. -/
def xmlEmptySpec : ChangeSpec := { name := "xmlEmpty", fn := fun _ => fun
  | [d1, d2] => { results := [.lit (.bool true)], args := [d1, d2] }
  | _ => none }
def xmlEmptyRow : OpenClaim := { program := "ytaglbikjnaahnabdoor", sum := "19d1052a7a2626d8fc56a53edbe71c450b026b1c333e30b455d9034f11e50f71", func := "heliograph/heliographlaw03.XmlEmpty", spec := "xmlEmpty", inPlace := ["internal/bytealg.IndexByteString", "internal/bytealg.IndexString", "internal/abi.NoEscape"], unfollowed := true, recurses := true, named := ["heliograph/text.entities", "internal/bytealg.MaxLen", "unicode/utf8.first", "unicode/utf8.acceptRanges"], apart := false, laid := [("unicode/utf8.acceptRanges", laid_unicode_utf8_acceptRanges), ("heliograph/text.entities", laid_heliograph_text_entities), ("unicode/utf8.first", laid_unicode_utf8_first)] }
def XmlEmptySaid : Prop := xmlEmptyRow.holds Tryd.pinned (OpenSpec.ofChange xmlEmptySpec)

/-- ITS FALSE NEIGHBOUR: 'it returns false'. Refute it at one input. -/
def xmlEmptyWrong : ChangeSpec := { name := "xmlEmpty", fn := fun _ => fun
  | [d1, d2] => { results := [.lit (.bool false)], args := [d1, d2] }
  | _ => none }
def XmlEmptyWrongFalsely : Prop := xmlEmptyRow.holds Tryd.pinned (OpenSpec.ofChange xmlEmptyWrong)

/-- 'heliographlaw03.XmlDeep': WHATEVER THE INPUT: true; the input reads as it did. -/
def xmlDeepSpec : ChangeSpec := { name := "xmlDeep", fn := fun _ => fun
  | [d] => { results := [.lit (.bool true)], args := [d] }
  | _ => none }
def xmlDeepRow : OpenClaim := { program := "ytaglbikjnaahnabdoor", sum := "19d1052a7a2626d8fc56a53edbe71c450b026b1c333e30b455d9034f11e50f71", func := "heliograph/heliographlaw03.XmlDeep", spec := "xmlDeep", inPlace := ["internal/bytealg.IndexByteString", "internal/bytealg.IndexString", "internal/abi.NoEscape"], unfollowed := true, recurses := true, named := ["heliograph/text.entities", "internal/bytealg.MaxLen", "unicode/utf8.first", "unicode/utf8.acceptRanges"], apart := false, laid := [("unicode/utf8.acceptRanges", laid_unicode_utf8_acceptRanges), ("heliograph/text.entities", laid_heliograph_text_entities), ("unicode/utf8.first", laid_unicode_utf8_first)] }
def XmlDeepSaid : Prop := xmlDeepRow.holds Tryd.pinned (OpenSpec.ofChange xmlDeepSpec)

/-- ITS FALSE NEIGHBOUR: 'it returns false'. Refute it at one input. -/
def xmlDeepWrong : ChangeSpec := { name := "xmlDeep", fn := fun _ => fun
  | [d] => { results := [.lit (.bool false)], args := [d] }
  | _ => none }
def XmlDeepWrongFalsely : Prop := xmlDeepRow.holds Tryd.pinned (OpenSpec.ofChange xmlDeepWrong)

/-- 'heliographlaw04.WritePrints': WHATEVER THE INPUT: true; the input reads as it did. -/
def writePrintsSpec : ChangeSpec := { name := "writePrints", fn := fun _ => fun
  | [d] => { results := [.lit (.bool true)], args := [d] }
  | _ => none }
def writePrintsRow : OpenClaim := { program := "ytaglbikjnaahnabdoor", sum := "19d1052a7a2626d8fc56a53edbe71c450b026b1c333e30b455d9034f11e50f71", func := "heliograph/heliographlaw04.WritePrints", spec := "writePrints", inPlace := ["internal/abi.NoEscape"], unfollowed := true, recurses := true, named := ["unicode/utf8.first", "unicode/utf8.acceptRanges", "heliograph/text.entities"], apart := false, laid := [("unicode/utf8.acceptRanges", laid_unicode_utf8_acceptRanges), ("heliograph/text.entities", laid_heliograph_text_entities), ("unicode/utf8.first", laid_unicode_utf8_first)] }
def WritePrintsSaid : Prop := writePrintsRow.holds Tryd.pinned (OpenSpec.ofChange writePrintsSpec)

/-- ITS FALSE NEIGHBOUR: 'it returns false'. Refute it at one input. -/
def writePrintsWrong : ChangeSpec := { name := "writePrints", fn := fun _ => fun
  | [d] => { results := [.lit (.bool false)], args := [d] }
  | _ => none }
def WritePrintsWrongFalsely : Prop := writePrintsRow.holds Tryd.pinned (OpenSpec.ofChange writePrintsWrong)

/-- 'heliographlaw04.WriteElements': WHATEVER THE INPUT: true; the input reads as it did. -/
def writeElementsSpec : ChangeSpec := { name := "writeElements", fn := fun _ => fun
  | [d1, d2, d3] => { results := [.lit (.bool true)], args := [d1, d2, d3] }
  | _ => none }
def writeElementsRow : OpenClaim := { program := "ytaglbikjnaahnabdoor", sum := "19d1052a7a2626d8fc56a53edbe71c450b026b1c333e30b455d9034f11e50f71", func := "heliograph/heliographlaw04.WriteElements", spec := "writeElements", inPlace := ["internal/abi.NoEscape"], unfollowed := true, recurses := true, named := ["unicode/utf8.first", "unicode/utf8.acceptRanges", "heliograph/text.entities"], apart := false, laid := [("unicode/utf8.acceptRanges", laid_unicode_utf8_acceptRanges), ("heliograph/text.entities", laid_heliograph_text_entities), ("unicode/utf8.first", laid_unicode_utf8_first)] }
def WriteElementsSaid : Prop := writeElementsRow.holds Tryd.pinned (OpenSpec.ofChange writeElementsSpec)

/-- ITS FALSE NEIGHBOUR: 'it returns false'. Refute it at one input. -/
def writeElementsWrong : ChangeSpec := { name := "writeElements", fn := fun _ => fun
  | [d1, d2, d3] => { results := [.lit (.bool false)], args := [d1, d2, d3] }
  | _ => none }
def WriteElementsWrongFalsely : Prop := writeElementsRow.holds Tryd.pinned (OpenSpec.ofChange writeElementsWrong)

/- THE SECOND FORM. 'bulk': how many values and letters a reading holds, each counted each time it is reached (what is shared counts as often as it is met; a slice's spare places count too). A statement '..UptoSaid' is the law's where the arguments, and the package variables that the reading takes, are together of bulk at most 1048576: NARROWER than '..Said'. Prove '..Said' where nothing that the law and all that it calls make is longer than what came in: it says more and counts as full. Else prove '..UptoSaid'. A law counts once. -/
mutual
def uptoBulk {H : Type} : DataW H → Nat
  | .lit (.string bytes) => bytes.length + 1
  | .lit _ => 1
  | .nil => 1
  | .ptr d => uptoBulk d + 1
  | .slice elems spare => uptoBulkAll elems + uptoBulkAll spare + 1
  | .agg parts => uptoBulkAll parts + 1
  | .iface _ d => uptoBulk d + 1
  | .map entries => uptoBulkEntries entries + 1
  | .held _ => 1
def uptoBulkAll {H : Type} : List (DataW H) → Nat
  | [] => 0
  | d :: r => uptoBulk d + uptoBulkAll r
def uptoBulkEntries {H : Type} : List (Lit × DataW H) → Nat
  | [] => 0
  | x :: r => uptoBulkEntry x + uptoBulkEntries r
def uptoBulkEntry {H : Type} : Lit × DataW H → Nat
  | (.string bytes, d) => bytes.length + uptoBulk d + 1
  | (_, d) => uptoBulk d + 1
 end
def uptoSmall : (H : Type) → List (DataW H) → Bool := fun _ ds => decide (uptoBulkAll ds ≤ 1048576)
def OpenSpec.upto (s : _root_.Go.ChangeSpec) : _root_.Go.OpenSpec := { _root_.Go.OpenSpec.ofChange s with cond := some uptoSmall }

/-- 'heliographlaw03.XmlForks', WHERE WHAT IT READS IS OF BULK AT MOST 1048576: true; the input reads as it did. -/
def xmlForksUptoRow : OpenClaim := { program := "ytaglbikjnaahnabdoor", sum := "19d1052a7a2626d8fc56a53edbe71c450b026b1c333e30b455d9034f11e50f71", func := "heliograph/heliographlaw03.XmlForks", spec := "xmlForks", inPlace := ["internal/bytealg.IndexByteString", "internal/bytealg.IndexString", "internal/abi.NoEscape"], unfollowed := true, recurses := true, named := ["heliograph/text.entities", "internal/bytealg.MaxLen", "unicode/utf8.first", "unicode/utf8.acceptRanges"], apart := false, laid := [("unicode/utf8.acceptRanges", laid_unicode_utf8_acceptRanges), ("heliograph/text.entities", laid_heliograph_text_entities), ("unicode/utf8.first", laid_unicode_utf8_first)], narrowed := true }
def XmlForksUptoSaid : Prop := xmlForksUptoRow.holds Tryd.pinned (OpenSpec.upto xmlForksSpec)

/-- 'heliographlaw03.XmlNone', WHERE WHAT IT READS IS OF BULK AT MOST 1048576: true; the input reads as it did. -/
def xmlNoneUptoRow : OpenClaim := { program := "ytaglbikjnaahnabdoor", sum := "19d1052a7a2626d8fc56a53edbe71c450b026b1c333e30b455d9034f11e50f71", func := "heliograph/heliographlaw03.XmlNone", spec := "xmlNone", inPlace := ["internal/bytealg.IndexByteString", "internal/bytealg.IndexString", "internal/abi.NoEscape"], unfollowed := true, recurses := true, named := ["heliograph/text.entities", "internal/bytealg.MaxLen", "unicode/utf8.first", "unicode/utf8.acceptRanges"], apart := false, laid := [("unicode/utf8.acceptRanges", laid_unicode_utf8_acceptRanges), ("heliograph/text.entities", laid_heliograph_text_entities), ("unicode/utf8.first", laid_unicode_utf8_first)], narrowed := true }
def XmlNoneUptoSaid : Prop := xmlNoneUptoRow.holds Tryd.pinned (OpenSpec.upto xmlNoneSpec)

/-- 'heliographlaw03.XmlEmpty', WHERE WHAT IT READS IS OF BULK AT MOST 1048576: true; the input reads as it did. -/
def xmlEmptyUptoRow : OpenClaim := { program := "ytaglbikjnaahnabdoor", sum := "19d1052a7a2626d8fc56a53edbe71c450b026b1c333e30b455d9034f11e50f71", func := "heliograph/heliographlaw03.XmlEmpty", spec := "xmlEmpty", inPlace := ["internal/bytealg.IndexByteString", "internal/bytealg.IndexString", "internal/abi.NoEscape"], unfollowed := true, recurses := true, named := ["heliograph/text.entities", "internal/bytealg.MaxLen", "unicode/utf8.first", "unicode/utf8.acceptRanges"], apart := false, laid := [("unicode/utf8.acceptRanges", laid_unicode_utf8_acceptRanges), ("heliograph/text.entities", laid_heliograph_text_entities), ("unicode/utf8.first", laid_unicode_utf8_first)], narrowed := true }
def XmlEmptyUptoSaid : Prop := xmlEmptyUptoRow.holds Tryd.pinned (OpenSpec.upto xmlEmptySpec)

/-- 'heliographlaw03.XmlDeep', WHERE WHAT IT READS IS OF BULK AT MOST 1048576: true; the input reads as it did. -/
def xmlDeepUptoRow : OpenClaim := { program := "ytaglbikjnaahnabdoor", sum := "19d1052a7a2626d8fc56a53edbe71c450b026b1c333e30b455d9034f11e50f71", func := "heliograph/heliographlaw03.XmlDeep", spec := "xmlDeep", inPlace := ["internal/bytealg.IndexByteString", "internal/bytealg.IndexString", "internal/abi.NoEscape"], unfollowed := true, recurses := true, named := ["heliograph/text.entities", "internal/bytealg.MaxLen", "unicode/utf8.first", "unicode/utf8.acceptRanges"], apart := false, laid := [("unicode/utf8.acceptRanges", laid_unicode_utf8_acceptRanges), ("heliograph/text.entities", laid_heliograph_text_entities), ("unicode/utf8.first", laid_unicode_utf8_first)], narrowed := true }
def XmlDeepUptoSaid : Prop := xmlDeepUptoRow.holds Tryd.pinned (OpenSpec.upto xmlDeepSpec)

/-- 'heliographlaw04.WritePrints', WHERE WHAT IT READS IS OF BULK AT MOST 1048576: true; the input reads as it did. -/
def writePrintsUptoRow : OpenClaim := { program := "ytaglbikjnaahnabdoor", sum := "19d1052a7a2626d8fc56a53edbe71c450b026b1c333e30b455d9034f11e50f71", func := "heliograph/heliographlaw04.WritePrints", spec := "writePrints", inPlace := ["internal/abi.NoEscape"], unfollowed := true, recurses := true, named := ["unicode/utf8.first", "unicode/utf8.acceptRanges", "heliograph/text.entities"], apart := false, laid := [("unicode/utf8.acceptRanges", laid_unicode_utf8_acceptRanges), ("heliograph/text.entities", laid_heliograph_text_entities), ("unicode/utf8.first", laid_unicode_utf8_first)], narrowed := true }
def WritePrintsUptoSaid : Prop := writePrintsUptoRow.holds Tryd.pinned (OpenSpec.upto writePrintsSpec)

/-- 'heliographlaw04.WriteElements', WHERE WHAT IT READS IS OF BULK AT MOST 1048576: true; the input reads as it did. -/
def writeElementsUptoRow : OpenClaim := { program := "ytaglbikjnaahnabdoor", sum := "19d1052a7a2626d8fc56a53edbe71c450b026b1c333e30b455d9034f11e50f71", func := "heliograph/heliographlaw04.WriteElements", spec := "writeElements", inPlace := ["internal/abi.NoEscape"], unfollowed := true, recurses := true, named := ["unicode/utf8.first", "unicode/utf8.acceptRanges", "heliograph/text.entities"], apart := false, laid := [("unicode/utf8.acceptRanges", laid_unicode_utf8_acceptRanges), ("heliograph/text.entities", laid_heliograph_text_entities), ("unicode/utf8.first", laid_unicode_utf8_first)], narrowed := true }
def WriteElementsUptoSaid : Prop := writeElementsUptoRow.holds Tryd.pinned (OpenSpec.upto writeElementsSpec)

end Rows
end Go.Proofs.YtaglbikjnaahnabDoor
