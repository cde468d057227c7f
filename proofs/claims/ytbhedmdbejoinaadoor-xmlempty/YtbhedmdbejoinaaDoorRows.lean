/-
  NARROWER THAN 'FOR EVERY INPUT', by the rows' own cells (each row's printed sentence says how): XmlCuts: laid · XmlBalanced: laid · XmlBarred: laid · XmlEmpty: laid · TopCarried: laid · TopStream: laid.
  DERIVED. THE GIVEN ROWS OF THIS SEAT. 6 by the template 'for every input the law returns true; each argument reads behind the call as it read before'; 0 by the template 'total and deterministic' (their statements: YtbhedmdbejoinaaDoorTotals.lean).
  GIVEN WITH THE SEED: the statements are not yours to turn. If you find one false, say at which input.
  Laid BY PROGRAM, IN A SANDBOX (cutbox-rows.mjs): the forced cells as the released guide's own fill.sh prints them over the translation a7fc3ef50620f191… (all of the seat's roots in one cut). By AI agents, Wed Nov 11 2026. No macro, syntax, notation, axiom, sorry.
-/
import Derived.Test.YtbhedmdbejoinaaDoorChecked
import GoSem.PinnedTables
import GoSem.Claim
import GoSem.ClaimJoined
import GoSem.ClaimMapViews
import Derived.JoinedTies
import Derived.KernelRfl
namespace Go.Proofs.YtbhedmdbejoinaaDoor
/- THE CELL 'sum', in the pinned program and in every row, IS THE sha256 OF THE DUMP (.gsa) THAT YtbhedmdbejoinaaDoorProg.lean LOADS. Nothing in Lean hashes anything: it is a label: what it is worth is what the hold of that sum in a sandbox is worth. -/
noncomputable def Tryd.pinned : Pinned := { name := "ytbhedmdbejoinaadoor", sum := "a7fc3ef50620f19167f466ccc376b496589f093ee1a4df0cfe880183bbe1f6bc", checked := Tryd.checked }
namespace Rows
def none {H : Type} : Left H := { results := [], args := [] }

/- WHAT THE LISTED PACKAGE-LEVEL VARIABLES READ AS WHEN THE CALL BEGINS. Each datum BY PROGRAM (the guide's laid-datum.mjs) off the statement by which the dump's own 'gosem.cut.vars' lays the variable. In a bare row this is a premise. The card (YtbhedmdbejoinaaDoorCards.lean) ties it to the program's text. -/
def laid_unicode_utf8_acceptRanges {H : Type} : DataW H := .agg [.agg [.lit (.int .u8 128), .lit (.int .u8 191)], .agg [.lit (.int .u8 160), .lit (.int .u8 191)], .agg [.lit (.int .u8 128), .lit (.int .u8 159)], .agg [.lit (.int .u8 144), .lit (.int .u8 191)], .agg [.lit (.int .u8 128), .lit (.int .u8 143)], .agg [.lit (.int .u8 0), .lit (.int .u8 0)], .agg [.lit (.int .u8 0), .lit (.int .u8 0)], .agg [.lit (.int .u8 0), .lit (.int .u8 0)], .agg [.lit (.int .u8 0), .lit (.int .u8 0)], .agg [.lit (.int .u8 0), .lit (.int .u8 0)], .agg [.lit (.int .u8 0), .lit (.int .u8 0)], .agg [.lit (.int .u8 0), .lit (.int .u8 0)], .agg [.lit (.int .u8 0), .lit (.int .u8 0)], .agg [.lit (.int .u8 0), .lit (.int .u8 0)], .agg [.lit (.int .u8 0), .lit (.int .u8 0)], .agg [.lit (.int .u8 0), .lit (.int .u8 0)]]
def laid_heliograph_text_entities {H : Type} : DataW H := .agg [.agg [.lit (.int .i32 38), .lit (.string [97, 109, 112])], .agg [.lit (.int .i32 60), .lit (.string [108, 116])], .agg [.lit (.int .i32 62), .lit (.string [103, 116])], .agg [.lit (.int .i32 39), .lit (.string [97, 112, 111, 115])], .agg [.lit (.int .i32 34), .lit (.string [113, 117, 111, 116])]]
/-- One of Go's own tables, pinned by name: the form's constant. -/
def laid_unicode_utf8_first : DataW Unit := Go.Pinned.utf8First

/-- 'heliographlaw03.XmlCuts': WHATEVER THE INPUT: true; the input reads as it did. -/
def xmlCutsSpec : ChangeSpec := { name := "xmlCuts", fn := fun _ => fun
  | [d1, d2] => { results := [.lit (.bool true)], args := [d1, d2] }
  | _ => none }
def xmlCutsRow : OpenClaim := { program := "ytbhedmdbejoinaadoor", sum := "a7fc3ef50620f19167f466ccc376b496589f093ee1a4df0cfe880183bbe1f6bc", func := "heliograph/heliographlaw03.XmlCuts", spec := "xmlCuts", inPlace := ["internal/bytealg.IndexByteString", "internal/bytealg.IndexString", "internal/abi.NoEscape"], unfollowed := true, recurses := true, named := ["heliograph/text.entities", "internal/bytealg.MaxLen", "unicode/utf8.first", "unicode/utf8.acceptRanges"], apart := false, laid := [("unicode/utf8.acceptRanges", laid_unicode_utf8_acceptRanges), ("heliograph/text.entities", laid_heliograph_text_entities), ("unicode/utf8.first", laid_unicode_utf8_first)] }
def XmlCutsSaid : Prop := xmlCutsRow.holds Tryd.pinned (OpenSpec.ofChange xmlCutsSpec)

/-- ITS FALSE NEIGHBOUR: 'it returns false'. Refute it at one input. -/
def xmlCutsWrong : ChangeSpec := { name := "xmlCuts", fn := fun _ => fun
  | [d1, d2] => { results := [.lit (.bool false)], args := [d1, d2] }
  | _ => none }
def XmlCutsWrongFalsely : Prop := xmlCutsRow.holds Tryd.pinned (OpenSpec.ofChange xmlCutsWrong)

/-- 'heliographlaw03.XmlBalanced': WHATEVER THE INPUT: true; the input reads as it did. -/
def xmlBalancedSpec : ChangeSpec := { name := "xmlBalanced", fn := fun _ => fun
  | [d] => { results := [.lit (.bool true)], args := [d] }
  | _ => none }
def xmlBalancedRow : OpenClaim := { program := "ytbhedmdbejoinaadoor", sum := "a7fc3ef50620f19167f466ccc376b496589f093ee1a4df0cfe880183bbe1f6bc", func := "heliograph/heliographlaw03.XmlBalanced", spec := "xmlBalanced", inPlace := ["internal/bytealg.IndexByteString", "internal/bytealg.IndexString", "internal/abi.NoEscape"], unfollowed := true, recurses := true, named := ["heliograph/text.entities", "internal/bytealg.MaxLen", "unicode/utf8.first", "unicode/utf8.acceptRanges"], apart := false, laid := [("unicode/utf8.acceptRanges", laid_unicode_utf8_acceptRanges), ("heliograph/text.entities", laid_heliograph_text_entities), ("unicode/utf8.first", laid_unicode_utf8_first)] }
def XmlBalancedSaid : Prop := xmlBalancedRow.holds Tryd.pinned (OpenSpec.ofChange xmlBalancedSpec)

/-- ITS FALSE NEIGHBOUR: 'it returns false'. Refute it at one input. -/
def xmlBalancedWrong : ChangeSpec := { name := "xmlBalanced", fn := fun _ => fun
  | [d] => { results := [.lit (.bool false)], args := [d] }
  | _ => none }
def XmlBalancedWrongFalsely : Prop := xmlBalancedRow.holds Tryd.pinned (OpenSpec.ofChange xmlBalancedWrong)

/-- 'heliographlaw03.XmlBarred': WHATEVER THE INPUT: true; the input reads as it did. -/
def xmlBarredSpec : ChangeSpec := { name := "xmlBarred", fn := fun _ => fun
  | [d1, d2] => { results := [.lit (.bool true)], args := [d1, d2] }
  | _ => none }
def xmlBarredRow : OpenClaim := { program := "ytbhedmdbejoinaadoor", sum := "a7fc3ef50620f19167f466ccc376b496589f093ee1a4df0cfe880183bbe1f6bc", func := "heliograph/heliographlaw03.XmlBarred", spec := "xmlBarred", inPlace := ["internal/bytealg.IndexByteString", "internal/bytealg.IndexString", "internal/abi.NoEscape"], unfollowed := true, recurses := true, named := ["heliograph/text.entities", "internal/bytealg.MaxLen", "unicode/utf8.first", "unicode/utf8.acceptRanges"], apart := false, laid := [("unicode/utf8.acceptRanges", laid_unicode_utf8_acceptRanges), ("heliograph/text.entities", laid_heliograph_text_entities), ("unicode/utf8.first", laid_unicode_utf8_first)] }
def XmlBarredSaid : Prop := xmlBarredRow.holds Tryd.pinned (OpenSpec.ofChange xmlBarredSpec)

/-- ITS FALSE NEIGHBOUR: 'it returns false'. Refute it at one input. -/
def xmlBarredWrong : ChangeSpec := { name := "xmlBarred", fn := fun _ => fun
  | [d1, d2] => { results := [.lit (.bool false)], args := [d1, d2] }
  | _ => none }
def XmlBarredWrongFalsely : Prop := xmlBarredRow.holds Tryd.pinned (OpenSpec.ofChange xmlBarredWrong)

/-- 'heliographlaw03.XmlEmpty': WHATEVER THE INPUT: true; the input reads as it did. -/
def xmlEmptySpec : ChangeSpec := { name := "xmlEmpty", fn := fun _ => fun
  | [d1, d2] => { results := [.lit (.bool true)], args := [d1, d2] }
  | _ => none }
def xmlEmptyRow : OpenClaim := { program := "ytbhedmdbejoinaadoor", sum := "a7fc3ef50620f19167f466ccc376b496589f093ee1a4df0cfe880183bbe1f6bc", func := "heliograph/heliographlaw03.XmlEmpty", spec := "xmlEmpty", inPlace := ["internal/bytealg.IndexByteString", "internal/bytealg.IndexString", "internal/abi.NoEscape"], unfollowed := true, recurses := true, named := ["heliograph/text.entities", "internal/bytealg.MaxLen", "unicode/utf8.first", "unicode/utf8.acceptRanges"], apart := false, laid := [("unicode/utf8.acceptRanges", laid_unicode_utf8_acceptRanges), ("heliograph/text.entities", laid_heliograph_text_entities), ("unicode/utf8.first", laid_unicode_utf8_first)] }
def XmlEmptySaid : Prop := xmlEmptyRow.holds Tryd.pinned (OpenSpec.ofChange xmlEmptySpec)

/-- ITS FALSE NEIGHBOUR: 'it returns false'. Refute it at one input. -/
def xmlEmptyWrong : ChangeSpec := { name := "xmlEmpty", fn := fun _ => fun
  | [d1, d2] => { results := [.lit (.bool false)], args := [d1, d2] }
  | _ => none }
def XmlEmptyWrongFalsely : Prop := xmlEmptyRow.holds Tryd.pinned (OpenSpec.ofChange xmlEmptyWrong)

/-- 'heliographtop.TopCarried': WHATEVER THE INPUT: true; the input reads as it did. -/
def topCarriedSpec : ChangeSpec := { name := "topCarried", fn := fun _ => fun
  | [d1, d2] => { results := [.lit (.bool true)], args := [d1, d2] }
  | _ => none }
def topCarriedRow : OpenClaim := { program := "ytbhedmdbejoinaadoor", sum := "a7fc3ef50620f19167f466ccc376b496589f093ee1a4df0cfe880183bbe1f6bc", func := "heliograph/heliographtop.TopCarried", spec := "topCarried", inPlace := ["internal/abi.NoEscape", "internal/bytealg.IndexByteString", "internal/bytealg.IndexString"], unfollowed := true, recurses := true, named := ["unicode/utf8.first", "unicode/utf8.acceptRanges", "heliograph/text.entities", "internal/bytealg.MaxLen"], apart := false, laid := [("unicode/utf8.acceptRanges", laid_unicode_utf8_acceptRanges), ("heliograph/text.entities", laid_heliograph_text_entities), ("unicode/utf8.first", laid_unicode_utf8_first)] }
def TopCarriedSaid : Prop := topCarriedRow.holds Tryd.pinned (OpenSpec.ofChange topCarriedSpec)

/-- ITS FALSE NEIGHBOUR: 'it returns false'. Refute it at one input. -/
def topCarriedWrong : ChangeSpec := { name := "topCarried", fn := fun _ => fun
  | [d1, d2] => { results := [.lit (.bool false)], args := [d1, d2] }
  | _ => none }
def TopCarriedWrongFalsely : Prop := topCarriedRow.holds Tryd.pinned (OpenSpec.ofChange topCarriedWrong)

/-- 'heliographtop.TopStream': WHATEVER THE INPUT: true; the input reads as it did. -/
def topStreamSpec : ChangeSpec := { name := "topStream", fn := fun _ => fun
  | [d] => { results := [.lit (.bool true)], args := [d] }
  | _ => none }
def topStreamRow : OpenClaim := { program := "ytbhedmdbejoinaadoor", sum := "a7fc3ef50620f19167f466ccc376b496589f093ee1a4df0cfe880183bbe1f6bc", func := "heliograph/heliographtop.TopStream", spec := "topStream", inPlace := ["internal/bytealg.IndexByteString", "internal/bytealg.IndexString", "internal/abi.NoEscape"], unfollowed := true, recurses := true, named := ["heliograph/text.entities", "internal/bytealg.MaxLen", "unicode/utf8.first", "unicode/utf8.acceptRanges"], apart := false, laid := [("unicode/utf8.acceptRanges", laid_unicode_utf8_acceptRanges), ("heliograph/text.entities", laid_heliograph_text_entities), ("unicode/utf8.first", laid_unicode_utf8_first)] }
def TopStreamSaid : Prop := topStreamRow.holds Tryd.pinned (OpenSpec.ofChange topStreamSpec)

/-- ITS FALSE NEIGHBOUR: 'it returns false'. Refute it at one input. -/
def topStreamWrong : ChangeSpec := { name := "topStream", fn := fun _ => fun
  | [d] => { results := [.lit (.bool false)], args := [d] }
  | _ => none }
def TopStreamWrongFalsely : Prop := topStreamRow.holds Tryd.pinned (OpenSpec.ofChange topStreamWrong)

/- THE SECOND FORM. 'bulk': how many values and letters a reading holds, each counted each time it is reached (what is shared counts as often as it is met; a slice's spare places count too). A statement '..UptoSaid' is the law's where the arguments, and the package variables that the reading takes, are together of bulk at most 1048576: NARROWER than '..Said'. Prove '..Said' where nothing that the law and all that it calls make is longer than what came in: it says more and counts as full. Else prove '..UptoSaid'. A law counts once. -/
mutual
def uptoBulk {H : Type} : DataW H → Nat
  | .lit (.string bytes) => bytes.length + 1
  | .lit _ => 1
  | .nil => 1
  | .ptr d => uptoBulk d + 1
  | .slice elems spare => uptoBulkAll elems + uptoBulkAll spare + 1
  | .agg parts => uptoBulkAll parts + 1
  | .iface _ d => uptoBulk d + 1
  | .map entries => uptoBulkEntries entries + 1
  | .held _ => 1
def uptoBulkAll {H : Type} : List (DataW H) → Nat
  | [] => 0
  | d :: r => uptoBulk d + uptoBulkAll r
def uptoBulkEntries {H : Type} : List (Lit × DataW H) → Nat
  | [] => 0
  | x :: r => uptoBulkEntry x + uptoBulkEntries r
def uptoBulkEntry {H : Type} : Lit × DataW H → Nat
  | (.string bytes, d) => bytes.length + uptoBulk d + 1
  | (_, d) => uptoBulk d + 1
 end
def uptoSmall : (H : Type) → List (DataW H) → Bool := fun _ ds => decide (uptoBulkAll ds ≤ 1048576)
def OpenSpec.upto (s : _root_.Go.ChangeSpec) : _root_.Go.OpenSpec := { _root_.Go.OpenSpec.ofChange s with cond := some uptoSmall }

/-- 'heliographlaw03.XmlCuts', WHERE WHAT IT READS IS OF BULK AT MOST 1048576: true; the input reads as it did. -/
def xmlCutsUptoRow : OpenClaim := { program := "ytbhedmdbejoinaadoor", sum := "a7fc3ef50620f19167f466ccc376b496589f093ee1a4df0cfe880183bbe1f6bc", func := "heliograph/heliographlaw03.XmlCuts", spec := "xmlCuts", inPlace := ["internal/bytealg.IndexByteString", "internal/bytealg.IndexString", "internal/abi.NoEscape"], unfollowed := true, recurses := true, named := ["heliograph/text.entities", "internal/bytealg.MaxLen", "unicode/utf8.first", "unicode/utf8.acceptRanges"], apart := false, laid := [("unicode/utf8.acceptRanges", laid_unicode_utf8_acceptRanges), ("heliograph/text.entities", laid_heliograph_text_entities), ("unicode/utf8.first", laid_unicode_utf8_first)], narrowed := true }
def XmlCutsUptoSaid : Prop := xmlCutsUptoRow.holds Tryd.pinned (OpenSpec.upto xmlCutsSpec)

/-- 'heliographlaw03.XmlBalanced', WHERE WHAT IT READS IS OF BULK AT MOST 1048576: true; the input reads as it did. -/
def xmlBalancedUptoRow : OpenClaim := { program := "ytbhedmdbejoinaadoor", sum := "a7fc3ef50620f19167f466ccc376b496589f093ee1a4df0cfe880183bbe1f6bc", func := "heliograph/heliographlaw03.XmlBalanced", spec := "xmlBalanced", inPlace := ["internal/bytealg.IndexByteString", "internal/bytealg.IndexString", "internal/abi.NoEscape"], unfollowed := true, recurses := true, named := ["heliograph/text.entities", "internal/bytealg.MaxLen", "unicode/utf8.first", "unicode/utf8.acceptRanges"], apart := false, laid := [("unicode/utf8.acceptRanges", laid_unicode_utf8_acceptRanges), ("heliograph/text.entities", laid_heliograph_text_entities), ("unicode/utf8.first", laid_unicode_utf8_first)], narrowed := true }
def XmlBalancedUptoSaid : Prop := xmlBalancedUptoRow.holds Tryd.pinned (OpenSpec.upto xmlBalancedSpec)

/-- 'heliographlaw03.XmlBarred', WHERE WHAT IT READS IS OF BULK AT MOST 1048576: true; the input reads as it did. -/
def xmlBarredUptoRow : OpenClaim := { program := "ytbhedmdbejoinaadoor", sum := "a7fc3ef50620f19167f466ccc376b496589f093ee1a4df0cfe880183bbe1f6bc", func := "heliograph/heliographlaw03.XmlBarred", spec := "xmlBarred", inPlace := ["internal/bytealg.IndexByteString", "internal/bytealg.IndexString", "internal/abi.NoEscape"], unfollowed := true, recurses := true, named := ["heliograph/text.entities", "internal/bytealg.MaxLen", "unicode/utf8.first", "unicode/utf8.acceptRanges"], apart := false, laid := [("unicode/utf8.acceptRanges", laid_unicode_utf8_acceptRanges), ("heliograph/text.entities", laid_heliograph_text_entities), ("unicode/utf8.first", laid_unicode_utf8_first)], narrowed := true }
def XmlBarredUptoSaid : Prop := xmlBarredUptoRow.holds Tryd.pinned (OpenSpec.upto xmlBarredSpec)

/-- 'heliographlaw03.XmlEmpty', WHERE WHAT IT READS IS OF BULK AT MOST 1048576: true; the input reads as it did. -/
def xmlEmptyUptoRow : OpenClaim := { program := "ytbhedmdbejoinaadoor", sum := "a7fc3ef50620f19167f466ccc376b496589f093ee1a4df0cfe880183bbe1f6bc", func := "heliograph/heliographlaw03.XmlEmpty", spec := "xmlEmpty", inPlace := ["internal/bytealg.IndexByteString", "internal/bytealg.IndexString", "internal/abi.NoEscape"], unfollowed := true, recurses := true, named := ["heliograph/text.entities", "internal/bytealg.MaxLen", "unicode/utf8.first", "unicode/utf8.acceptRanges"], apart := false, laid := [("unicode/utf8.acceptRanges", laid_unicode_utf8_acceptRanges), ("heliograph/text.entities", laid_heliograph_text_entities), ("unicode/utf8.first", laid_unicode_utf8_first)], narrowed := true }
def XmlEmptyUptoSaid : Prop := xmlEmptyUptoRow.holds Tryd.pinned (OpenSpec.upto xmlEmptySpec)

/-- 'heliographtop.TopCarried', WHERE WHAT IT READS IS OF BULK AT MOST 1048576: true; the input reads as it did. -/
def topCarriedUptoRow : OpenClaim := { program := "ytbhedmdbejoinaadoor", sum := "a7fc3ef50620f19167f466ccc376b496589f093ee1a4df0cfe880183bbe1f6bc", func := "heliograph/heliographtop.TopCarried", spec := "topCarried", inPlace := ["internal/abi.NoEscape", "internal/bytealg.IndexByteString", "internal/bytealg.IndexString"], unfollowed := true, recurses := true, named := ["unicode/utf8.first", "unicode/utf8.acceptRanges", "heliograph/text.entities", "internal/bytealg.MaxLen"], apart := false, laid := [("unicode/utf8.acceptRanges", laid_unicode_utf8_acceptRanges), ("heliograph/text.entities", laid_heliograph_text_entities), ("unicode/utf8.first", laid_unicode_utf8_first)], narrowed := true }
def TopCarriedUptoSaid : Prop := topCarriedUptoRow.holds Tryd.pinned (OpenSpec.upto topCarriedSpec)

/-- 'heliographtop.TopStream', WHERE WHAT IT READS IS OF BULK AT MOST 1048576: true; the input reads as it did. -/
def topStreamUptoRow : OpenClaim := { program := "ytbhedmdbejoinaadoor", sum := "a7fc3ef50620f19167f466ccc376b496589f093ee1a4df0cfe880183bbe1f6bc", func := "heliograph/heliographtop.TopStream", spec := "topStream", inPlace := ["internal/bytealg.IndexByteString", "internal/bytealg.IndexString", "internal/abi.NoEscape"], unfollowed := true, recurses := true, named := ["heliograph/text.entities", "internal/bytealg.MaxLen", "unicode/utf8.first", "unicode/utf8.acceptRanges"], apart := false, laid := [("unicode/utf8.acceptRanges", laid_unicode_utf8_acceptRanges), ("heliograph/text.entities", laid_heliograph_text_entities), ("unicode/utf8.first", laid_unicode_utf8_first)], narrowed := true }
def TopStreamUptoSaid : Prop := topStreamUptoRow.holds Tryd.pinned (OpenSpec.upto topStreamSpec)

end Rows
end Go.Proofs.YtbhedmdbejoinaaDoor
