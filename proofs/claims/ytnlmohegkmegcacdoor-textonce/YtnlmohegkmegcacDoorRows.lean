/-
  NARROWER THAN 'FOR EVERY INPUT', by the rows' own cells (each row's printed sentence says how): TextOnce: laid · TextNames: laid · TopNames: laid · TopSecrets: laid.
  DERIVED. THE GIVEN ROWS OF THIS SEAT. 4 by the template 'for every input the law returns true; each argument reads behind the call as it read before'; 0 by the template 'total and deterministic' (their statements: YtnlmohegkmegcacDoorTotals.lean).
  GIVEN WITH THE SEED: the statements are not yours to turn. If you find one false, say at which input.
  Laid BY PROGRAM, IN A SANDBOX (cutbox-rows.mjs): the forced cells as the released guide's own fill.sh prints them over the translation e9cce6aa8a5a6297… (all of the seat's roots in one cut). By AI agents, Wed Nov 11 2026. No macro, syntax, notation, axiom, sorry.
-/
import Derived.Test.YtnlmohegkmegcacDoorChecked
import GoSem.PinnedTables
import GoSem.Claim
import GoSem.ClaimJoined
import GoSem.ClaimMapViews
import Derived.JoinedTies
import Derived.KernelRfl
namespace Go.Proofs.YtnlmohegkmegcacDoor
/- THE CELL 'sum', in the pinned program and in every row, IS THE sha256 OF THE DUMP (.gsa) THAT YtnlmohegkmegcacDoorProg.lean LOADS. Nothing in Lean hashes anything: it is a label: what it is worth is what the hold of that sum in a sandbox is worth. -/
noncomputable def Tryd.pinned : Pinned := { name := "ytnlmohegkmegcacdoor", sum := "e9cce6aa8a5a62975270f07a8c1896723a56b26b6bda3b8fbae7b90c55d9db4a", checked := Tryd.checked }
namespace Rows
def none {H : Type} : Left H := { results := [], args := [] }

/- WHAT THE LISTED PACKAGE-LEVEL VARIABLES READ AS WHEN THE CALL BEGINS. Each datum BY PROGRAM (the guide's laid-datum.mjs) off the statement by which the dump's own 'gosem.cut.vars' lays the variable. In a bare row this is a premise. The card (YtnlmohegkmegcacDoorCards.lean) ties it to the program's text. -/
def laid_unicode_utf8_acceptRanges {H : Type} : DataW H := .agg [.agg [.lit (.int .u8 128), .lit (.int .u8 191)], .agg [.lit (.int .u8 160), .lit (.int .u8 191)], .agg [.lit (.int .u8 128), .lit (.int .u8 159)], .agg [.lit (.int .u8 144), .lit (.int .u8 191)], .agg [.lit (.int .u8 128), .lit (.int .u8 143)], .agg [.lit (.int .u8 0), .lit (.int .u8 0)], .agg [.lit (.int .u8 0), .lit (.int .u8 0)], .agg [.lit (.int .u8 0), .lit (.int .u8 0)], .agg [.lit (.int .u8 0), .lit (.int .u8 0)], .agg [.lit (.int .u8 0), .lit (.int .u8 0)], .agg [.lit (.int .u8 0), .lit (.int .u8 0)], .agg [.lit (.int .u8 0), .lit (.int .u8 0)], .agg [.lit (.int .u8 0), .lit (.int .u8 0)], .agg [.lit (.int .u8 0), .lit (.int .u8 0)], .agg [.lit (.int .u8 0), .lit (.int .u8 0)], .agg [.lit (.int .u8 0), .lit (.int .u8 0)]]
def laid_heliograph_text_entities {H : Type} : DataW H := .agg [.agg [.lit (.int .i32 38), .lit (.string [97, 109, 112])], .agg [.lit (.int .i32 60), .lit (.string [108, 116])], .agg [.lit (.int .i32 62), .lit (.string [103, 116])], .agg [.lit (.int .i32 39), .lit (.string [97, 112, 111, 115])], .agg [.lit (.int .i32 34), .lit (.string [113, 117, 111, 116])]]
/-- One of Go's own tables, pinned by name: the form's constant. -/
def laid_unicode_utf8_first : DataW Unit := Go.Pinned.utf8First
def laid_heliograph_fault_rows {H : Type} : DataW H := .agg [.agg [.lit (.string []), .lit (.string [])], .agg [.lit (.string [98, 97, 100, 45, 114, 101, 113, 117, 101, 115, 116]), .lit (.string [109, 111, 100, 105, 102, 121])], .agg [.lit (.string [99, 111, 110, 102, 108, 105, 99, 116]), .lit (.string [99, 97, 110, 99, 101, 108])], .agg [.lit (.string [102, 111, 114, 98, 105, 100, 100, 101, 110]), .lit (.string [97, 117, 116, 104])], .agg [.lit (.string [105, 116, 101, 109, 45, 110, 111, 116, 45, 102, 111, 117, 110, 100]), .lit (.string [99, 97, 110, 99, 101, 108])], .agg [.lit (.string [106, 105, 100, 45, 109, 97, 108, 102, 111, 114, 109, 101, 100]), .lit (.string [109, 111, 100, 105, 102, 121])], .agg [.lit (.string [110, 111, 116, 45, 97, 108, 108, 111, 119, 101, 100]), .lit (.string [99, 97, 110, 99, 101, 108])], .agg [.lit (.string [110, 111, 116, 45, 97, 117, 116, 104, 111, 114, 105, 122, 101, 100]), .lit (.string [97, 117, 116, 104])], .agg [.lit (.string [114, 101, 115, 111, 117, 114, 99, 101, 45, 99, 111, 110, 115, 116, 114, 97, 105, 110, 116]), .lit (.string [119, 97, 105, 116])], .agg [.lit (.string [115, 101, 114, 118, 105, 99, 101, 45, 117, 110, 97, 118, 97, 105, 108, 97, 98, 108, 101]), .lit (.string [99, 97, 110, 99, 101, 108])], .agg [.lit (.string [117, 110, 101, 120, 112, 101, 99, 116, 101, 100, 45, 114, 101, 113, 117, 101, 115, 116]), .lit (.string [119, 97, 105, 116])]]

/-- 'heliographlaw02.TextOnce': WHATEVER THE INPUT: true; the input reads as it did. -/
def textOnceSpec : ChangeSpec := { name := "textOnce", fn := fun _ => fun
  | [d] => { results := [.lit (.bool true)], args := [d] }
  | _ => none }
def textOnceRow : OpenClaim := { program := "ytnlmohegkmegcacdoor", sum := "e9cce6aa8a5a62975270f07a8c1896723a56b26b6bda3b8fbae7b90c55d9db4a", func := "heliograph/heliographlaw02.TextOnce", spec := "textOnce", inPlace := ["internal/bytealg.IndexByteString", "internal/bytealg.IndexString", "internal/abi.NoEscape"], named := ["unicode/utf8.first", "unicode/utf8.acceptRanges", "heliograph/text.entities", "internal/bytealg.MaxLen"], apart := false, laid := [("unicode/utf8.acceptRanges", laid_unicode_utf8_acceptRanges), ("heliograph/text.entities", laid_heliograph_text_entities), ("unicode/utf8.first", laid_unicode_utf8_first)] }
def TextOnceSaid : Prop := textOnceRow.holds Tryd.pinned (OpenSpec.ofChange textOnceSpec)

/-- ITS FALSE NEIGHBOUR: 'it returns false'. Refute it at one input. -/
def textOnceWrong : ChangeSpec := { name := "textOnce", fn := fun _ => fun
  | [d] => { results := [.lit (.bool false)], args := [d] }
  | _ => none }
def TextOnceWrongFalsely : Prop := textOnceRow.holds Tryd.pinned (OpenSpec.ofChange textOnceWrong)

/-- 'heliographlaw02.TextNames': WHATEVER THE INPUT: true; the input reads as it did. -/
def textNamesSpec : ChangeSpec := { name := "textNames", fn := fun _ => fun
  | [d1, d2] => { results := [.lit (.bool true)], args := [d1, d2] }
  | _ => none }
def textNamesRow : OpenClaim := { program := "ytnlmohegkmegcacdoor", sum := "e9cce6aa8a5a62975270f07a8c1896723a56b26b6bda3b8fbae7b90c55d9db4a", func := "heliograph/heliographlaw02.TextNames", spec := "textNames", inPlace := ["internal/bytealg.IndexByteString", "internal/bytealg.IndexString", "internal/abi.NoEscape"], named := ["heliograph/text.entities", "internal/bytealg.MaxLen", "unicode/utf8.first", "unicode/utf8.acceptRanges"], apart := false, laid := [("unicode/utf8.acceptRanges", laid_unicode_utf8_acceptRanges), ("heliograph/text.entities", laid_heliograph_text_entities), ("unicode/utf8.first", laid_unicode_utf8_first)] }
def TextNamesSaid : Prop := textNamesRow.holds Tryd.pinned (OpenSpec.ofChange textNamesSpec)

/-- ITS FALSE NEIGHBOUR: 'it returns false'. Refute it at one input. -/
def textNamesWrong : ChangeSpec := { name := "textNames", fn := fun _ => fun
  | [d1, d2] => { results := [.lit (.bool false)], args := [d1, d2] }
  | _ => none }
def TextNamesWrongFalsely : Prop := textNamesRow.holds Tryd.pinned (OpenSpec.ofChange textNamesWrong)

/-- 'heliographtop.TopNames': WHATEVER THE INPUT: true; the input reads as it did. -/
def topNamesSpec : ChangeSpec := { name := "topNames", fn := fun _ => fun
  | [d] => { results := [.lit (.bool true)], args := [d] }
  | _ => none }
def topNamesRow : OpenClaim := { program := "ytnlmohegkmegcacdoor", sum := "e9cce6aa8a5a62975270f07a8c1896723a56b26b6bda3b8fbae7b90c55d9db4a", func := "heliograph/heliographtop.TopNames", spec := "topNames", inPlace := ["internal/abi.NoEscape"], named := ["heliograph/fault.rows", "heliograph/text.entities"], apart := false, laid := [("heliograph/fault.rows", laid_heliograph_fault_rows), ("heliograph/text.entities", laid_heliograph_text_entities)] }
def TopNamesSaid : Prop := topNamesRow.holds Tryd.pinned (OpenSpec.ofChange topNamesSpec)

/-- ITS FALSE NEIGHBOUR: 'it returns false'. Refute it at one input. -/
def topNamesWrong : ChangeSpec := { name := "topNames", fn := fun _ => fun
  | [d] => { results := [.lit (.bool false)], args := [d] }
  | _ => none }
def TopNamesWrongFalsely : Prop := topNamesRow.holds Tryd.pinned (OpenSpec.ofChange topNamesWrong)

/-- 'heliographtop.TopSecrets': WHATEVER THE INPUT: true; the input reads as it did. -/
def topSecretsSpec : ChangeSpec := { name := "topSecrets", fn := fun _ => fun
  | [d1, d2] => { results := [.lit (.bool true)], args := [d1, d2] }
  | _ => none }
def topSecretsRow : OpenClaim := { program := "ytnlmohegkmegcacdoor", sum := "e9cce6aa8a5a62975270f07a8c1896723a56b26b6bda3b8fbae7b90c55d9db4a", func := "heliograph/heliographtop.TopSecrets", spec := "topSecrets", inPlace := ["internal/abi.NoEscape", "internal/bytealg.IndexByteString", "internal/bytealg.IndexString"], named := ["heliograph/text.entities", "internal/bytealg.MaxLen", "unicode/utf8.first", "unicode/utf8.acceptRanges"], apart := false, laid := [("unicode/utf8.acceptRanges", laid_unicode_utf8_acceptRanges), ("heliograph/text.entities", laid_heliograph_text_entities), ("unicode/utf8.first", laid_unicode_utf8_first)] }
def TopSecretsSaid : Prop := topSecretsRow.holds Tryd.pinned (OpenSpec.ofChange topSecretsSpec)

/-- ITS FALSE NEIGHBOUR: 'it returns false'. Refute it at one input. -/
def topSecretsWrong : ChangeSpec := { name := "topSecrets", fn := fun _ => fun
  | [d1, d2] => { results := [.lit (.bool false)], args := [d1, d2] }
  | _ => none }
def TopSecretsWrongFalsely : Prop := topSecretsRow.holds Tryd.pinned (OpenSpec.ofChange topSecretsWrong)

/- THE SECOND FORM. 'bulk': how many values and letters a reading holds, each counted each time it is reached (what is shared counts as often as it is met; a slice's spare places count too). A statement '..UptoSaid' is the law's where the arguments, and the package variables that the reading takes, are together of bulk at most 1048576: NARROWER than '..Said'. Prove '..Said' where nothing that the law and all that it calls make is longer than what came in: it says more and counts as full. Else prove '..UptoSaid'. A law counts once. -/
mutual
def uptoBulk {H : Type} : DataW H → Nat
  | .lit (.string bytes) => bytes.length + 1
  | .lit _ => 1
  | .nil => 1
  | .ptr d => uptoBulk d + 1
  | .slice elems spare => uptoBulkAll elems + uptoBulkAll spare + 1
  | .agg parts => uptoBulkAll parts + 1
  | .iface _ d => uptoBulk d + 1
  | .map entries => uptoBulkEntries entries + 1
  | .held _ => 1
def uptoBulkAll {H : Type} : List (DataW H) → Nat
  | [] => 0
  | d :: r => uptoBulk d + uptoBulkAll r
def uptoBulkEntries {H : Type} : List (Lit × DataW H) → Nat
  | [] => 0
  | x :: r => uptoBulkEntry x + uptoBulkEntries r
def uptoBulkEntry {H : Type} : Lit × DataW H → Nat
  | (.string bytes, d) => bytes.length + uptoBulk d + 1
  | (_, d) => uptoBulk d + 1
 end
def uptoSmall : (H : Type) → List (DataW H) → Bool := fun _ ds => decide (uptoBulkAll ds ≤ 1048576)
def OpenSpec.upto (s : _root_.Go.ChangeSpec) : _root_.Go.OpenSpec := { _root_.Go.OpenSpec.ofChange s with cond := some uptoSmall }

/-- 'heliographlaw02.TextOnce', WHERE WHAT IT READS IS OF BULK AT MOST 1048576: true; the input reads as it did. -/
def textOnceUptoRow : OpenClaim := { program := "ytnlmohegkmegcacdoor", sum := "e9cce6aa8a5a62975270f07a8c1896723a56b26b6bda3b8fbae7b90c55d9db4a", func := "heliograph/heliographlaw02.TextOnce", spec := "textOnce", inPlace := ["internal/bytealg.IndexByteString", "internal/bytealg.IndexString", "internal/abi.NoEscape"], named := ["unicode/utf8.first", "unicode/utf8.acceptRanges", "heliograph/text.entities", "internal/bytealg.MaxLen"], apart := false, laid := [("unicode/utf8.acceptRanges", laid_unicode_utf8_acceptRanges), ("heliograph/text.entities", laid_heliograph_text_entities), ("unicode/utf8.first", laid_unicode_utf8_first)], narrowed := true }
def TextOnceUptoSaid : Prop := textOnceUptoRow.holds Tryd.pinned (OpenSpec.upto textOnceSpec)

/-- 'heliographlaw02.TextNames', WHERE WHAT IT READS IS OF BULK AT MOST 1048576: true; the input reads as it did. -/
def textNamesUptoRow : OpenClaim := { program := "ytnlmohegkmegcacdoor", sum := "e9cce6aa8a5a62975270f07a8c1896723a56b26b6bda3b8fbae7b90c55d9db4a", func := "heliograph/heliographlaw02.TextNames", spec := "textNames", inPlace := ["internal/bytealg.IndexByteString", "internal/bytealg.IndexString", "internal/abi.NoEscape"], named := ["heliograph/text.entities", "internal/bytealg.MaxLen", "unicode/utf8.first", "unicode/utf8.acceptRanges"], apart := false, laid := [("unicode/utf8.acceptRanges", laid_unicode_utf8_acceptRanges), ("heliograph/text.entities", laid_heliograph_text_entities), ("unicode/utf8.first", laid_unicode_utf8_first)], narrowed := true }
def TextNamesUptoSaid : Prop := textNamesUptoRow.holds Tryd.pinned (OpenSpec.upto textNamesSpec)

/-- 'heliographtop.TopNames', WHERE WHAT IT READS IS OF BULK AT MOST 1048576: true; the input reads as it did. -/
def topNamesUptoRow : OpenClaim := { program := "ytnlmohegkmegcacdoor", sum := "e9cce6aa8a5a62975270f07a8c1896723a56b26b6bda3b8fbae7b90c55d9db4a", func := "heliograph/heliographtop.TopNames", spec := "topNames", inPlace := ["internal/abi.NoEscape"], named := ["heliograph/fault.rows", "heliograph/text.entities"], apart := false, laid := [("heliograph/fault.rows", laid_heliograph_fault_rows), ("heliograph/text.entities", laid_heliograph_text_entities)], narrowed := true }
def TopNamesUptoSaid : Prop := topNamesUptoRow.holds Tryd.pinned (OpenSpec.upto topNamesSpec)

/-- 'heliographtop.TopSecrets', WHERE WHAT IT READS IS OF BULK AT MOST 1048576: true; the input reads as it did. -/
def topSecretsUptoRow : OpenClaim := { program := "ytnlmohegkmegcacdoor", sum := "e9cce6aa8a5a62975270f07a8c1896723a56b26b6bda3b8fbae7b90c55d9db4a", func := "heliograph/heliographtop.TopSecrets", spec := "topSecrets", inPlace := ["internal/abi.NoEscape", "internal/bytealg.IndexByteString", "internal/bytealg.IndexString"], named := ["heliograph/text.entities", "internal/bytealg.MaxLen", "unicode/utf8.first", "unicode/utf8.acceptRanges"], apart := false, laid := [("unicode/utf8.acceptRanges", laid_unicode_utf8_acceptRanges), ("heliograph/text.entities", laid_heliograph_text_entities), ("unicode/utf8.first", laid_unicode_utf8_first)], narrowed := true }
def TopSecretsUptoSaid : Prop := topSecretsUptoRow.holds Tryd.pinned (OpenSpec.upto topSecretsSpec)

end Rows
end Go.Proofs.YtnlmohegkmegcacDoor
