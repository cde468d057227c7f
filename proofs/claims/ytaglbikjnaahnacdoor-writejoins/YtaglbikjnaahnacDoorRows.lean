/-
  NARROWER THAN 'FOR EVERY INPUT', by the rows' own cells (each row's printed sentence says how): WriteSame: laid · WriteBack: laid · WriteWraps: laid · WriteJoins: laid · WriteAttr: laid · TopCarried: laid.
  DERIVED. THE GIVEN ROWS OF THIS SEAT. 6 by the template 'for every input the law returns true; each argument reads behind the call as it read before'; 0 by the template 'total and deterministic' (their statements: YtaglbikjnaahnacDoorTotals.lean).
  GIVEN WITH THE SEED: the statements are not yours to turn. If you find one false, say at which input.
  Laid BY PROGRAM, IN A SANDBOX (cutbox-rows.mjs): the forced cells as the released guide's own fill.sh prints them over the translation 1e009ec01577b078… (all of the seat's roots in one cut). By AI agents, Wed Nov 11 2026. No macro, syntax, notation, axiom, sorry.
-/
import Derived.Test.YtaglbikjnaahnacDoorChecked
import GoSem.PinnedTables
import GoSem.Claim
import GoSem.ClaimJoined
import GoSem.ClaimMapViews
import Derived.JoinedTies
import Derived.KernelRfl
namespace Go.Proofs.YtaglbikjnaahnacDoor
/- THE CELL 'sum', in the pinned program and in every row, IS THE sha256 OF THE DUMP (.gsa) THAT YtaglbikjnaahnacDoorProg.lean LOADS. Nothing in Lean hashes anything: it is a label: what it is worth is what the hold of that sum in a sandbox is worth. -/
noncomputable def Tryd.pinned : Pinned := { name := "ytaglbikjnaahnacdoor", sum := "1e009ec01577b07896b4b55d5e2d40efb30305ca5af1ee80bb72ece522a87dc2", checked := Tryd.checked }
namespace Rows
def none {H : Type} : Left H := { results := [], args := [] }

/- WHAT THE LISTED PACKAGE-LEVEL VARIABLES READ AS WHEN THE CALL BEGINS. Each datum BY PROGRAM (the guide's laid-datum.mjs) off the statement by which the dump's own 'gosem.cut.vars' lays the variable. In a bare row this is a premise. The card (YtaglbikjnaahnacDoorCards.lean) ties it to the program's text. -/
def laid_unicode_utf8_acceptRanges {H : Type} : DataW H := .agg [.agg [.lit (.int .u8 128), .lit (.int .u8 191)], .agg [.lit (.int .u8 160), .lit (.int .u8 191)], .agg [.lit (.int .u8 128), .lit (.int .u8 159)], .agg [.lit (.int .u8 144), .lit (.int .u8 191)], .agg [.lit (.int .u8 128), .lit (.int .u8 143)], .agg [.lit (.int .u8 0), .lit (.int .u8 0)], .agg [.lit (.int .u8 0), .lit (.int .u8 0)], .agg [.lit (.int .u8 0), .lit (.int .u8 0)], .agg [.lit (.int .u8 0), .lit (.int .u8 0)], .agg [.lit (.int .u8 0), .lit (.int .u8 0)], .agg [.lit (.int .u8 0), .lit (.int .u8 0)], .agg [.lit (.int .u8 0), .lit (.int .u8 0)], .agg [.lit (.int .u8 0), .lit (.int .u8 0)], .agg [.lit (.int .u8 0), .lit (.int .u8 0)], .agg [.lit (.int .u8 0), .lit (.int .u8 0)], .agg [.lit (.int .u8 0), .lit (.int .u8 0)]]
def laid_heliograph_text_entities {H : Type} : DataW H := .agg [.agg [.lit (.int .i32 38), .lit (.string [97, 109, 112])], .agg [.lit (.int .i32 60), .lit (.string [108, 116])], .agg [.lit (.int .i32 62), .lit (.string [103, 116])], .agg [.lit (.int .i32 39), .lit (.string [97, 112, 111, 115])], .agg [.lit (.int .i32 34), .lit (.string [113, 117, 111, 116])]]
/-- One of Go's own tables, pinned by name: the form's constant. -/
def laid_unicode_utf8_first : DataW Unit := Go.Pinned.utf8First

/-- 'heliographlaw04.WriteSame': WHATEVER THE INPUT: true; the input reads as it did. -/
def writeSameSpec : ChangeSpec := { name := "writeSame", fn := fun _ => fun
  | [d1, d2] => { results := [.lit (.bool true)], args := [d1, d2] }
  | _ => none }
def writeSameRow : OpenClaim := { program := "ytaglbikjnaahnacdoor", sum := "1e009ec01577b07896b4b55d5e2d40efb30305ca5af1ee80bb72ece522a87dc2", func := "heliograph/heliographlaw04.WriteSame", spec := "writeSame", inPlace := ["internal/abi.NoEscape"], unfollowed := true, recurses := true, named := ["unicode/utf8.first", "unicode/utf8.acceptRanges", "heliograph/text.entities"], apart := false, laid := [("unicode/utf8.acceptRanges", laid_unicode_utf8_acceptRanges), ("heliograph/text.entities", laid_heliograph_text_entities), ("unicode/utf8.first", laid_unicode_utf8_first)] }
def WriteSameSaid : Prop := writeSameRow.holds Tryd.pinned (OpenSpec.ofChange writeSameSpec)

/-- ITS FALSE NEIGHBOUR: 'it returns false'. Refute it at one input. -/
def writeSameWrong : ChangeSpec := { name := "writeSame", fn := fun _ => fun
  | [d1, d2] => { results := [.lit (.bool false)], args := [d1, d2] }
  | _ => none }
def WriteSameWrongFalsely : Prop := writeSameRow.holds Tryd.pinned (OpenSpec.ofChange writeSameWrong)

/-- 'heliographlaw04.WriteBack': WHATEVER THE INPUT: true; the input reads as it did. -/
def writeBackSpec : ChangeSpec := { name := "writeBack", fn := fun _ => fun
  | [d] => { results := [.lit (.bool true)], args := [d] }
  | _ => none }
def writeBackRow : OpenClaim := { program := "ytaglbikjnaahnacdoor", sum := "1e009ec01577b07896b4b55d5e2d40efb30305ca5af1ee80bb72ece522a87dc2", func := "heliograph/heliographlaw04.WriteBack", spec := "writeBack", inPlace := ["internal/abi.NoEscape"], unfollowed := true, recurses := true, named := ["unicode/utf8.first", "unicode/utf8.acceptRanges", "heliograph/text.entities"], apart := false, laid := [("unicode/utf8.acceptRanges", laid_unicode_utf8_acceptRanges), ("heliograph/text.entities", laid_heliograph_text_entities), ("unicode/utf8.first", laid_unicode_utf8_first)] }
def WriteBackSaid : Prop := writeBackRow.holds Tryd.pinned (OpenSpec.ofChange writeBackSpec)

/-- ITS FALSE NEIGHBOUR: 'it returns false'. Refute it at one input. -/
def writeBackWrong : ChangeSpec := { name := "writeBack", fn := fun _ => fun
  | [d] => { results := [.lit (.bool false)], args := [d] }
  | _ => none }
def WriteBackWrongFalsely : Prop := writeBackRow.holds Tryd.pinned (OpenSpec.ofChange writeBackWrong)

/-- 'heliographlaw04.WriteWraps': WHATEVER THE INPUT: true; the input reads as it did. -/
def writeWrapsSpec : ChangeSpec := { name := "writeWraps", fn := fun _ => fun
  | [d1, d2] => { results := [.lit (.bool true)], args := [d1, d2] }
  | _ => none }
def writeWrapsRow : OpenClaim := { program := "ytaglbikjnaahnacdoor", sum := "1e009ec01577b07896b4b55d5e2d40efb30305ca5af1ee80bb72ece522a87dc2", func := "heliograph/heliographlaw04.WriteWraps", spec := "writeWraps", inPlace := ["internal/abi.NoEscape"], unfollowed := true, recurses := true, named := ["unicode/utf8.first", "unicode/utf8.acceptRanges", "heliograph/text.entities"], apart := false, laid := [("unicode/utf8.acceptRanges", laid_unicode_utf8_acceptRanges), ("heliograph/text.entities", laid_heliograph_text_entities), ("unicode/utf8.first", laid_unicode_utf8_first)] }
def WriteWrapsSaid : Prop := writeWrapsRow.holds Tryd.pinned (OpenSpec.ofChange writeWrapsSpec)

/-- ITS FALSE NEIGHBOUR: 'it returns false'. Refute it at one input. -/
def writeWrapsWrong : ChangeSpec := { name := "writeWraps", fn := fun _ => fun
  | [d1, d2] => { results := [.lit (.bool false)], args := [d1, d2] }
  | _ => none }
def WriteWrapsWrongFalsely : Prop := writeWrapsRow.holds Tryd.pinned (OpenSpec.ofChange writeWrapsWrong)

/-- 'heliographlaw04.WriteJoins': WHATEVER THE INPUT: true; the input reads as it did. -/
def writeJoinsSpec : ChangeSpec := { name := "writeJoins", fn := fun _ => fun
  | [d1, d2] => { results := [.lit (.bool true)], args := [d1, d2] }
  | _ => none }
def writeJoinsRow : OpenClaim := { program := "ytaglbikjnaahnacdoor", sum := "1e009ec01577b07896b4b55d5e2d40efb30305ca5af1ee80bb72ece522a87dc2", func := "heliograph/heliographlaw04.WriteJoins", spec := "writeJoins", inPlace := ["internal/abi.NoEscape"], unfollowed := true, recurses := true, named := ["unicode/utf8.first", "unicode/utf8.acceptRanges", "heliograph/text.entities"], apart := false, laid := [("unicode/utf8.acceptRanges", laid_unicode_utf8_acceptRanges), ("heliograph/text.entities", laid_heliograph_text_entities), ("unicode/utf8.first", laid_unicode_utf8_first)] }
def WriteJoinsSaid : Prop := writeJoinsRow.holds Tryd.pinned (OpenSpec.ofChange writeJoinsSpec)

/-- ITS FALSE NEIGHBOUR: 'it returns false'. Refute it at one input. -/
def writeJoinsWrong : ChangeSpec := { name := "writeJoins", fn := fun _ => fun
  | [d1, d2] => { results := [.lit (.bool false)], args := [d1, d2] }
  | _ => none }
def WriteJoinsWrongFalsely : Prop := writeJoinsRow.holds Tryd.pinned (OpenSpec.ofChange writeJoinsWrong)

/-- 'heliographlaw04.WriteAttr': WHATEVER THE INPUT: true; the input reads as it did. -/
def writeAttrSpec : ChangeSpec := { name := "writeAttr", fn := fun _ => fun
  | [d1, d2, d3] => { results := [.lit (.bool true)], args := [d1, d2, d3] }
  | _ => none }
def writeAttrRow : OpenClaim := { program := "ytaglbikjnaahnacdoor", sum := "1e009ec01577b07896b4b55d5e2d40efb30305ca5af1ee80bb72ece522a87dc2", func := "heliograph/heliographlaw04.WriteAttr", spec := "writeAttr", inPlace := ["internal/abi.NoEscape"], unfollowed := true, recurses := true, named := ["unicode/utf8.first", "unicode/utf8.acceptRanges", "heliograph/text.entities"], apart := false, laid := [("unicode/utf8.acceptRanges", laid_unicode_utf8_acceptRanges), ("heliograph/text.entities", laid_heliograph_text_entities), ("unicode/utf8.first", laid_unicode_utf8_first)] }
def WriteAttrSaid : Prop := writeAttrRow.holds Tryd.pinned (OpenSpec.ofChange writeAttrSpec)

/-- ITS FALSE NEIGHBOUR: 'it returns false'. Refute it at one input. -/
def writeAttrWrong : ChangeSpec := { name := "writeAttr", fn := fun _ => fun
  | [d1, d2, d3] => { results := [.lit (.bool false)], args := [d1, d2, d3] }
  | _ => none }
def WriteAttrWrongFalsely : Prop := writeAttrRow.holds Tryd.pinned (OpenSpec.ofChange writeAttrWrong)

/-- 'heliographtop.TopCarried': WHATEVER THE INPUT: true; the input reads as it did. -/
def topCarriedSpec : ChangeSpec := { name := "topCarried", fn := fun _ => fun
  | [d1, d2] => { results := [.lit (.bool true)], args := [d1, d2] }
  | _ => none }
def topCarriedRow : OpenClaim := { program := "ytaglbikjnaahnacdoor", sum := "1e009ec01577b07896b4b55d5e2d40efb30305ca5af1ee80bb72ece522a87dc2", func := "heliograph/heliographtop.TopCarried", spec := "topCarried", inPlace := ["internal/abi.NoEscape", "internal/bytealg.IndexByteString", "internal/bytealg.IndexString"], unfollowed := true, recurses := true, named := ["unicode/utf8.first", "unicode/utf8.acceptRanges", "heliograph/text.entities", "internal/bytealg.MaxLen"], apart := false, laid := [("unicode/utf8.acceptRanges", laid_unicode_utf8_acceptRanges), ("heliograph/text.entities", laid_heliograph_text_entities), ("unicode/utf8.first", laid_unicode_utf8_first)] }
def TopCarriedSaid : Prop := topCarriedRow.holds Tryd.pinned (OpenSpec.ofChange topCarriedSpec)

/-- ITS FALSE NEIGHBOUR: 'it returns false'. Refute it at one input. -/
def topCarriedWrong : ChangeSpec := { name := "topCarried", fn := fun _ => fun
  | [d1, d2] => { results := [.lit (.bool false)], args := [d1, d2] }
  | _ => none }
def TopCarriedWrongFalsely : Prop := topCarriedRow.holds Tryd.pinned (OpenSpec.ofChange topCarriedWrong)

/- THE SECOND FORM. 'bulk': how many values and letters a reading holds, each counted each time it is reached (what is shared counts as often as it is met; a slice's spare places count too). A statement '..UptoSaid' is the law's where the arguments, and the package variables that the reading takes, are together of bulk at most 1048576: NARROWER than '..Said'. Prove '..Said' where nothing that the law and all that it calls make is longer than what came in: it says more and counts as full. Else prove '..UptoSaid'. A law counts once. -/
mutual
def uptoBulk {H : Type} : DataW H → Nat
  | .lit (.string bytes) => bytes.length + 1
  | .lit _ => 1
  | .nil => 1
  | .ptr d => uptoBulk d + 1
  | .slice elems spare => uptoBulkAll elems + uptoBulkAll spare + 1
  | .agg parts => uptoBulkAll parts + 1
  | .iface _ d => uptoBulk d + 1
  | .map entries => uptoBulkEntries entries + 1
  | .held _ => 1
def uptoBulkAll {H : Type} : List (DataW H) → Nat
  | [] => 0
  | d :: r => uptoBulk d + uptoBulkAll r
def uptoBulkEntries {H : Type} : List (Lit × DataW H) → Nat
  | [] => 0
  | x :: r => uptoBulkEntry x + uptoBulkEntries r
def uptoBulkEntry {H : Type} : Lit × DataW H → Nat
  | (.string bytes, d) => bytes.length + uptoBulk d + 1
  | (_, d) => uptoBulk d + 1
 end
def uptoSmall : (H : Type) → List (DataW H) → Bool := fun _ ds => decide (uptoBulkAll ds ≤ 1048576)
def OpenSpec.upto (s : _root_.Go.ChangeSpec) : _root_.Go.OpenSpec := { _root_.Go.OpenSpec.ofChange s with cond := some uptoSmall }

/-- 'heliographlaw04.WriteSame', WHERE WHAT IT READS IS OF BULK AT MOST 1048576: true; the input reads as it did. -/
def writeSameUptoRow : OpenClaim := { program := "ytaglbikjnaahnacdoor", sum := "1e009ec01577b07896b4b55d5e2d40efb30305ca5af1ee80bb72ece522a87dc2", func := "heliograph/heliographlaw04.WriteSame", spec := "writeSame", inPlace := ["internal/abi.NoEscape"], unfollowed := true, recurses := true, named := ["unicode/utf8.first", "unicode/utf8.acceptRanges", "heliograph/text.entities"], apart := false, laid := [("unicode/utf8.acceptRanges", laid_unicode_utf8_acceptRanges), ("heliograph/text.entities", laid_heliograph_text_entities), ("unicode/utf8.first", laid_unicode_utf8_first)], narrowed := true }
def WriteSameUptoSaid : Prop := writeSameUptoRow.holds Tryd.pinned (OpenSpec.upto writeSameSpec)

/-- 'heliographlaw04.WriteBack', WHERE WHAT IT READS IS OF BULK AT MOST 1048576: true; the input reads as it did. -/
def writeBackUptoRow : OpenClaim := { program := "ytaglbikjnaahnacdoor", sum := "1e009ec01577b07896b4b55d5e2d40efb30305ca5af1ee80bb72ece522a87dc2", func := "heliograph/heliographlaw04.WriteBack", spec := "writeBack", inPlace := ["internal/abi.NoEscape"], unfollowed := true, recurses := true, named := ["unicode/utf8.first", "unicode/utf8.acceptRanges", "heliograph/text.entities"], apart := false, laid := [("unicode/utf8.acceptRanges", laid_unicode_utf8_acceptRanges), ("heliograph/text.entities", laid_heliograph_text_entities), ("unicode/utf8.first", laid_unicode_utf8_first)], narrowed := true }
def WriteBackUptoSaid : Prop := writeBackUptoRow.holds Tryd.pinned (OpenSpec.upto writeBackSpec)

/-- 'heliographlaw04.WriteWraps', WHERE WHAT IT READS IS OF BULK AT MOST 1048576: true; the input reads as it did. -/
def writeWrapsUptoRow : OpenClaim := { program := "ytaglbikjnaahnacdoor", sum := "1e009ec01577b07896b4b55d5e2d40efb30305ca5af1ee80bb72ece522a87dc2", func := "heliograph/heliographlaw04.WriteWraps", spec := "writeWraps", inPlace := ["internal/abi.NoEscape"], unfollowed := true, recurses := true, named := ["unicode/utf8.first", "unicode/utf8.acceptRanges", "heliograph/text.entities"], apart := false, laid := [("unicode/utf8.acceptRanges", laid_unicode_utf8_acceptRanges), ("heliograph/text.entities", laid_heliograph_text_entities), ("unicode/utf8.first", laid_unicode_utf8_first)], narrowed := true }
def WriteWrapsUptoSaid : Prop := writeWrapsUptoRow.holds Tryd.pinned (OpenSpec.upto writeWrapsSpec)

/-- 'heliographlaw04.WriteJoins', WHERE WHAT IT READS IS OF BULK AT MOST 1048576: true; the input reads as it did. -/
def writeJoinsUptoRow : OpenClaim := { program := "ytaglbikjnaahnacdoor", sum := "1e009ec01577b07896b4b55d5e2d40efb30305ca5af1ee80bb72ece522a87dc2", func := "heliograph/heliographlaw04.WriteJoins", spec := "writeJoins", inPlace := ["internal/abi.NoEscape"], unfollowed := true, recurses := true, named := ["unicode/utf8.first", "unicode/utf8.acceptRanges", "heliograph/text.entities"], apart := false, laid := [("unicode/utf8.acceptRanges", laid_unicode_utf8_acceptRanges), ("heliograph/text.entities", laid_heliograph_text_entities), ("unicode/utf8.first", laid_unicode_utf8_first)], narrowed := true }
def WriteJoinsUptoSaid : Prop := writeJoinsUptoRow.holds Tryd.pinned (OpenSpec.upto writeJoinsSpec)

/-- 'heliographlaw04.WriteAttr', WHERE WHAT IT READS IS OF BULK AT MOST 1048576: true; the input reads as it did. -/
def writeAttrUptoRow : OpenClaim := { program := "ytaglbikjnaahnacdoor", sum := "1e009ec01577b07896b4b55d5e2d40efb30305ca5af1ee80bb72ece522a87dc2", func := "heliograph/heliographlaw04.WriteAttr", spec := "writeAttr", inPlace := ["internal/abi.NoEscape"], unfollowed := true, recurses := true, named := ["unicode/utf8.first", "unicode/utf8.acceptRanges", "heliograph/text.entities"], apart := false, laid := [("unicode/utf8.acceptRanges", laid_unicode_utf8_acceptRanges), ("heliograph/text.entities", laid_heliograph_text_entities), ("unicode/utf8.first", laid_unicode_utf8_first)], narrowed := true }
def WriteAttrUptoSaid : Prop := writeAttrUptoRow.holds Tryd.pinned (OpenSpec.upto writeAttrSpec)

/-- 'heliographtop.TopCarried', WHERE WHAT IT READS IS OF BULK AT MOST 1048576: true; the input reads as it did. -/
def topCarriedUptoRow : OpenClaim := { program := "ytaglbikjnaahnacdoor", sum := "1e009ec01577b07896b4b55d5e2d40efb30305ca5af1ee80bb72ece522a87dc2", func := "heliograph/heliographtop.TopCarried", spec := "topCarried", inPlace := ["internal/abi.NoEscape", "internal/bytealg.IndexByteString", "internal/bytealg.IndexString"], unfollowed := true, recurses := true, named := ["unicode/utf8.first", "unicode/utf8.acceptRanges", "heliograph/text.entities", "internal/bytealg.MaxLen"], apart := false, laid := [("unicode/utf8.acceptRanges", laid_unicode_utf8_acceptRanges), ("heliograph/text.entities", laid_heliograph_text_entities), ("unicode/utf8.first", laid_unicode_utf8_first)], narrowed := true }
def TopCarriedUptoSaid : Prop := topCarriedUptoRow.holds Tryd.pinned (OpenSpec.upto topCarriedSpec)

end Rows
end Go.Proofs.YtaglbikjnaahnacDoor
