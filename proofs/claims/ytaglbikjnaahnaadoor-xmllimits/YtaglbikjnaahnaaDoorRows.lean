/-
  NARROWER THAN 'FOR EVERY INPUT', by the rows' own cells (each row's printed sentence says how): XmlFeeds: laid · XmlCuts: laid · XmlBalanced: laid · XmlLimits: laid · XmlBroken: laid · XmlBarred: laid.
  DERIVED. THE GIVEN ROWS OF THIS SEAT. 6 by the template 'for every input the law returns true; each argument reads behind the call as it read before'; 0 by the template 'total and deterministic' (their statements: YtaglbikjnaahnaaDoorTotals.lean).
  GIVEN WITH THE SEED: the statements are not yours to turn. If you find one false, say at which input.
  Laid BY PROGRAM, IN A SANDBOX (cutbox-rows.mjs): the forced cells as the released guide's own fill.sh prints them over the translation ee4ff96803ad9a0c… (all of the seat's roots in one cut). By AI agents, Wed Nov 11 2026. No macro, syntax, notation, axiom, sorry.
-/
import Derived.Test.YtaglbikjnaahnaaDoorChecked
import GoSem.PinnedTables
import GoSem.Claim
import GoSem.ClaimJoined
import GoSem.ClaimMapViews
import Derived.JoinedTies
import Derived.KernelRfl
namespace Go.Proofs.YtaglbikjnaahnaaDoor
/- THE CELL 'sum', in the pinned program and in every row, IS THE sha256 OF THE DUMP (.gsa) THAT YtaglbikjnaahnaaDoorProg.lean LOADS. Nothing in Lean hashes anything: it is a label: what it is worth is what the hold of that sum in a sandbox is worth. -/
noncomputable def Tryd.pinned : Pinned := { name := "ytaglbikjnaahnaadoor", sum := "ee4ff96803ad9a0c338e454c552dcbace263423e40dab820f77f3de7ca53aed5", checked := Tryd.checked }
namespace Rows
def none {H : Type} : Left H := { results := [], args := [] }

/- WHAT THE LISTED PACKAGE-LEVEL VARIABLES READ AS WHEN THE CALL BEGINS. Each datum BY PROGRAM (the guide's laid-datum.mjs) off the statement by which the dump's own 'gosem.cut.vars' lays the variable. In a bare row this is a premise. The card (YtaglbikjnaahnaaDoorCards.lean) ties it to the program's text. -/
def laid_unicode_utf8_acceptRanges {H : Type} : DataW H := .agg [.agg [.lit (.int .u8 128), .lit (.int .u8 191)], .agg [.lit (.int .u8 160), .lit (.int .u8 191)], .agg [.lit (.int .u8 128), .lit (.int .u8 159)], .agg [.lit (.int .u8 144), .lit (.int .u8 191)], .agg [.lit (.int .u8 128), .lit (.int .u8 143)], .agg [.lit (.int .u8 0), .lit (.int .u8 0)], .agg [.lit (.int .u8 0), .lit (.int .u8 0)], .agg [.lit (.int .u8 0), .lit (.int .u8 0)], .agg [.lit (.int .u8 0), .lit (.int .u8 0)], .agg [.lit (.int .u8 0), .lit (.int .u8 0)], .agg [.lit (.int .u8 0), .lit (.int .u8 0)], .agg [.lit (.int .u8 0), .lit (.int .u8 0)], .agg [.lit (.int .u8 0), .lit (.int .u8 0)], .agg [.lit (.int .u8 0), .lit (.int .u8 0)], .agg [.lit (.int .u8 0), .lit (.int .u8 0)], .agg [.lit (.int .u8 0), .lit (.int .u8 0)]]
def laid_heliograph_text_entities {H : Type} : DataW H := .agg [.agg [.lit (.int .i32 38), .lit (.string [97, 109, 112])], .agg [.lit (.int .i32 60), .lit (.string [108, 116])], .agg [.lit (.int .i32 62), .lit (.string [103, 116])], .agg [.lit (.int .i32 39), .lit (.string [97, 112, 111, 115])], .agg [.lit (.int .i32 34), .lit (.string [113, 117, 111, 116])]]
/-- One of Go's own tables, pinned by name: the form's constant. -/
def laid_unicode_utf8_first : DataW Unit := Go.Pinned.utf8First

/-- 'heliographlaw03.XmlFeeds': WHATEVER THE INPUT: true; the input reads as it did. -/
def xmlFeedsSpec : ChangeSpec := { name := "xmlFeeds", fn := fun _ => fun
  | [d1, d2] => { results := [.lit (.bool true)], args := [d1, d2] }
  | _ => none }
def xmlFeedsRow : OpenClaim := { program := "ytaglbikjnaahnaadoor", sum := "ee4ff96803ad9a0c338e454c552dcbace263423e40dab820f77f3de7ca53aed5", func := "heliograph/heliographlaw03.XmlFeeds", spec := "xmlFeeds", inPlace := ["internal/bytealg.IndexByteString", "internal/bytealg.IndexString", "internal/abi.NoEscape"], unfollowed := true, recurses := true, named := ["heliograph/text.entities", "internal/bytealg.MaxLen", "unicode/utf8.first", "unicode/utf8.acceptRanges"], apart := false, laid := [("unicode/utf8.acceptRanges", laid_unicode_utf8_acceptRanges), ("heliograph/text.entities", laid_heliograph_text_entities), ("unicode/utf8.first", laid_unicode_utf8_first)] }
def XmlFeedsSaid : Prop := xmlFeedsRow.holds Tryd.pinned (OpenSpec.ofChange xmlFeedsSpec)

/-- ITS FALSE NEIGHBOUR: 'it returns false'. Refute it at one input. -/
def xmlFeedsWrong : ChangeSpec := { name := "xmlFeeds", fn := fun _ => fun
  | [d1, d2] => { results := [.lit (.bool false)], args := [d1, d2] }
  | _ => none }
def XmlFeedsWrongFalsely : Prop := xmlFeedsRow.holds Tryd.pinned (OpenSpec.ofChange xmlFeedsWrong)

/-- 'heliographlaw03.XmlCuts': WHATEVER THE INPUT: true; the input reads as it did. -/
def xmlCutsSpec : ChangeSpec := { name := "xmlCuts", fn := fun _ => fun
  | [d1, d2] => { results := [.lit (.bool true)], args := [d1, d2] }
  | _ => none }
def xmlCutsRow : OpenClaim := { program := "ytaglbikjnaahnaadoor", sum := "ee4ff96803ad9a0c338e454c552dcbace263423e40dab820f77f3de7ca53aed5", func := "heliograph/heliographlaw03.XmlCuts", spec := "xmlCuts", inPlace := ["internal/bytealg.IndexByteString", "internal/bytealg.IndexString", "internal/abi.NoEscape"], unfollowed := true, recurses := true, named := ["heliograph/text.entities", "internal/bytealg.MaxLen", "unicode/utf8.first", "unicode/utf8.acceptRanges"], apart := false, laid := [("unicode/utf8.acceptRanges", laid_unicode_utf8_acceptRanges), ("heliograph/text.entities", laid_heliograph_text_entities), ("unicode/utf8.first", laid_unicode_utf8_first)] }
def XmlCutsSaid : Prop := xmlCutsRow.holds Tryd.pinned (OpenSpec.ofChange xmlCutsSpec)

/-- ITS FALSE NEIGHBOUR: 'it returns false'. Refute it at one input. -/
def xmlCutsWrong : ChangeSpec := { name := "xmlCuts", fn := fun _ => fun
  | [d1, d2] => { results := [.lit (.bool false)], args := [d1, d2] }
  | _ => none }
def XmlCutsWrongFalsely : Prop := xmlCutsRow.holds Tryd.pinned (OpenSpec.ofChange xmlCutsWrong)

/-- 'heliographlaw03.XmlBalanced': WHATEVER THE INPUT: true; the input reads as it did. -/
def xmlBalancedSpec : ChangeSpec := { name := "xmlBalanced", fn := fun _ => fun
  | [d] => { results := [.lit (.bool true)], args := [d] }
  | _ => none }
def xmlBalancedRow : OpenClaim := { program := "ytaglbikjnaahnaadoor", sum := "ee4ff96803ad9a0c338e454c552dcbace263423e40dab820f77f3de7ca53aed5", func := "heliograph/heliographlaw03.XmlBalanced", spec := "xmlBalanced", inPlace := ["internal/bytealg.IndexByteString", "internal/bytealg.IndexString", "internal/abi.NoEscape"], unfollowed := true, recurses := true, named := ["heliograph/text.entities", "internal/bytealg.MaxLen", "unicode/utf8.first", "unicode/utf8.acceptRanges"], apart := false, laid := [("unicode/utf8.acceptRanges", laid_unicode_utf8_acceptRanges), ("heliograph/text.entities", laid_heliograph_text_entities), ("unicode/utf8.first", laid_unicode_utf8_first)] }
def XmlBalancedSaid : Prop := xmlBalancedRow.holds Tryd.pinned (OpenSpec.ofChange xmlBalancedSpec)

/-- ITS FALSE NEIGHBOUR: 'it returns false'. Refute it at one input. -/
def xmlBalancedWrong : ChangeSpec := { name := "xmlBalanced", fn := fun _ => fun
  | [d] => { results := [.lit (.bool false)], args := [d] }
  | _ => none }
def XmlBalancedWrongFalsely : Prop := xmlBalancedRow.holds Tryd.pinned (OpenSpec.ofChange xmlBalancedWrong)

/-- 'heliographlaw03.XmlLimits': WHATEVER THE INPUT: true; the input reads as it did. -/
def xmlLimitsSpec : ChangeSpec := { name := "xmlLimits", fn := fun _ => fun
  | [d] => { results := [.lit (.bool true)], args := [d] }
  | _ => none }
def xmlLimitsRow : OpenClaim := { program := "ytaglbikjnaahnaadoor", sum := "ee4ff96803ad9a0c338e454c552dcbace263423e40dab820f77f3de7ca53aed5", func := "heliograph/heliographlaw03.XmlLimits", spec := "xmlLimits", inPlace := ["internal/bytealg.IndexByteString", "internal/bytealg.IndexString", "internal/abi.NoEscape"], unfollowed := true, recurses := true, named := ["heliograph/text.entities", "internal/bytealg.MaxLen", "unicode/utf8.first", "unicode/utf8.acceptRanges"], apart := false, laid := [("unicode/utf8.acceptRanges", laid_unicode_utf8_acceptRanges), ("heliograph/text.entities", laid_heliograph_text_entities), ("unicode/utf8.first", laid_unicode_utf8_first)] }
def XmlLimitsSaid : Prop := xmlLimitsRow.holds Tryd.pinned (OpenSpec.ofChange xmlLimitsSpec)

/-- ITS FALSE NEIGHBOUR: 'it returns false'. Refute it at one input. -/
def xmlLimitsWrong : ChangeSpec := { name := "xmlLimits", fn := fun _ => fun
  | [d] => { results := [.lit (.bool false)], args := [d] }
  | _ => none }
def XmlLimitsWrongFalsely : Prop := xmlLimitsRow.holds Tryd.pinned (OpenSpec.ofChange xmlLimitsWrong)

/-- 'heliographlaw03.XmlBroken': WHATEVER THE INPUT: true; the input reads as it did. -/
def xmlBrokenSpec : ChangeSpec := { name := "xmlBroken", fn := fun _ => fun
  | [d1, d2] => { results := [.lit (.bool true)], args := [d1, d2] }
  | _ => none }
def xmlBrokenRow : OpenClaim := { program := "ytaglbikjnaahnaadoor", sum := "ee4ff96803ad9a0c338e454c552dcbace263423e40dab820f77f3de7ca53aed5", func := "heliograph/heliographlaw03.XmlBroken", spec := "xmlBroken", inPlace := ["internal/bytealg.IndexByteString", "internal/bytealg.IndexString", "internal/abi.NoEscape"], unfollowed := true, recurses := true, named := ["heliograph/text.entities", "internal/bytealg.MaxLen", "unicode/utf8.first", "unicode/utf8.acceptRanges"], apart := false, laid := [("unicode/utf8.acceptRanges", laid_unicode_utf8_acceptRanges), ("heliograph/text.entities", laid_heliograph_text_entities), ("unicode/utf8.first", laid_unicode_utf8_first)] }
def XmlBrokenSaid : Prop := xmlBrokenRow.holds Tryd.pinned (OpenSpec.ofChange xmlBrokenSpec)

/-- ITS FALSE NEIGHBOUR: 'it returns false'. Refute it at one input. -/
def xmlBrokenWrong : ChangeSpec := { name := "xmlBroken", fn := fun _ => fun
  | [d1, d2] => { results := [.lit (.bool false)], args := [d1, d2] }
  | _ => none }
def XmlBrokenWrongFalsely : Prop := xmlBrokenRow.holds Tryd.pinned (OpenSpec.ofChange xmlBrokenWrong)

/-- 'heliographlaw03.XmlBarred': WHATEVER THE INPUT: true; the input reads as it did. -/
def xmlBarredSpec : ChangeSpec := { name := "xmlBarred", fn := fun _ => fun
  | [d1, d2] => { results := [.lit (.bool true)], args := [d1, d2] }
  | _ => none }
def xmlBarredRow : OpenClaim := { program := "ytaglbikjnaahnaadoor", sum := "ee4ff96803ad9a0c338e454c552dcbace263423e40dab820f77f3de7ca53aed5", func := "heliograph/heliographlaw03.XmlBarred", spec := "xmlBarred", inPlace := ["internal/bytealg.IndexByteString", "internal/bytealg.IndexString", "internal/abi.NoEscape"], unfollowed := true, recurses := true, named := ["heliograph/text.entities", "internal/bytealg.MaxLen", "unicode/utf8.first", "unicode/utf8.acceptRanges"], apart := false, laid := [("unicode/utf8.acceptRanges", laid_unicode_utf8_acceptRanges), ("heliograph/text.entities", laid_heliograph_text_entities), ("unicode/utf8.first", laid_unicode_utf8_first)] }
def XmlBarredSaid : Prop := xmlBarredRow.holds Tryd.pinned (OpenSpec.ofChange xmlBarredSpec)

/-- ITS FALSE NEIGHBOUR: 'it returns false'. Refute it at one input. -/
def xmlBarredWrong : ChangeSpec := { name := "xmlBarred", fn := fun _ => fun
  | [d1, d2] => { results := [.lit (.bool false)], args := [d1, d2] }
  | _ => none }
def XmlBarredWrongFalsely : Prop := xmlBarredRow.holds Tryd.pinned (OpenSpec.ofChange xmlBarredWrong)

/- THE SECOND FORM. 'bulk': how many values and letters a reading holds, each counted each time it is reached (what is shared counts as often as it is met; a slice's spare places count too). A statement '..UptoSaid' is the law's where the arguments, and the package variables that the reading takes, are together of bulk at most 1048576: NARROWER than '..Said'. Prove '..Said' where nothing that the law and all that it calls make is longer than what came in: it says more and counts as full. Else prove '..UptoSaid'. A law counts once. -/
mutual
def uptoBulk {H : Type} : DataW H → Nat
  | .lit (.string bytes) => bytes.length + 1
  | .lit _ => 1
  | .nil => 1
  | .ptr d => uptoBulk d + 1
  | .slice elems spare => uptoBulkAll elems + uptoBulkAll spare + 1
  | .agg parts => uptoBulkAll parts + 1
  | .iface _ d => uptoBulk d + 1
  | .map entries => uptoBulkEntries entries + 1
  | .held _ => 1
def uptoBulkAll {H : Type} : List (DataW H) → Nat
  | [] => 0
  | d :: r => uptoBulk d + uptoBulkAll r
def uptoBulkEntries {H : Type} : List (Lit × DataW H) → Nat
  | [] => 0
  | x :: r => uptoBulkEntry x + uptoBulkEntries r
def uptoBulkEntry {H : Type} : Lit × DataW H → Nat
  | (.string bytes, d) => bytes.length + uptoBulk d + 1
  | (_, d) => uptoBulk d + 1
 end
def uptoSmall : (H : Type) → List (DataW H) → Bool := fun _ ds => decide (uptoBulkAll ds ≤ 1048576)
def OpenSpec.upto (s : _root_.Go.ChangeSpec) : _root_.Go.OpenSpec := { _root_.Go.OpenSpec.ofChange s with cond := some uptoSmall }

/-- 'heliographlaw03.XmlFeeds', WHERE WHAT IT READS IS OF BULK AT MOST 1048576: true; the input reads as it did. -/
def xmlFeedsUptoRow : OpenClaim := { program := "ytaglbikjnaahnaadoor", sum := "ee4ff96803ad9a0c338e454c552dcbace263423e40dab820f77f3de7ca53aed5", func := "heliograph/heliographlaw03.XmlFeeds", spec := "xmlFeeds", inPlace := ["internal/bytealg.IndexByteString", "internal/bytealg.IndexString", "internal/abi.NoEscape"], unfollowed := true, recurses := true, named := ["heliograph/text.entities", "internal/bytealg.MaxLen", "unicode/utf8.first", "unicode/utf8.acceptRanges"], apart := false, laid := [("unicode/utf8.acceptRanges", laid_unicode_utf8_acceptRanges), ("heliograph/text.entities", laid_heliograph_text_entities), ("unicode/utf8.first", laid_unicode_utf8_first)], narrowed := true }
def XmlFeedsUptoSaid : Prop := xmlFeedsUptoRow.holds Tryd.pinned (OpenSpec.upto xmlFeedsSpec)

/-- 'heliographlaw03.XmlCuts', WHERE WHAT IT READS IS OF BULK AT MOST 1048576: true; the input reads as it did. -/
def xmlCutsUptoRow : OpenClaim := { program := "ytaglbikjnaahnaadoor", sum := "ee4ff96803ad9a0c338e454c552dcbace263423e40dab820f77f3de7ca53aed5", func := "heliograph/heliographlaw03.XmlCuts", spec := "xmlCuts", inPlace := ["internal/bytealg.IndexByteString", "internal/bytealg.IndexString", "internal/abi.NoEscape"], unfollowed := true, recurses := true, named := ["heliograph/text.entities", "internal/bytealg.MaxLen", "unicode/utf8.first", "unicode/utf8.acceptRanges"], apart := false, laid := [("unicode/utf8.acceptRanges", laid_unicode_utf8_acceptRanges), ("heliograph/text.entities", laid_heliograph_text_entities), ("unicode/utf8.first", laid_unicode_utf8_first)], narrowed := true }
def XmlCutsUptoSaid : Prop := xmlCutsUptoRow.holds Tryd.pinned (OpenSpec.upto xmlCutsSpec)

/-- 'heliographlaw03.XmlBalanced', WHERE WHAT IT READS IS OF BULK AT MOST 1048576: true; the input reads as it did. -/
def xmlBalancedUptoRow : OpenClaim := { program := "ytaglbikjnaahnaadoor", sum := "ee4ff96803ad9a0c338e454c552dcbace263423e40dab820f77f3de7ca53aed5", func := "heliograph/heliographlaw03.XmlBalanced", spec := "xmlBalanced", inPlace := ["internal/bytealg.IndexByteString", "internal/bytealg.IndexString", "internal/abi.NoEscape"], unfollowed := true, recurses := true, named := ["heliograph/text.entities", "internal/bytealg.MaxLen", "unicode/utf8.first", "unicode/utf8.acceptRanges"], apart := false, laid := [("unicode/utf8.acceptRanges", laid_unicode_utf8_acceptRanges), ("heliograph/text.entities", laid_heliograph_text_entities), ("unicode/utf8.first", laid_unicode_utf8_first)], narrowed := true }
def XmlBalancedUptoSaid : Prop := xmlBalancedUptoRow.holds Tryd.pinned (OpenSpec.upto xmlBalancedSpec)

/-- 'heliographlaw03.XmlLimits', WHERE WHAT IT READS IS OF BULK AT MOST 1048576: true; the input reads as it did. -/
def xmlLimitsUptoRow : OpenClaim := { program := "ytaglbikjnaahnaadoor", sum := "ee4ff96803ad9a0c338e454c552dcbace263423e40dab820f77f3de7ca53aed5", func := "heliograph/heliographlaw03.XmlLimits", spec := "xmlLimits", inPlace := ["internal/bytealg.IndexByteString", "internal/bytealg.IndexString", "internal/abi.NoEscape"], unfollowed := true, recurses := true, named := ["heliograph/text.entities", "internal/bytealg.MaxLen", "unicode/utf8.first", "unicode/utf8.acceptRanges"], apart := false, laid := [("unicode/utf8.acceptRanges", laid_unicode_utf8_acceptRanges), ("heliograph/text.entities", laid_heliograph_text_entities), ("unicode/utf8.first", laid_unicode_utf8_first)], narrowed := true }
def XmlLimitsUptoSaid : Prop := xmlLimitsUptoRow.holds Tryd.pinned (OpenSpec.upto xmlLimitsSpec)

/-- 'heliographlaw03.XmlBroken', WHERE WHAT IT READS IS OF BULK AT MOST 1048576: true; the input reads as it did. -/
def xmlBrokenUptoRow : OpenClaim := { program := "ytaglbikjnaahnaadoor", sum := "ee4ff96803ad9a0c338e454c552dcbace263423e40dab820f77f3de7ca53aed5", func := "heliograph/heliographlaw03.XmlBroken", spec := "xmlBroken", inPlace := ["internal/bytealg.IndexByteString", "internal/bytealg.IndexString", "internal/abi.NoEscape"], unfollowed := true, recurses := true, named := ["heliograph/text.entities", "internal/bytealg.MaxLen", "unicode/utf8.first", "unicode/utf8.acceptRanges"], apart := false, laid := [("unicode/utf8.acceptRanges", laid_unicode_utf8_acceptRanges), ("heliograph/text.entities", laid_heliograph_text_entities), ("unicode/utf8.first", laid_unicode_utf8_first)], narrowed := true }
def XmlBrokenUptoSaid : Prop := xmlBrokenUptoRow.holds Tryd.pinned (OpenSpec.upto xmlBrokenSpec)

/-- 'heliographlaw03.XmlBarred', WHERE WHAT IT READS IS OF BULK AT MOST 1048576: true; the input reads as it did. -/
def xmlBarredUptoRow : OpenClaim := { program := "ytaglbikjnaahnaadoor", sum := "ee4ff96803ad9a0c338e454c552dcbace263423e40dab820f77f3de7ca53aed5", func := "heliograph/heliographlaw03.XmlBarred", spec := "xmlBarred", inPlace := ["internal/bytealg.IndexByteString", "internal/bytealg.IndexString", "internal/abi.NoEscape"], unfollowed := true, recurses := true, named := ["heliograph/text.entities", "internal/bytealg.MaxLen", "unicode/utf8.first", "unicode/utf8.acceptRanges"], apart := false, laid := [("unicode/utf8.acceptRanges", laid_unicode_utf8_acceptRanges), ("heliograph/text.entities", laid_heliograph_text_entities), ("unicode/utf8.first", laid_unicode_utf8_first)], narrowed := true }
def XmlBarredUptoSaid : Prop := xmlBarredUptoRow.holds Tryd.pinned (OpenSpec.upto xmlBarredSpec)

end Rows
end Go.Proofs.YtaglbikjnaahnaaDoor
