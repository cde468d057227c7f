/-
  No cell of these rows narrows 'for every input' (looked for: loops, veiled, ifaces, maps, wideKeys, modest, calm, conditions, laid).
  DERIVED. THE GIVEN ROWS OF THIS SEAT. 6 by the template 'for every input the law returns true; each argument reads behind the call as it read before'; 0 by the template 'total and deterministic' (their statements: YtllpblnbdocfjabTotals.lean).
  GIVEN WITH THE SEED: the statements are not yours to turn. If you find one false, say at which input.
  Laid BY PROGRAM, IN A SANDBOX (cutbox-rows.mjs): the forced cells as the released guide's own fill.sh prints them over the translation 572affb39fa756dd… (all of the seat's roots in one cut). By AI agents, Wed Nov 11 2026. No macro, syntax, notation, axiom, sorry.
-/
import Derived.Test.YtllpblnbdocfjabChecked
import GoSem.Claim
import GoSem.ClaimJoined
import GoSem.ClaimMapViews
import Derived.JoinedTies
import Derived.KernelRfl
namespace Go.Proofs.Ytllpblnbdocfjab
/- THE CELL 'sum', in the pinned program and in every row, IS THE sha256 OF THE DUMP (.gsa) THAT YtllpblnbdocfjabProg.lean LOADS. Nothing in Lean hashes anything: it is a label: what it is worth is what the hold of that sum in a sandbox is worth. -/
noncomputable def Try.pinned : Pinned := { name := "ytllpblnbdocfjab", sum := "572affb39fa756dd550c49b523293c614d8ef4053bead8b2e3b4d7a467a91331", checked := Try.checked }
namespace Rows
def none {H : Type} : Left H := { results := [], args := [] }

/-- 'heliographlaw09.KvForks': WHATEVER THE INPUT: true; the input reads as it did. -/
def kvForksSpec : ChangeSpec := { name := "kvForks", fn := fun _ => fun
  | [d1, d2] => { results := [.lit (.bool true)], args := [d1, d2] }
  | _ => none }
def kvForksRow : OpenClaim := { program := "ytllpblnbdocfjab", sum := "572affb39fa756dd550c49b523293c614d8ef4053bead8b2e3b4d7a467a91331", func := "heliograph/heliographlaw09.KvForks", spec := "kvForks", inPlace := ["maps.clone"], unfollowed := true, recurses := true, apart := false }
def KvForksSaid : Prop := kvForksRow.holds Try.pinned (OpenSpec.ofChange kvForksSpec)

/-- ITS FALSE NEIGHBOUR: 'it returns false'. Refute it at one input. -/
def kvForksWrong : ChangeSpec := { name := "kvForks", fn := fun _ => fun
  | [d1, d2] => { results := [.lit (.bool false)], args := [d1, d2] }
  | _ => none }
def KvForksWrongFalsely : Prop := kvForksRow.holds Try.pinned (OpenSpec.ofChange kvForksWrong)

/-- 'heliographlaw09.KvNone': WHATEVER THE INPUT: true; the input reads as it did. -/
def kvNoneSpec : ChangeSpec := { name := "kvNone", fn := fun _ => fun
  | [d] => { results := [.lit (.bool true)], args := [d] }
  | _ => none }
def kvNoneRow : OpenClaim := { program := "ytllpblnbdocfjab", sum := "572affb39fa756dd550c49b523293c614d8ef4053bead8b2e3b4d7a467a91331", func := "heliograph/heliographlaw09.KvNone", spec := "kvNone", inPlace := ["maps.clone"], unfollowed := true, recurses := true, apart := false }
def KvNoneSaid : Prop := kvNoneRow.holds Try.pinned (OpenSpec.ofChange kvNoneSpec)

/-- ITS FALSE NEIGHBOUR: 'it returns false'. Refute it at one input. -/
def kvNoneWrong : ChangeSpec := { name := "kvNone", fn := fun _ => fun
  | [d] => { results := [.lit (.bool false)], args := [d] }
  | _ => none }
def KvNoneWrongFalsely : Prop := kvNoneRow.holds Try.pinned (OpenSpec.ofChange kvNoneWrong)

/-- 'heliographlaw09.KvCuts': WHATEVER THE INPUT: true; the input reads as it did. -/
def kvCutsSpec : ChangeSpec := { name := "kvCuts", fn := fun _ => fun
  | [d1, d2] => { results := [.lit (.bool true)], args := [d1, d2] }
  | _ => none }
def kvCutsRow : OpenClaim := { program := "ytllpblnbdocfjab", sum := "572affb39fa756dd550c49b523293c614d8ef4053bead8b2e3b4d7a467a91331", func := "heliograph/heliographlaw09.KvCuts", spec := "kvCuts", unfollowed := true, recurses := true, apart := false }
def KvCutsSaid : Prop := kvCutsRow.holds Try.pinned (OpenSpec.ofChange kvCutsSpec)

/-- ITS FALSE NEIGHBOUR: 'it returns false'. Refute it at one input. -/
def kvCutsWrong : ChangeSpec := { name := "kvCuts", fn := fun _ => fun
  | [d1, d2] => { results := [.lit (.bool false)], args := [d1, d2] }
  | _ => none }
def KvCutsWrongFalsely : Prop := kvCutsRow.holds Try.pinned (OpenSpec.ofChange kvCutsWrong)

/-- 'heliographlaw10.AckPlays': WHATEVER THE INPUT: true; the input reads as it did. -/
def ackPlaysSpec : ChangeSpec := { name := "ackPlays", fn := fun _ => fun
  | [d] => { results := [.lit (.bool true)], args := [d] }
  | _ => none }
def ackPlaysRow : OpenClaim := { program := "ytllpblnbdocfjab", sum := "572affb39fa756dd550c49b523293c614d8ef4053bead8b2e3b4d7a467a91331", func := "heliograph/heliographlaw10.AckPlays", spec := "ackPlays", apart := false }
def AckPlaysSaid : Prop := ackPlaysRow.holds Try.pinned (OpenSpec.ofChange ackPlaysSpec)

/-- ITS FALSE NEIGHBOUR: 'it returns false'. Refute it at one input. -/
def ackPlaysWrong : ChangeSpec := { name := "ackPlays", fn := fun _ => fun
  | [d] => { results := [.lit (.bool false)], args := [d] }
  | _ => none }
def AckPlaysWrongFalsely : Prop := ackPlaysRow.holds Try.pinned (OpenSpec.ofChange ackPlaysWrong)

/-- 'heliographlaw10.AckOrder': WHATEVER THE INPUT: true; the input reads as it did. -/
def ackOrderSpec : ChangeSpec := { name := "ackOrder", fn := fun _ => fun
  | [d1, d2] => { results := [.lit (.bool true)], args := [d1, d2] }
  | _ => none }
def ackOrderRow : OpenClaim := { program := "ytllpblnbdocfjab", sum := "572affb39fa756dd550c49b523293c614d8ef4053bead8b2e3b4d7a467a91331", func := "heliograph/heliographlaw10.AckOrder", spec := "ackOrder", apart := false }
def AckOrderSaid : Prop := ackOrderRow.holds Try.pinned (OpenSpec.ofChange ackOrderSpec)

/-- ITS FALSE NEIGHBOUR: 'it returns false'. Refute it at one input. -/
def ackOrderWrong : ChangeSpec := { name := "ackOrder", fn := fun _ => fun
  | [d1, d2] => { results := [.lit (.bool false)], args := [d1, d2] }
  | _ => none }
def AckOrderWrongFalsely : Prop := ackOrderRow.holds Try.pinned (OpenSpec.ofChange ackOrderWrong)

/-- 'heliographlaw10.AckFew': WHATEVER THE INPUT: true; the input reads as it did. -/
def ackFewSpec : ChangeSpec := { name := "ackFew", fn := fun _ => fun
  | [d1, d2] => { results := [.lit (.bool true)], args := [d1, d2] }
  | _ => none }
def ackFewRow : OpenClaim := { program := "ytllpblnbdocfjab", sum := "572affb39fa756dd550c49b523293c614d8ef4053bead8b2e3b4d7a467a91331", func := "heliograph/heliographlaw10.AckFew", spec := "ackFew", apart := false }
def AckFewSaid : Prop := ackFewRow.holds Try.pinned (OpenSpec.ofChange ackFewSpec)

/-- ITS FALSE NEIGHBOUR: 'it returns false'. Refute it at one input. -/
def ackFewWrong : ChangeSpec := { name := "ackFew", fn := fun _ => fun
  | [d1, d2] => { results := [.lit (.bool false)], args := [d1, d2] }
  | _ => none }
def AckFewWrongFalsely : Prop := ackFewRow.holds Try.pinned (OpenSpec.ofChange ackFewWrong)

/- THE SECOND FORM. 'bulk': how many values and letters a reading holds, each counted each time it is reached (what is shared counts as often as it is met; a slice's spare places count too). A statement '..UptoSaid' is the law's where the arguments, and the package variables that the reading takes, are together of bulk at most 1048576: NARROWER than '..Said'. Prove '..Said' where nothing that the law and all that it calls make is longer than what came in: it says more and counts as full. Else prove '..UptoSaid'. A law counts once. -/
mutual
def uptoBulk {H : Type} : DataW H → Nat
  | .lit (.string bytes) => bytes.length + 1
  | .lit _ => 1
  | .nil => 1
  | .ptr d => uptoBulk d + 1
  | .slice elems spare => uptoBulkAll elems + uptoBulkAll spare + 1
  | .agg parts => uptoBulkAll parts + 1
  | .iface _ d => uptoBulk d + 1
  | .map entries => uptoBulkEntries entries + 1
  | .held _ => 1
def uptoBulkAll {H : Type} : List (DataW H) → Nat
  | [] => 0
  | d :: r => uptoBulk d + uptoBulkAll r
def uptoBulkEntries {H : Type} : List (Lit × DataW H) → Nat
  | [] => 0
  | x :: r => uptoBulkEntry x + uptoBulkEntries r
def uptoBulkEntry {H : Type} : Lit × DataW H → Nat
  | (.string bytes, d) => bytes.length + uptoBulk d + 1
  | (_, d) => uptoBulk d + 1
 end
def uptoSmall : (H : Type) → List (DataW H) → Bool := fun _ ds => decide (uptoBulkAll ds ≤ 1048576)
def OpenSpec.upto (s : _root_.Go.ChangeSpec) : _root_.Go.OpenSpec := { _root_.Go.OpenSpec.ofChange s with cond := some uptoSmall }

/-- 'heliographlaw09.KvForks', WHERE WHAT IT READS IS OF BULK AT MOST 1048576: true; the input reads as it did. -/
def kvForksUptoRow : OpenClaim := { program := "ytllpblnbdocfjab", sum := "572affb39fa756dd550c49b523293c614d8ef4053bead8b2e3b4d7a467a91331", func := "heliograph/heliographlaw09.KvForks", spec := "kvForks", inPlace := ["maps.clone"], unfollowed := true, recurses := true, apart := false, narrowed := true }
def KvForksUptoSaid : Prop := kvForksUptoRow.holds Try.pinned (OpenSpec.upto kvForksSpec)

/-- 'heliographlaw09.KvNone', WHERE WHAT IT READS IS OF BULK AT MOST 1048576: true; the input reads as it did. -/
def kvNoneUptoRow : OpenClaim := { program := "ytllpblnbdocfjab", sum := "572affb39fa756dd550c49b523293c614d8ef4053bead8b2e3b4d7a467a91331", func := "heliograph/heliographlaw09.KvNone", spec := "kvNone", inPlace := ["maps.clone"], unfollowed := true, recurses := true, apart := false, narrowed := true }
def KvNoneUptoSaid : Prop := kvNoneUptoRow.holds Try.pinned (OpenSpec.upto kvNoneSpec)

/-- 'heliographlaw09.KvCuts', WHERE WHAT IT READS IS OF BULK AT MOST 1048576: true; the input reads as it did. -/
def kvCutsUptoRow : OpenClaim := { program := "ytllpblnbdocfjab", sum := "572affb39fa756dd550c49b523293c614d8ef4053bead8b2e3b4d7a467a91331", func := "heliograph/heliographlaw09.KvCuts", spec := "kvCuts", unfollowed := true, recurses := true, apart := false, narrowed := true }
def KvCutsUptoSaid : Prop := kvCutsUptoRow.holds Try.pinned (OpenSpec.upto kvCutsSpec)

/-- 'heliographlaw10.AckPlays', WHERE WHAT IT READS IS OF BULK AT MOST 1048576: true; the input reads as it did. -/
def ackPlaysUptoRow : OpenClaim := { program := "ytllpblnbdocfjab", sum := "572affb39fa756dd550c49b523293c614d8ef4053bead8b2e3b4d7a467a91331", func := "heliograph/heliographlaw10.AckPlays", spec := "ackPlays", apart := false, narrowed := true }
def AckPlaysUptoSaid : Prop := ackPlaysUptoRow.holds Try.pinned (OpenSpec.upto ackPlaysSpec)

/-- 'heliographlaw10.AckOrder', WHERE WHAT IT READS IS OF BULK AT MOST 1048576: true; the input reads as it did. -/
def ackOrderUptoRow : OpenClaim := { program := "ytllpblnbdocfjab", sum := "572affb39fa756dd550c49b523293c614d8ef4053bead8b2e3b4d7a467a91331", func := "heliograph/heliographlaw10.AckOrder", spec := "ackOrder", apart := false, narrowed := true }
def AckOrderUptoSaid : Prop := ackOrderUptoRow.holds Try.pinned (OpenSpec.upto ackOrderSpec)

/-- 'heliographlaw10.AckFew', WHERE WHAT IT READS IS OF BULK AT MOST 1048576: true; the input reads as it did. -/
def ackFewUptoRow : OpenClaim := { program := "ytllpblnbdocfjab", sum := "572affb39fa756dd550c49b523293c614d8ef4053bead8b2e3b4d7a467a91331", func := "heliograph/heliographlaw10.AckFew", spec := "ackFew", apart := false, narrowed := true }
def AckFewUptoSaid : Prop := ackFewUptoRow.holds Try.pinned (OpenSpec.upto ackFewSpec)

end Rows
end Go.Proofs.Ytllpblnbdocfjab
