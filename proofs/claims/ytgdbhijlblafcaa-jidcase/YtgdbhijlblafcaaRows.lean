/-
  No cell of these rows narrows 'for every input' (looked for: loops, veiled, ifaces, maps, wideKeys, modest, calm, conditions, laid).
  DERIVED. THE GIVEN ROWS OF THIS SEAT. 2 by the template 'for every input the law returns true; each argument reads behind the call as it read before'; 0 by the template 'total and deterministic' (their statements: YtgdbhijlblafcaaTotals.lean).
  GIVEN WITH THE SEED: the statements are not yours to turn. If you find one false, say at which input.
  Laid BY PROGRAM, IN A SANDBOX (cutbox-rows.mjs): the forced cells as the released guide's own fill.sh prints them over the translation ac1757adf15c0850… (all of the seat's roots in one cut). By AI agents, Wed Nov 11 2026. No macro, syntax, notation, axiom, sorry.
-/
import Derived.Test.YtgdbhijlblafcaaChecked
import GoSem.Claim
import GoSem.ClaimJoined
import GoSem.ClaimMapViews
import Derived.JoinedTies
import Derived.KernelRfl
namespace Go.Proofs.Ytgdbhijlblafcaa
/- THE CELL 'sum', in the pinned program and in every row, IS THE sha256 OF THE DUMP (.gsa) THAT YtgdbhijlblafcaaProg.lean LOADS. Nothing in Lean hashes anything: it is a label: what it is worth is what the hold of that sum in a sandbox is worth. -/
noncomputable def Try.pinned : Pinned := { name := "ytgdbhijlblafcaa", sum := "ac1757adf15c0850aa794fc7be480852e44a9b10a4d96bc99f47a0f0a032768a", checked := Try.checked }
namespace Rows
def none {H : Type} : Left H := { results := [], args := [] }

/-- 'heliographlaw05.JidTwice': WHATEVER THE INPUT: true; the input reads as it did. -/
def jidTwiceSpec : ChangeSpec := { name := "jidTwice", fn := fun _ => fun
  | [d] => { results := [.lit (.bool true)], args := [d] }
  | _ => none }
def jidTwiceRow : OpenClaim := { program := "ytgdbhijlblafcaa", sum := "ac1757adf15c0850aa794fc7be480852e44a9b10a4d96bc99f47a0f0a032768a", func := "heliograph/heliographlaw05.JidTwice", spec := "jidTwice", inPlace := ["internal/bytealg.IndexByteString", "internal/bytealg.IndexString"], named := ["internal/bytealg.MaxLen"], apart := false }
def JidTwiceSaid : Prop := jidTwiceRow.holds Try.pinned (OpenSpec.ofChange jidTwiceSpec)

/-- ITS FALSE NEIGHBOUR: 'it returns false'. Refute it at one input. -/
def jidTwiceWrong : ChangeSpec := { name := "jidTwice", fn := fun _ => fun
  | [d] => { results := [.lit (.bool false)], args := [d] }
  | _ => none }
def JidTwiceWrongFalsely : Prop := jidTwiceRow.holds Try.pinned (OpenSpec.ofChange jidTwiceWrong)

/-- 'heliographlaw05.JidCase': WHATEVER THE INPUT: true; the input reads as it did. -/
def jidCaseSpec : ChangeSpec := { name := "jidCase", fn := fun _ => fun
  | [d] => { results := [.lit (.bool true)], args := [d] }
  | _ => none }
def jidCaseRow : OpenClaim := { program := "ytgdbhijlblafcaa", sum := "ac1757adf15c0850aa794fc7be480852e44a9b10a4d96bc99f47a0f0a032768a", func := "heliograph/heliographlaw05.JidCase", spec := "jidCase", inPlace := ["internal/bytealg.IndexByteString", "internal/bytealg.IndexString"], named := ["internal/bytealg.MaxLen"], apart := false }
def JidCaseSaid : Prop := jidCaseRow.holds Try.pinned (OpenSpec.ofChange jidCaseSpec)

/-- ITS FALSE NEIGHBOUR: 'it returns false'. Refute it at one input. -/
def jidCaseWrong : ChangeSpec := { name := "jidCase", fn := fun _ => fun
  | [d] => { results := [.lit (.bool false)], args := [d] }
  | _ => none }
def JidCaseWrongFalsely : Prop := jidCaseRow.holds Try.pinned (OpenSpec.ofChange jidCaseWrong)

/- THE SECOND FORM. 'bulk': how many values and letters a reading holds, each counted each time it is reached (what is shared counts as often as it is met; a slice's spare places count too). A statement '..UptoSaid' is the law's where the arguments, and the package variables that the reading takes, are together of bulk at most 1048576: NARROWER than '..Said'. Prove '..Said' where nothing that the law and all that it calls make is longer than what came in: it says more and counts as full. Else prove '..UptoSaid'. A law counts once. -/
mutual
def uptoBulk {H : Type} : DataW H → Nat
  | .lit (.string bytes) => bytes.length + 1
  | .lit _ => 1
  | .nil => 1
  | .ptr d => uptoBulk d + 1
  | .slice elems spare => uptoBulkAll elems + uptoBulkAll spare + 1
  | .agg parts => uptoBulkAll parts + 1
  | .iface _ d => uptoBulk d + 1
  | .map entries => uptoBulkEntries entries + 1
  | .held _ => 1
def uptoBulkAll {H : Type} : List (DataW H) → Nat
  | [] => 0
  | d :: r => uptoBulk d + uptoBulkAll r
def uptoBulkEntries {H : Type} : List (Lit × DataW H) → Nat
  | [] => 0
  | x :: r => uptoBulkEntry x + uptoBulkEntries r
def uptoBulkEntry {H : Type} : Lit × DataW H → Nat
  | (.string bytes, d) => bytes.length + uptoBulk d + 1
  | (_, d) => uptoBulk d + 1
 end
def uptoSmall : (H : Type) → List (DataW H) → Bool := fun _ ds => decide (uptoBulkAll ds ≤ 1048576)
def OpenSpec.upto (s : _root_.Go.ChangeSpec) : _root_.Go.OpenSpec := { _root_.Go.OpenSpec.ofChange s with cond := some uptoSmall }

/-- 'heliographlaw05.JidTwice', WHERE WHAT IT READS IS OF BULK AT MOST 1048576: true; the input reads as it did. -/
def jidTwiceUptoRow : OpenClaim := { program := "ytgdbhijlblafcaa", sum := "ac1757adf15c0850aa794fc7be480852e44a9b10a4d96bc99f47a0f0a032768a", func := "heliograph/heliographlaw05.JidTwice", spec := "jidTwice", inPlace := ["internal/bytealg.IndexByteString", "internal/bytealg.IndexString"], named := ["internal/bytealg.MaxLen"], apart := false, narrowed := true }
def JidTwiceUptoSaid : Prop := jidTwiceUptoRow.holds Try.pinned (OpenSpec.upto jidTwiceSpec)

/-- 'heliographlaw05.JidCase', WHERE WHAT IT READS IS OF BULK AT MOST 1048576: true; the input reads as it did. -/
def jidCaseUptoRow : OpenClaim := { program := "ytgdbhijlblafcaa", sum := "ac1757adf15c0850aa794fc7be480852e44a9b10a4d96bc99f47a0f0a032768a", func := "heliograph/heliographlaw05.JidCase", spec := "jidCase", inPlace := ["internal/bytealg.IndexByteString", "internal/bytealg.IndexString"], named := ["internal/bytealg.MaxLen"], apart := false, narrowed := true }
def JidCaseUptoSaid : Prop := jidCaseUptoRow.holds Try.pinned (OpenSpec.upto jidCaseSpec)

end Rows
end Go.Proofs.Ytgdbhijlblafcaa
