/-
  No cell of these rows narrows 'for every input' (looked for: loops, veiled, ifaces, maps, wideKeys, modest, calm, conditions, laid).
  DERIVED. THE GIVEN ROWS OF THIS SEAT. 5 by the template 'for every input the law returns true; each argument reads behind the call as it read before'; 0 by the template 'total and deterministic' (their statements: YtlafjddidlofcaaTotals.lean).
  GIVEN WITH THE SEED: the statements are not yours to turn. If you find one false, say at which input.
  Laid BY PROGRAM, IN A SANDBOX (cutbox-rows.mjs): the forced cells as the released guide's own fill.sh prints them over the translation 750e89e3bfaf6c6b… (all of the seat's roots in one cut). By AI agents, Wed Nov 11 2026. No macro, syntax, notation, axiom, sorry.
-/
import Derived.Test.YtlafjddidlofcaaChecked
import GoSem.Claim
import GoSem.ClaimJoined
import GoSem.ClaimMapViews
import Derived.JoinedTies
import Derived.KernelRfl
namespace Go.Proofs.Ytlafjddidlofcaa
/- THE CELL 'sum', in the pinned program and in every row, IS THE sha256 OF THE DUMP (.gsa) THAT YtlafjddidlofcaaProg.lean LOADS. Nothing in Lean hashes anything: it is a label: what it is worth is what the hold of that sum in a sandbox is worth. -/
noncomputable def Try.pinned : Pinned := { name := "ytlafjddidlofcaa", sum := "750e89e3bfaf6c6bed8bdb946923fe899df375d47dc36ca3f516ba3620e12c7d", checked := Try.checked }
namespace Rows
def none {H : Type} : Left H := { results := [], args := [] }

/-- 'heliographlaw12.CollectAdds': WHATEVER THE INPUT: true; the input reads as it did. -/
def collectAddsSpec : ChangeSpec := { name := "collectAdds", fn := fun _ => fun
  | [d1, d2, d3] => { results := [.lit (.bool true)], args := [d1, d2, d3] }
  | _ => none }
def collectAddsRow : OpenClaim := { program := "ytlafjddidlofcaa", sum := "750e89e3bfaf6c6bed8bdb946923fe899df375d47dc36ca3f516ba3620e12c7d", func := "heliograph/heliographlaw12.CollectAdds", spec := "collectAdds", inPlace := ["internal/bytealg.abigen_runtime_cmpstring"], unfollowed := true, recurses := true, apart := false }
def CollectAddsSaid : Prop := collectAddsRow.holds Try.pinned (OpenSpec.ofChange collectAddsSpec)

/-- ITS FALSE NEIGHBOUR: 'it returns false'. Refute it at one input. -/
def collectAddsWrong : ChangeSpec := { name := "collectAdds", fn := fun _ => fun
  | [d1, d2, d3] => { results := [.lit (.bool false)], args := [d1, d2, d3] }
  | _ => none }
def CollectAddsWrongFalsely : Prop := collectAddsRow.holds Try.pinned (OpenSpec.ofChange collectAddsWrong)

/-- 'heliographlaw12.CollectLooks': WHATEVER THE INPUT: true; the input reads as it did. -/
def collectLooksSpec : ChangeSpec := { name := "collectLooks", fn := fun _ => fun
  | [d1, d2] => { results := [.lit (.bool true)], args := [d1, d2] }
  | _ => none }
def collectLooksRow : OpenClaim := { program := "ytlafjddidlofcaa", sum := "750e89e3bfaf6c6bed8bdb946923fe899df375d47dc36ca3f516ba3620e12c7d", func := "heliograph/heliographlaw12.CollectLooks", spec := "collectLooks", inPlace := ["internal/bytealg.abigen_runtime_cmpstring"], unfollowed := true, recurses := true, apart := false }
def CollectLooksSaid : Prop := collectLooksRow.holds Try.pinned (OpenSpec.ofChange collectLooksSpec)

/-- ITS FALSE NEIGHBOUR: 'it returns false'. Refute it at one input. -/
def collectLooksWrong : ChangeSpec := { name := "collectLooks", fn := fun _ => fun
  | [d1, d2] => { results := [.lit (.bool false)], args := [d1, d2] }
  | _ => none }
def CollectLooksWrongFalsely : Prop := collectLooksRow.holds Try.pinned (OpenSpec.ofChange collectLooksWrong)

/-- 'heliographlaw12.CollectStays': WHATEVER THE INPUT: true; the input reads as it did. -/
def collectStaysSpec : ChangeSpec := { name := "collectStays", fn := fun _ => fun
  | [d] => { results := [.lit (.bool true)], args := [d] }
  | _ => none }
def collectStaysRow : OpenClaim := { program := "ytlafjddidlofcaa", sum := "750e89e3bfaf6c6bed8bdb946923fe899df375d47dc36ca3f516ba3620e12c7d", func := "heliograph/heliographlaw12.CollectStays", spec := "collectStays", inPlace := ["internal/bytealg.abigen_runtime_cmpstring"], unfollowed := true, recurses := true, apart := false }
def CollectStaysSaid : Prop := collectStaysRow.holds Try.pinned (OpenSpec.ofChange collectStaysSpec)

/-- ITS FALSE NEIGHBOUR: 'it returns false'. Refute it at one input. -/
def collectStaysWrong : ChangeSpec := { name := "collectStays", fn := fun _ => fun
  | [d] => { results := [.lit (.bool false)], args := [d] }
  | _ => none }
def CollectStaysWrongFalsely : Prop := collectStaysRow.holds Try.pinned (OpenSpec.ofChange collectStaysWrong)

/-- 'heliographlaw12.CollectUndoes': WHATEVER THE INPUT: true; the input reads as it did. -/
def collectUndoesSpec : ChangeSpec := { name := "collectUndoes", fn := fun _ => fun
  | [d1, d2, d3] => { results := [.lit (.bool true)], args := [d1, d2, d3] }
  | _ => none }
def collectUndoesRow : OpenClaim := { program := "ytlafjddidlofcaa", sum := "750e89e3bfaf6c6bed8bdb946923fe899df375d47dc36ca3f516ba3620e12c7d", func := "heliograph/heliographlaw12.CollectUndoes", spec := "collectUndoes", inPlace := ["internal/bytealg.abigen_runtime_cmpstring"], unfollowed := true, recurses := true, apart := false }
def CollectUndoesSaid : Prop := collectUndoesRow.holds Try.pinned (OpenSpec.ofChange collectUndoesSpec)

/-- ITS FALSE NEIGHBOUR: 'it returns false'. Refute it at one input. -/
def collectUndoesWrong : ChangeSpec := { name := "collectUndoes", fn := fun _ => fun
  | [d1, d2, d3] => { results := [.lit (.bool false)], args := [d1, d2, d3] }
  | _ => none }
def CollectUndoesWrongFalsely : Prop := collectUndoesRow.holds Try.pinned (OpenSpec.ofChange collectUndoesWrong)

/-- 'heliographlaw12.CollectKids': WHATEVER THE INPUT: true; the input reads as it did. -/
def collectKidsSpec : ChangeSpec := { name := "collectKids", fn := fun _ => fun
  | [d1, d2] => { results := [.lit (.bool true)], args := [d1, d2] }
  | _ => none }
def collectKidsRow : OpenClaim := { program := "ytlafjddidlofcaa", sum := "750e89e3bfaf6c6bed8bdb946923fe899df375d47dc36ca3f516ba3620e12c7d", func := "heliograph/heliographlaw12.CollectKids", spec := "collectKids", inPlace := ["internal/bytealg.abigen_runtime_cmpstring"], unfollowed := true, recurses := true, apart := false }
def CollectKidsSaid : Prop := collectKidsRow.holds Try.pinned (OpenSpec.ofChange collectKidsSpec)

/-- ITS FALSE NEIGHBOUR: 'it returns false'. Refute it at one input. -/
def collectKidsWrong : ChangeSpec := { name := "collectKids", fn := fun _ => fun
  | [d1, d2] => { results := [.lit (.bool false)], args := [d1, d2] }
  | _ => none }
def CollectKidsWrongFalsely : Prop := collectKidsRow.holds Try.pinned (OpenSpec.ofChange collectKidsWrong)

/- THE SECOND FORM. 'bulk': how many values and letters a reading holds, each counted each time it is reached (what is shared counts as often as it is met; a slice's spare places count too). A statement '..UptoSaid' is the law's where the arguments, and the package variables that the reading takes, are together of bulk at most 1048576: NARROWER than '..Said'. Prove '..Said' where nothing that the law and all that it calls make is longer than what came in: it says more and counts as full. Else prove '..UptoSaid'. A law counts once. -/
mutual
def uptoBulk {H : Type} : DataW H → Nat
  | .lit (.string bytes) => bytes.length + 1
  | .lit _ => 1
  | .nil => 1
  | .ptr d => uptoBulk d + 1
  | .slice elems spare => uptoBulkAll elems + uptoBulkAll spare + 1
  | .agg parts => uptoBulkAll parts + 1
  | .iface _ d => uptoBulk d + 1
  | .map entries => uptoBulkEntries entries + 1
  | .held _ => 1
def uptoBulkAll {H : Type} : List (DataW H) → Nat
  | [] => 0
  | d :: r => uptoBulk d + uptoBulkAll r
def uptoBulkEntries {H : Type} : List (Lit × DataW H) → Nat
  | [] => 0
  | x :: r => uptoBulkEntry x + uptoBulkEntries r
def uptoBulkEntry {H : Type} : Lit × DataW H → Nat
  | (.string bytes, d) => bytes.length + uptoBulk d + 1
  | (_, d) => uptoBulk d + 1
 end
def uptoSmall : (H : Type) → List (DataW H) → Bool := fun _ ds => decide (uptoBulkAll ds ≤ 1048576)
def OpenSpec.upto (s : _root_.Go.ChangeSpec) : _root_.Go.OpenSpec := { _root_.Go.OpenSpec.ofChange s with cond := some uptoSmall }

/-- 'heliographlaw12.CollectAdds', WHERE WHAT IT READS IS OF BULK AT MOST 1048576: true; the input reads as it did. -/
def collectAddsUptoRow : OpenClaim := { program := "ytlafjddidlofcaa", sum := "750e89e3bfaf6c6bed8bdb946923fe899df375d47dc36ca3f516ba3620e12c7d", func := "heliograph/heliographlaw12.CollectAdds", spec := "collectAdds", inPlace := ["internal/bytealg.abigen_runtime_cmpstring"], unfollowed := true, recurses := true, apart := false, narrowed := true }
def CollectAddsUptoSaid : Prop := collectAddsUptoRow.holds Try.pinned (OpenSpec.upto collectAddsSpec)

/-- 'heliographlaw12.CollectLooks', WHERE WHAT IT READS IS OF BULK AT MOST 1048576: true; the input reads as it did. -/
def collectLooksUptoRow : OpenClaim := { program := "ytlafjddidlofcaa", sum := "750e89e3bfaf6c6bed8bdb946923fe899df375d47dc36ca3f516ba3620e12c7d", func := "heliograph/heliographlaw12.CollectLooks", spec := "collectLooks", inPlace := ["internal/bytealg.abigen_runtime_cmpstring"], unfollowed := true, recurses := true, apart := false, narrowed := true }
def CollectLooksUptoSaid : Prop := collectLooksUptoRow.holds Try.pinned (OpenSpec.upto collectLooksSpec)

/-- 'heliographlaw12.CollectStays', WHERE WHAT IT READS IS OF BULK AT MOST 1048576: true; the input reads as it did. -/
def collectStaysUptoRow : OpenClaim := { program := "ytlafjddidlofcaa", sum := "750e89e3bfaf6c6bed8bdb946923fe899df375d47dc36ca3f516ba3620e12c7d", func := "heliograph/heliographlaw12.CollectStays", spec := "collectStays", inPlace := ["internal/bytealg.abigen_runtime_cmpstring"], unfollowed := true, recurses := true, apart := false, narrowed := true }
def CollectStaysUptoSaid : Prop := collectStaysUptoRow.holds Try.pinned (OpenSpec.upto collectStaysSpec)

/-- 'heliographlaw12.CollectUndoes', WHERE WHAT IT READS IS OF BULK AT MOST 1048576: true; the input reads as it did. -/
def collectUndoesUptoRow : OpenClaim := { program := "ytlafjddidlofcaa", sum := "750e89e3bfaf6c6bed8bdb946923fe899df375d47dc36ca3f516ba3620e12c7d", func := "heliograph/heliographlaw12.CollectUndoes", spec := "collectUndoes", inPlace := ["internal/bytealg.abigen_runtime_cmpstring"], unfollowed := true, recurses := true, apart := false, narrowed := true }
def CollectUndoesUptoSaid : Prop := collectUndoesUptoRow.holds Try.pinned (OpenSpec.upto collectUndoesSpec)

/-- 'heliographlaw12.CollectKids', WHERE WHAT IT READS IS OF BULK AT MOST 1048576: true; the input reads as it did. -/
def collectKidsUptoRow : OpenClaim := { program := "ytlafjddidlofcaa", sum := "750e89e3bfaf6c6bed8bdb946923fe899df375d47dc36ca3f516ba3620e12c7d", func := "heliograph/heliographlaw12.CollectKids", spec := "collectKids", inPlace := ["internal/bytealg.abigen_runtime_cmpstring"], unfollowed := true, recurses := true, apart := false, narrowed := true }
def CollectKidsUptoSaid : Prop := collectKidsUptoRow.holds Try.pinned (OpenSpec.upto collectKidsSpec)

end Rows
end Go.Proofs.Ytlafjddidlofcaa
