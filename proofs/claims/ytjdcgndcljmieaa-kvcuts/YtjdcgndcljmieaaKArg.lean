/- Deeds on maps as they are handed in: what a reading of them says of memory. -/
import Derived.Test.YtjdcgndcljmieaaK9
import Derived.Deep.Slices
import Derived.ChangeSame
import Derived.SizedLaws
import Derived.OpenShut
import Derived.Deep.Strs
namespace Go.Proofs.Ytjdcgndcljmieaa
open Go.RowKit Go.Deep Go.ChangeShapes Go.WideShapes

/-- A deed. -/
structure Dk where
  kind : Int
  key : ByteArray
  val : ByteArray
def dkC (x : Dk) : Array Value := #[.int .i64 x.kind, .string x.key, .string x.val]
section
variable {H : Type} {enc : TypeId × Value → H} {W : World} {fuel : Nat}
instance : Inhabited Dk := ⟨⟨0, ⟨#[]⟩, ⟨#[]⟩⟩⟩
theorem cellsInt : Try.prog.cellsOf 3 = 1 := by kernel_rfl
theorem cellsStr : Try.prog.cellsOf 9 = 1 := by kernel_rfl
theorem cellsDeed : Try.prog.cellsOf 48 = 3 := by kernel_rfl
/-- A deed, by its cells. -/
theorem kdeed_read {cs : List Value} {x : DataW H × List MemPlace} (h : DataW.trod enc Try.prog W 0 (fun _ => true) true fuel 48 cs = some x) (hl : cs.length = 3) :
    ∃ y : Dk, cs = [.int .i64 y.kind, .string y.key, .string y.val] := by
  match cs, hl with
  | [c0, c1, c2], _ =>
  obtain ⟨xs, m, _, rfl, _, hlen, hf⟩ := DataW.trod_struct Try.underlying48 h
  match xs, hlen with
  | [y0, y1, y2], _ =>
  have h0 : DataW.trod enc Try.prog W 0 (fun _ => true) true m 3 _ = some y0 := hf 0 _ rfl
  have h1 : DataW.trod enc Try.prog W 0 (fun _ => true) true m 9 _ = some y1 := hf 1 _ rfl
  have h2 : DataW.trod enc Try.prog W 0 (fun _ => true) true m 9 _ = some y2 := hf 2 _ rfl
  obtain ⟨z0, e0, _, w0⟩ := DataW.trod_int Try.underlying3 h0
  obtain ⟨z1, e1, _⟩ := DataW.trod_string Try.underlying9 h1
  obtain ⟨z2, e2, _⟩ := DataW.trod_string Try.underlying9 h2
  simp [cellsInt, cellsStr] at e0 e1 e2
  subst e0 e1 e2
  exact ⟨⟨z0, z1, z2⟩, rfl⟩
end
end Go.Proofs.Ytjdcgndcljmieaa
