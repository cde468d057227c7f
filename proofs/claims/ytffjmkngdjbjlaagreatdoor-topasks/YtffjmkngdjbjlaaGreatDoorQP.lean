/- The list of variables of the laws of nodes: what it says of a world; a world in which it holds. -/
import Derived.Test.YtffjmkngdjbjlaaGreatDoorQS
import Derived.Test.YtffjmkngdjbjlaaGreatDoorRows
import Derived.Test.YtffjmkngdjbjlaaGreatDoorShelfV
import Derived.LaidLaws
import Derived.ChangeSame
import Derived.OpenShut
import Derived.Lib.LaidU8T
import Derived.Shelf.Vars
namespace Go.Proofs.YtffjmkngdjbjlaaGreatDoor
open Go.RowKit

def textLaid : List (String × DataW Unit) := [("unicode/utf8.acceptRanges", Rows.laid_unicode_utf8_acceptRanges), ("unicode/utf8.first", Rows.laid_unicode_utf8_first)]
theorem first_eq : Rows.laid_unicode_utf8_first = Lib.firstData := by kernel_rfl
theorem accept_eq : (Rows.laid_unicode_utf8_acceptRanges : DataW Unit) = Lib.acceptData := by kernel_rfl
theorem max_lt {W : World} (h : MaxG W) : 2 < W.heap.size := by
  obtain ⟨m, hm⟩ := h
  exact World.block_lt_of_cell? W _ hm
theorem text_laid {W : World} (h : laidMet Tryz.prog textLaid W) (hsh : W.ShapedOpen Tryz.prog) : Glob W := by
  have hM : MaxG W := cell_of_shapedOpen_int (P := Tryz.prog) (g := 2) (t := 3) (zero := #[.int .i64 0]) hsh (of_decide_eq_true (by kernel_rfl)) (by kernel_rfl) rfl (by kernel_rfl) (by kernel_rfl) Tryz.underlying3
  refine ⟨hM, max_lt hM, ?_⟩
  have h1 := Lib.laidMet.reads h (n := "unicode/utf8.first") (d := Rows.laid_unicode_utf8_first) (by simp [textLaid])
  have h2 := Lib.laidMet.reads h (n := "unicode/utf8.acceptRanges") (d := Rows.laid_unicode_utf8_acceptRanges) (by simp [textLaid])
  rw [first_eq] at h1
  rw [accept_eq] at h2
  exact utf8Tabs_of_readsT (U8Types.of196 Tryz.lays196) ⟨by kernel_rfl, by kernel_rfl, by kernel_rfl, by kernel_rfl, by kernel_rfl, by kernel_rfl, by kernel_rfl⟩ h1 h2
def lay (cs : Array Value) : Obj → Obj
  | .cells _ t frozen => .cells cs t frozen
  | o => o
def firstCs : Array Value := (Lib.firstTab.map fun z => Value.int .u8 z).toArray
def acceptCs : Array Value := ((List.range 16).flatMap fun i => [Value.int .u8 (Lib.accLo i), Value.int .u8 (Lib.accHi i)]).toArray
theorem text_met (os : Os) (args : Array Value) : laidMet Tryz.prog textLaid (({ World.holding Tryz.prog os ⟨#[], #[], []⟩ with heap := ((World.holding Tryz.prog os ⟨#[], #[], []⟩).heap.modify 0 (lay firstCs)).modify 1 (lay acceptCs) } : World).forCall (fun _ _ => 0) ⟨#[], args, []⟩).memory :=
  laidMet_of_run' 8 (by kernel_rfl) (by kernel_rfl)
end Go.Proofs.YtffjmkngdjbjlaaGreatDoor
