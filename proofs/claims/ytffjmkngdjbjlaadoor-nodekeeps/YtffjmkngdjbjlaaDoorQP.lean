/- The list of variables of the laws of nodes: what it says of a world; a world in which it holds. Bytes that are handed in, as they are read. -/
import Derived.Test.YtffjmkngdjbjlaaDoorQS
import Derived.Test.YtffjmkngdjbjlaaDoorRows
import Derived.Test.YtffjmkngdjbjlaaDoorShelfV
import Derived.LaidLaws
import Derived.ChangeSame
import Derived.OpenShut
import Derived.Lib.LaidU8T
import Derived.Shelf.Vars
import Derived.Test.YtffjmkngdjbjlaaDoorQJ
import Derived.ChangeSlices
namespace Go.Proofs.YtffjmkngdjbjlaaDoor
open Go.RowKit

def textLaid : List (String × DataW Unit) := [("unicode/utf8.acceptRanges", Rows.laid_unicode_utf8_acceptRanges), ("unicode/utf8.first", Rows.laid_unicode_utf8_first)]
theorem first_eq : Rows.laid_unicode_utf8_first = Lib.firstData := by kernel_rfl
theorem accept_eq : (Rows.laid_unicode_utf8_acceptRanges : DataW Unit) = Lib.acceptData := by kernel_rfl
theorem max_lt {W : World} (h : MaxG W) : 2 < W.heap.size := by
  obtain ⟨m, hm⟩ := h
  exact World.block_lt_of_cell? W _ hm
theorem text_laid {W : World} (h : laidMet Tryd.prog textLaid W) (hsh : W.ShapedOpen Tryd.prog) : Glob W := by
  have hM : MaxG W := cell_of_shapedOpen_int (P := Tryd.prog) (g := 2) (t := 3) (zero := #[.int .i64 0]) hsh (of_decide_eq_true (by kernel_rfl)) (by kernel_rfl) rfl (by kernel_rfl) (by kernel_rfl) Tryd.underlying3
  refine ⟨hM, max_lt hM, ?_⟩
  have h1 := Lib.laidMet.reads h (n := "unicode/utf8.first") (d := Rows.laid_unicode_utf8_first) (by simp [textLaid])
  have h2 := Lib.laidMet.reads h (n := "unicode/utf8.acceptRanges") (d := Rows.laid_unicode_utf8_acceptRanges) (by simp [textLaid])
  rw [first_eq] at h1
  rw [accept_eq] at h2
  exact utf8Tabs_of_readsT (U8Types.of196 Tryd.lays196) ⟨by kernel_rfl, by kernel_rfl, by kernel_rfl, by kernel_rfl, by kernel_rfl, by kernel_rfl, by kernel_rfl⟩ h1 h2
def lay (cs : Array Value) : Obj → Obj
  | .cells _ t frozen => .cells cs t frozen
  | o => o
def firstCs : Array Value := (Lib.firstTab.map fun z => Value.int .u8 z).toArray
def acceptCs : Array Value := ((List.range 16).flatMap fun i => [Value.int .u8 (Lib.accLo i), Value.int .u8 (Lib.accHi i)]).toArray
theorem text_met (os : Os) (args : Array Value) : laidMet Tryd.prog textLaid (({ World.holding Tryd.prog os ⟨#[], #[], []⟩ with heap := ((World.holding Tryd.prog os ⟨#[], #[], []⟩).heap.modify 0 (lay firstCs)).modify 1 (lay acceptCs) } : World).forCall (fun _ _ => 0) ⟨#[], args, []⟩).memory :=
  laidMet_of_run' 8 (by kernel_rfl) (by kernel_rfl)
end Go.Proofs.YtffjmkngdjbjlaaDoor
namespace Go.Proofs.YtffjmkngdjbjlaaDoor
open Go.RowKit Go.ChangeShapes Go.WideShapes

theorem bytes_read {H : Type} {enc : TypeId × Value → H} {W : World} {base : Nat} {held : Bool} {fuel : Nat} {v : Value} {x : DataW H × List MemPlace} (h : DataW.trod enc Tryd.prog W base (fun _ => true) held fuel 45 [v] = some x) :
    ∃ ba l cap, v = .slice ba l.length cap ∧ l.length ≤ cap ∧ BytesIn W.heap.size W ba l := by
  rcases open_ints Tryd.underlying45 Tryd.underlying5 (by kernel_rfl) h with ⟨hcs, _⟩ | ⟨a, len, cap, zs, hcs, _, hl, _, hz, _, hcell, hwz⟩
  · cases hcs
    exact ⟨none, [], 0, rfl, Nat.le_refl _, fun j c hj => by simp at hj⟩
  · cases hcs
    simp only [if_true] at hz
    refine ⟨some a, (zs.take len).map (fun z => UInt8.ofNat z.toNat), cap, by simp [List.length_take]; omega, by simp [List.length_take]; omega, fun j c hj => ?_⟩
    have hlt : j < len := by
      have := (List.getElem?_eq_some_iff.1 hj).1
      simp [List.length_take] at this
      omega
    obtain ⟨b, o, rfl, hc⟩ := ints_at hcell (by omega)
    have hcj := hc j (by omega)
    refine ⟨b, o, rfl, World.block_lt_of_cell? W _ hcj, ?_⟩
    rw [hcj]
    have hzj : zs[j]? = some (zs.getD j 0) := by
      rw [List.getD_eq_getElem?_getD, List.getElem?_eq_getElem (by omega)]
      rfl
    have hw := hwz _ (List.mem_of_getElem? hzj)
    have hb := bounds_u8 hw
    rw [List.getElem?_map, List.getElem?_take_of_lt hlt, hzj] at hj
    cases hj
    have : ((UInt8.ofNat (zs.getD j 0).toNat).toNat : Int) = zs.getD j 0 := by
      rw [UInt8.toNat_ofNat']
      omega
    rw [this]
end Go.Proofs.YtffjmkngdjbjlaaDoor
