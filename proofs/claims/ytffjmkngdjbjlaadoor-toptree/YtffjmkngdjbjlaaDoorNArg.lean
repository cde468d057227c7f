/- Bytes that are handed in, as they are read. -/
import Derived.Test.YtffjmkngdjbjlaaDoorNt1
import Derived.OpenShut
import Derived.ChangeSame
import Derived.ChangeSlices
namespace Go.Proofs.YtffjmkngdjbjlaaDoor
open Go.RowKit Go.ChangeShapes Go.WideShapes

theorem bytes_read {H : Type} {enc : TypeId × Value → H} {W : World} {base : Nat} {held : Bool} {fuel : Nat} {v : Value} {x : DataW H × List MemPlace} (h : DataW.trod enc Tryd.prog W base (fun _ => true) held fuel 45 [v] = some x) :
    ∃ ba l cap, v = .slice ba l.length cap ∧ l.length ≤ cap ∧ BytesIn W.heap.size W ba l := by
  rcases open_ints Tryd.underlying45 Tryd.underlying5 (by kernel_rfl) h with ⟨hcs, _⟩ | ⟨a, len, cap, zs, hcs, _, hl, _, hz, _, hcell, hwz⟩
  · cases hcs
    exact ⟨none, [], 0, rfl, Nat.le_refl _, fun j c hj => by simp at hj⟩
  · cases hcs
    simp only [if_true] at hz
    refine ⟨some a, (zs.take len).map (fun z => UInt8.ofNat z.toNat), cap, by simp [List.length_take]; omega, by simp [List.length_take]; omega, fun j c hj => ?_⟩
    have hlt : j < len := by
      have := (List.getElem?_eq_some_iff.1 hj).1
      simp [List.length_take] at this
      omega
    obtain ⟨b, o, rfl, hc⟩ := ints_at hcell (by omega)
    have hcj := hc j (by omega)
    refine ⟨b, o, rfl, World.block_lt_of_cell? W _ hcj, ?_⟩
    rw [hcj]
    have hzj : zs[j]? = some (zs.getD j 0) := by
      rw [List.getD_eq_getElem?_getD, List.getElem?_eq_getElem (by omega)]
      rfl
    have hw := hwz _ (List.mem_of_getElem? hzj)
    have hb := bounds_u8 hw
    rw [List.getElem?_map, List.getElem?_take_of_lt hlt, hzj] at hj
    cases hj
    have : ((UInt8.ofNat (zs.getD j 0).toNat).toNat : Int) = zs.getD j 0 := by
      rw [UInt8.toNat_ofNat']
      omega
    rw [this]
end Go.Proofs.YtffjmkngdjbjlaaDoor
