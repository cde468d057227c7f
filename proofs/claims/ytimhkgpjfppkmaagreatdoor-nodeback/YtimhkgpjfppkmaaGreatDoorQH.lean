/- Those who are told: sorted, each once; none is struck. Fan: none of those who are told is struck; where a node stands. -/
import Derived.Test.YtimhkgpjfppkmaaGreatDoorNd5
import Derived.Test.YtimhkgpjfppkmaaGreatDoorQF
namespace Go.Proofs.YtimhkgpjfppkmaaGreatDoor
open Go.RowKit Go.Sort Go.Shelf

def ofS (l : Str) : ByteArray := ⟨l.toArray⟩
theorem ofS_toList (a : ByteArray) : ofS a.toList = a := ba_ext (by rw [ByteArray.toList_eq, ByteArray.toList_eq]; simp [ofS])
theorem toList_ofS (l : Str) : (ofS l).toList = l := by rw [ByteArray.toList_eq]; simp [ofS]
/-- Texts, sorted. -/
def sortS (ks : List ByteArray) : List ByteArray := ((ks.map ByteArray.toList).mergeSort fun x y => decide (x ≤ y)).map ofS
theorem sortS_len (ks : List ByteArray) : (sortS ks).length = ks.length := by simp [sortS]
end Go.Proofs.YtimhkgpjfppkmaaGreatDoor
namespace Go.Proofs.YtimhkgpjfppkmaaGreatDoor
open Go.RowKit

theorem own_str {w : World} {base n j : Nat} {v : Value} {ks : List ByteArray} {u : ByteArray} (h : w.ownsRow base 9 1 v n (strC ks)) (hj : ks[j]? = some u) : ∃ g gc, v = .slice (some ⟨g, 0, none⟩) n gc ∧ n ≤ gc ∧ g < w.heap.size ∧ w.cell? ⟨g, j, none⟩ = some (.string u) := by
  have hlt := (List.getElem?_eq_some_iff.1 hj).1
  obtain ⟨h1, ⟨_, h3⟩ | ⟨g, cap, cur, hv, x1, x2, x3, x4, x5, x6⟩⟩ := h
  · have : (strC ks).length = ks.length := by simp [strC]
    omega
  · refine ⟨g, cap, hv, x3, (Array.getElem?_eq_some_iff.1 x2).1, ?_⟩
    have hc : (strC ks)[j]? = some (.string u) := by simp [strC, hj]
    rw [← x6] at hc
    have hl2 := (List.getElem?_eq_some_iff.1 hc).1
    simp at hl2
    rw [List.getElem?_take_of_lt (by omega)] at hc
    simp [World.cell?, x2]
    simpa using hc
end Go.Proofs.YtimhkgpjfppkmaaGreatDoor
