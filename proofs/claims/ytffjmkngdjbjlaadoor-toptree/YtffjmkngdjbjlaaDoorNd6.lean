/- Those who are told: sorted, each once; none is struck. -/
import Derived.Test.YtffjmkngdjbjlaaDoorNd5
import Derived.Test.YtffjmkngdjbjlaaDoorQF
import Derived.Shelf.Slices.In.SortAlone
import Derived.Shelf.Slices.In.SortNone
import Derived.Shelf.Slices.In.CompactS
import Derived.Sort.EveryDepth
import Derived.Sort.OwnSorted
namespace Go.Proofs.YtffjmkngdjbjlaaDoor
open Go.RowKit Go.Sort Go.Shelf

def ofS (l : Str) : ByteArray := ⟨l.toArray⟩
theorem ofS_toList (a : ByteArray) : ofS a.toList = a := ba_ext (by rw [ByteArray.toList_eq, ByteArray.toList_eq]; simp [ofS])
theorem toList_ofS (l : Str) : (ofS l).toList = l := by rw [ByteArray.toList_eq]; simp [ofS]
/-- Texts, sorted. -/
def sortS (ks : List ByteArray) : List ByteArray := ((ks.map ByteArray.toList).mergeSort fun x y => decide (x ≤ y)).map ofS
theorem sortS_len (ks : List ByteArray) : (sortS ks).length = ks.length := by simp [sortS]
theorem strC_enc (ks : List ByteArray) : strC ks = (ks.map ByteArray.toList).map encStr := by
  unfold strC
  rw [List.map_map]
  apply List.map_congr_left
  intro x _
  show Value.string x = Value.string (ofS x.toList)
  rw [ofS_toList]
theorem sort_any (base : Nat) (v : Value) (ks : List ByteArray) (w : World) (h : w.ownsRow base 9 1 v ks.length (strC ks)) (hs : ks.length ≤ 1000000) :
    Calls Tryd.prog 53 #[v] w fun e w' => e = .returned (.tuple #[]) ∧ w'.ownsRow base 9 1 v ks.length (strC (sortS ks)) ∧ w.grownBy w' v.ownBlock := by
  obtain ⟨h1, ⟨rfl, h2⟩ | ⟨g, cap, cur, rfl, x1, x2, x3, x4, x5, x6⟩⟩ := h
  · have hk : ks = [] := List.eq_nil_of_length_eq_zero h2
    subst hk
    refine (calls_of_every_depth fun D => AnyS.slices_Sort_string_none_alone lays190 D none 0 w).mono ?_
    rintro e w' ⟨rfl, rfl⟩
    refine ⟨rfl, ?_, World.grownBy.refl _ _⟩
    rw [show sortS [] = [] by simp [sortS]]
    exact World.ownsRow_nil _ _ _ _
  · have hl : (ks.map ByteArray.toList).length = ks.length := by simp
    have hH : Holds encStr w g 0 (ks.map ByteArray.toList).toArray := holds_of_block x2 (by
      rw [hl, ← strC_enc, ← x6, Nat.mul_one])
    have hc := calls_of_every_depth fun D => AnyS.slices_Sort_string_alone lays190 D g 0 cap (ks.map ByteArray.toList) w hH (hp_lt x2) (by rw [hl]; omega)
    rw [hl] at hc
    refine Calls.mono hc ?_
    rintro e w' ⟨rfl, n, os, rfl⟩
    have ho := ownsRow_sorted (w := w) (base := base) (g := g) (cap := cap) (n := n) (e := 9) (os := os) (cur := cur) (ss := ks.map ByteArray.toList) (ts := (ks.map ByteArray.toList).mergeSort fun x y => decide (x ≤ y)) (by simp) x1 x2 (by rw [hl]; exact x3) x4 x5
    rw [hl] at ho
    refine ⟨rfl, ?_, grownBy_sorted _⟩
    have he : strC (sortS ks) = ((ks.map ByteArray.toList).mergeSort fun x y => decide (x ≤ y)).map encStr := by
      unfold strC sortS
      rw [List.map_map]
      rfl
    rw [he]
    exact ho
/-- Compact, where no two neighbours are alike. -/
theorem compact_any (base : Nat) (v : Value) (ks : List ByteArray) (w : World) (h : w.ownsRow base 9 1 v ks.length (strC ks)) (hs : ks.length ≤ 1000000) (hc : Lib.compact (ks.map ByteArray.toList) = ks.map ByteArray.toList) :
    Calls Tryd.prog 54 #[v] w fun e w' => e = .returned v ∧ Below w.heap.size w w' := by
  obtain ⟨h1, ⟨rfl, h2⟩ | ⟨g, cap, cur, rfl, x1, x2, x3, x4, x5, x6⟩⟩ := h
  · refine (calls_of_every_depth fun D => AnyS.slices_Compact_string_empty_in lays194 D none 0 w).mono ?_
    rintro e w' ⟨rfl, rfl⟩
    exact ⟨rfl, Below.refl _ _⟩
  · have hl : (ks.map ByteArray.toList).length = ks.length := by simp
    have hH : Holds encStr w g 0 (ks.map ByteArray.toList).toArray := holds_of_block x2 (by
      rw [hl, ← strC_enc, ← x6, Nat.mul_one])
    have hcc := calls_of_every_depth fun D => AnyS.slices_Compact_string_in lays194 D g 0 cap (ks.map ByteArray.toList) w hH (by rw [hl]; omega) (by rw [hl]; exact x3)
    rw [hc, hl] at hcc
    refine Calls.mono hcc ?_
    rintro e w' ⟨rfl, q, rfl⟩
    refine ⟨rfl, ?_⟩
    rw [Nat.sub_self, List.replicate_zero, List.append_nil, putRow_self encStr (Sort.ahead w q) g 0 _ (holds_ahead encStr w q g 0 _ hH)]
    exact ⟨rfl, rfl, rfl, Nat.le_refl _, fun _ _ => rfl⟩
end Go.Proofs.YtffjmkngdjbjlaaDoor
