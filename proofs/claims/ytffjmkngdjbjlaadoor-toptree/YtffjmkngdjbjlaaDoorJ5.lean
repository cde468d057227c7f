/- Addresses: what must be whatever is asked. -/
import Derived.Test.YtffjmkngdjbjlaaDoorJ4
namespace Go.Proofs.YtffjmkngdjbjlaaDoor
open Go.RowKit

theorem str_ext {a b : ByteArray} (h : a.data.toList = b.data.toList) : a = b := by
  rw [← arr_self a, ← arr_self b, h]
theorem right_sum {x y z : ByteArray} (h : RightJ (jl x y z)) : x.size + y.size + z.size ≤ 64 := by
  have h4 : ((if x.data.toList = [] then [] else x.data.toList ++ [64]) ++ (y.data.toList ++ (if z.data.toList = [] then [] else 47 :: z.data.toList))).length ≤ 64 := h.2.2.2
  rw [List.length_append, List.length_append] at h4
  have e1 : x.size ≤ (if x.data.toList = [] then [] else x.data.toList ++ [64]).length := by
    split
    · rename_i h; rw [← size_list, h]; simp
    · rw [List.length_append, size_list]; simp
  have e2 : z.size ≤ (if z.data.toList = [] then [] else 47 :: z.data.toList).length := by
    split
    · rename_i h; rw [← size_list, h]; simp
    · rw [List.length_cons, size_list]; omega
  have e3 : y.data.toList.length = y.size := size_list y
  omega
theorem newJ (w : World) (x y z : Value) : ∃ W, w.alloc (.cells #[x, y, z] 119) = W ∧ W.heap[w.heap.size]? = some (.cells #[x, y, z] 119) ∧ Below w.heap.size w W ∧ W.heap.size = w.heap.size + 1 :=
  ⟨_, rfl, World.alloc_heap_new _ _, (Below.refl _ _).alloc (Nat.le_refl _) _, by simp⟩
def romeo : ByteArray := ⟨#[114, 111, 109, 101, 111]⟩
def exNet : ByteArray := ⟨#[101, 120, 97, 109, 112, 108, 101, 46, 110, 101, 116]⟩
def orchard : ByteArray := ⟨#[111, 114, 99, 104, 97, 114, 100]⟩
theorem field2 (x y z : ByteArray) (w : World) : (Instr.field 119 (.agg #[.string x, .string y, .string z]) 2).run Tryd.prog w = .ok (.string z) w := by kernel_rfl
theorem live_right : RightJ (jl romeo exNet orchard) := by decide
set_option maxRecDepth 100000 in
theorem live_parse (w : World) (hm : MaxG w) (h1 : 2 < w.heap.size) : Calls Tryd.prog 81 #[.string ⟨#[114, 111, 109, 101, 111, 64, 101, 120, 97, 109, 112, 108, 101, 46, 110, 101, 116, 47, 111, 114, 99, 104, 97, 114, 100]⟩] w fun e w' => e = .returned (.tuple #[.agg #[.string romeo, .string exNet, .string orchard], .int .i64 0]) ∧ Below w.heap.size w w' := by
  refine (parse_any _ w (by decide) hm h1).mono ?_
  have ht : textJ (jl romeo exNet orchard) = [114, 111, 109, 101, 111, 64, 101, 120, 97, 109, 112, 108, 101, 46, 110, 101, 116, 47, 111, 114, 99, 104, 97, 114, 100] := by decide
  have hp := parse_text live_right
  rw [ht] at hp
  rintro e w' ⟨⟨j, hj, rfl⟩ | ⟨hj, rfl⟩, hb⟩
  · have : some (jl romeo exNet orchard) = some j := hp.symm.trans hj
    cases this
    exact ⟨rfl, hb⟩
  · have : some (jl romeo exNet orchard) = none := hp.symm.trans hj
    cases this
end Go.Proofs.YtffjmkngdjbjlaaDoor
