/- Addresses: what must be whatever is asked. -/
import Derived.Test.YtgdbhijlblafcaaJ4
namespace Go.Proofs.Ytgdbhijlblafcaa
open Go.RowKit

theorem str_ext {a b : ByteArray} (h : a.data.toList = b.data.toList) : a = b := by
  rw [← arr_self a, ← arr_self b, h]
theorem right_sum {x y z : ByteArray} (h : RightJ (jl x y z)) : x.size + y.size + z.size ≤ 64 := by
  have h4 : ((if x.data.toList = [] then [] else x.data.toList ++ [64]) ++ (y.data.toList ++ (if z.data.toList = [] then [] else 47 :: z.data.toList))).length ≤ 64 := h.2.2.2
  rw [List.length_append, List.length_append] at h4
  have e1 : x.size ≤ (if x.data.toList = [] then [] else x.data.toList ++ [64]).length := by
    split
    · rename_i h; rw [← size_list, h]; simp
    · rw [List.length_append, size_list]; simp
  have e2 : z.size ≤ (if z.data.toList = [] then [] else 47 :: z.data.toList).length := by
    split
    · rename_i h; rw [← size_list, h]; simp
    · rw [List.length_cons, size_list]; omega
  have e3 : y.data.toList.length = y.size := size_list y
  omega
theorem newJ (w : World) (x y z : Value) : ∃ W, w.alloc (.cells #[x, y, z] 23) = W ∧ W.heap[w.heap.size]? = some (.cells #[x, y, z] 23) ∧ Below w.heap.size w W ∧ W.heap.size = w.heap.size + 1 :=
  ⟨_, rfl, World.alloc_heap_new _ _, (Below.refl _ _).alloc (Nat.le_refl _) _, by simp⟩
def romeo : ByteArray := ⟨#[114, 111, 109, 101, 111]⟩
def exNet : ByteArray := ⟨#[101, 120, 97, 109, 112, 108, 101, 46, 110, 101, 116]⟩
def orchard : ByteArray := ⟨#[111, 114, 99, 104, 97, 114, 100]⟩
theorem field2 (x y z : ByteArray) (w : World) : (Instr.field 23 (.agg #[.string x, .string y, .string z]) 2).run Try.prog w = .ok (.string z) w := by kernel_rfl
theorem live_right : RightJ (jl romeo exNet orchard) := by decide
set_option maxRecDepth 100000 in
theorem live_parse (w : World) (hm : MaxG w) (h1 : 0 < w.heap.size) : Calls Try.prog 11 #[.string ⟨#[114, 111, 109, 101, 111, 64, 101, 120, 97, 109, 112, 108, 101, 46, 110, 101, 116, 47, 111, 114, 99, 104, 97, 114, 100]⟩] w fun e w' => e = .returned (.tuple #[.agg #[.string romeo, .string exNet, .string orchard], .int .i64 0]) ∧ Below w.heap.size w w' := by
  refine (parse_any _ w (by decide) hm h1).mono ?_
  have ht : textJ (jl romeo exNet orchard) = [114, 111, 109, 101, 111, 64, 101, 120, 97, 109, 112, 108, 101, 46, 110, 101, 116, 47, 111, 114, 99, 104, 97, 114, 100] := by decide
  have hp := parse_text live_right
  rw [ht] at hp
  rintro e w' ⟨⟨j, hj, rfl⟩ | ⟨hj, rfl⟩, hb⟩
  · have : some (jl romeo exNet orchard) = some j := hp.symm.trans hj
    cases this
    exact ⟨rfl, hb⟩
  · have : some (jl romeo exNet orchard) = none := hp.symm.trans hj
    cases this
set_option maxRecDepth 100000 in
theorem live_any (w : World) (hm : MaxG w) (h1 : 0 < w.heap.size) : Calls Try.prog 7 #[] w fun e w' => e = .returned (.bool true) ∧ Below w.heap.size w w' := by
  have HM := hide hm
  have hp := hide (live_parse w hm h1)
  clear hm
  go_enter Try.func7, Try.ntmps7
  go_wp2_with fail
  refine hp.out.mono ?_
  rintro e w2 ⟨rfl, hb2⟩
  obtain ⟨W3, hW3, a3, b3, z3⟩ := newJ w2 (.string romeo) (.string exNet) (.string orchard)
  obtain ⟨c0, c1, c2, _⟩ := cells3 a3
  have hz2 := hb2.size
  have hb3 := hb2.trans (b3.mono (by omega))
  have hba := hide (bare_any romeo exNet orchard W3)
  have H3 := hide (And.intro a3 hb3)
  clear hb2 b3 hb3 a3 hp
  have e1 : romeo.toList = (⟨#[114, 111, 109, 101, 111]⟩ : ByteArray).toList := rfl
  have e2 : exNet.toList = (⟨#[101, 120, 97, 109, 112, 108, 101, 46, 110, 101, 116]⟩ : ByteArray).toList := rfl
  have e3 : orchard.toList = (⟨#[111, 114, 99, 104, 97, 114, 100]⟩ : ByteArray).toList := rfl
  go_wp2_with fail
  refine hba.out.mono ?_
  rintro e w4 ⟨rfl, hb4⟩
  have a4 := (hb4.block w2.heap.size (by omega)).trans H3.out.1
  obtain ⟨d0, d1, d2, _⟩ := cells3 a4
  have hb4' := H3.out.2.trans (hb4.mono (by omega))
  have hz4 := hb4.size
  have hr := right_any romeo exNet orchard w4 (by decide) (HM.out.below hb4' h1) (by omega)
  rw [decide_eq_true live_right] at hr
  have HR := hide hr
  have H4 := hide hb4'
  clear hb4 hb4' a4 hr hba c0 c1 c2
  unfold emp
  have hfd := field2 romeo exNet ⟨#[]⟩ w4
  go_wp2_with fail
  refine HR.out.mono ?_
  rintro e w5 ⟨rfl, hb5⟩
  have H5 := hide (H4.out.trans (hb5.mono (by omega)))
  clear hb5
  go_wp2_with fail
  go_ret
  exact ⟨rfl, H5.out⟩
end Go.Proofs.Ytgdbhijlblafcaa
