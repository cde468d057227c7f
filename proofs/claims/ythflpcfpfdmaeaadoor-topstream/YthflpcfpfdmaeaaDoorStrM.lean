/- Strings that a law builds. -/
import Derived.Test.YthflpcfpfdmaeaaDoorBarM
import Derived.Laws.IdiomStrings
namespace Go.Proofs.YthflpcfpfdmaeaaDoor.Xm
open Go.RowKit

/-- The letter of a byte. -/
def letB (c : UInt8) : UInt8 := UInt8.ofNat (97 + c.toNat % 26)
theorem letB_nat (c : UInt8) : (letB c).toNat = 97 + c.toNat % 26 := by
  unfold letB
  rw [UInt8.toNat_ofNat']
  omega
theorem small_more {l : List UInt8} (h : Small l) (c : UInt8) : Small (l ++ [letB c]) := by
  intro b hb
  rcases List.mem_append.1 hb with hb | hb
  · exact h b hb
  · rw [List.mem_singleton.1 hb, letB_nat]
    omega
theorem conv_one (c : UInt8) (w : World) : (convert 38 9 (.slice (some ⟨w.heap.size, 0, none⟩) 1 1)).run Tryd.prog (w.alloc (.cells #[.int .u8 (97 + (c.toNat : Int) % 26)] 5)) = .ok (.string ⟨[letB c].toArray⟩) (w.alloc (.cells #[.int .u8 (97 + (c.toNat : Int) % 26)] 5)) :=
  run_convert_bytes_back (P := Tryd.prog) _ 38 9 5 ⟨w.heap.size, 0, none⟩ 1 [letB c] Tryd.underlying38 Tryd.underlying5 Tryd.underlying9 (fun j hj => by
    have hj0 : j = 0 := by simpa using hj
    subst hj0
    have e : ((letB c).toNat : Int) = 97 + (c.toNat : Int) % 26 := by rw [letB_nat]; omega
    have h : ∀ W : World, W.heap[w.heap.size]? = some (.cells #[.int .u8 (97 + (c.toNat : Int) % 26)] 5) → W.cell? ⟨w.heap.size, 0, none⟩ = some (.int .u8 ((letB c).toNat : Int)) := fun W hW => by
      rw [e]
      simp [World.cell?, hW]
    exact h _ (World.alloc_heap_new w _))
theorem add_two (a b : List UInt8) (h : a.length + b.length ≤ 100000) : ∀ w : World, (Op.stringOp .add ⟨a.toArray⟩ ⟨b.toArray⟩).run Tryd.prog w = .ok (.string ⟨(a ++ b).toArray⟩) w := fun w => by
  rw [run_string_add_sum w _ _ (by show a.toArray.size + b.toArray.size ≤ _; simp; omega), ByteArray.mk_append_mk]
theorem add_one (a : List UInt8) (c : UInt8) (h : a.length ≤ 1000) : ∀ w : World, (Op.stringOp .add ⟨a.toArray⟩ ⟨[c].toArray⟩).run Tryd.prog w = .ok (.string ⟨(a ++ [c]).toArray⟩) w := add_two a [c] (by simp; omega)
/-- Bytes of a text, in a block of their own. -/
theorem to_bytes (s : ByteArray) (w : World) : ∃ W cap, (convert 9 38 (.string s)).run Tryd.prog w = .ok (.slice (some ⟨w.heap.size, 0, none⟩) s.size cap) W ∧ (∃ cs fr, W.heap[w.heap.size]? = some (.cells cs 5 fr) ∧ ∀ (j : Nat) (c : UInt8), s.data.toList[j]? = some c → cs[j]? = some (Value.int .u8 c.toNat)) ∧ W.heap.size = w.heap.size + 1 ∧ Below w.heap.size w W := by
  refine ⟨_, _, run_bytes_of_string w 9 38 5 s Tryd.underlying9 Tryd.underlying38 Tryd.underlying5, ⟨_, _, World.alloc_heap_new w.drew _, fun j c hj => ?_⟩, by simp, ((Below.refl _ w).drew).alloc (Nat.le_refl _) _⟩
  have hlt := (List.getElem?_eq_some_iff.1 hj).1
  rw [Array.length_toList] at hlt
  unfold bytesRow
  rw [Array.getElem?_append_left (by rw [Array.size_map]; exact hlt), Array.getElem?_map]
  rw [Array.getElem?_toList] at hj
  rw [hj]
  rfl
end Go.Proofs.YthflpcfpfdmaeaaDoor.Xm
