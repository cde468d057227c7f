/- Plain facts on bytes: runes that are decoded, entities. No Go text is walked here. -/
import Derived.Lib.OthersKept
import Derived.Laws.RangeAny
import Derived.Below
namespace Go.Proofs.YtimhkgpjfppkmaaDoor
open Go.RowKit

theorem get_bang (s : ByteArray) (j : Nat) (h : j < s.size) : s.get! j = s[j] := by
  simp [ByteArray.get!, getElem!_pos, h]
  rfl
theorem cont_high (s : ByteArray) (j : Nat) (h : (decide (j < s.size) && (s.get! j).toNat / 64 == 2) = true) : ∃ hj : j < s.size, 128 ≤ s[j].toNat := by
  rw [Bool.and_eq_true, decide_eq_true_eq, beq_iff_eq] at h
  refine ⟨h.1, ?_⟩
  rw [← get_bang s j h.1]
  omega
/-- The bytes of a rune behind its first one are high. -/
theorem decode_cont (s : ByteArray) (pos j : Nat) (h1 : pos < j) (h2 : j < pos + (Utf8.decode s pos).2) : ∃ hj : j < s.size, 128 ≤ s[j].toNat := by
  simp only [Utf8.decode] at h2
  split at h2
  · exact absurd h2 (by simp; omega)
  · split at h2
    · rename_i _ hc
      rw [Bool.and_eq_true] at hc
      split at h2
      · obtain rfl : j = pos + 1 := by simp at h2; omega
        exact cont_high s _ hc.2
      · exact absurd h2 (by simp; omega)
    · split at h2
      · rename_i _ _ hc
        rw [Bool.and_eq_true, Bool.and_eq_true] at hc
        split at h2
        · have : j = pos + 1 ∨ j = pos + 2 := by simp at h2; omega
          rcases this with rfl | rfl
          · exact cont_high s _ hc.1.2
          · exact cont_high s _ hc.2
        · exact absurd h2 (by simp; omega)
      · split at h2
        · rename_i _ _ _ hc
          rw [Bool.and_eq_true, Bool.and_eq_true, Bool.and_eq_true] at hc
          split at h2
          · have : j = pos + 1 ∨ j = pos + 2 ∨ j = pos + 3 := by simp at h2; omega
            rcases this with rfl | rfl | rfl
            · exact cont_high s _ hc.1.1.2
            · exact cont_high s _ hc.1.2
            · exact cont_high s _ hc.2
          · exact absurd h2 (by simp; omega)
        · exact absurd h2 (by simp; omega)
theorem decode_width (s : ByteArray) (pos : Nat) (h : pos < s.size) : 1 ≤ (Utf8.decode s pos).2 ∧ pos + (Utf8.decode s pos).2 ≤ s.size := by
  have h1 : 1 ≤ (Utf8.decode s pos).2 := by
    by_cases ha : (s[pos]'h).toNat < 128
    · rw [decode_ascii s pos h ha]
      exact Nat.le_refl _
    · exact (decode_high s pos h (by omega)).2
  refine ⟨h1, ?_⟩
  rcases Nat.lt_or_ge 1 (Utf8.decode s pos).2 with h2 | h2
  · obtain ⟨hj, _⟩ := decode_cont s pos (pos + (Utf8.decode s pos).2 - 1) (by omega) (by omega)
    omega
  · omega

/-- A builder stays one where old blocks stay. -/
theorem isb_below {T e : TypeId} {B b : Nat} {bs : List Value} {w w' : World} (h : Lib.IsBuilderF T e B b bs w) (hb : Below w.heap.size w w') : Lib.IsBuilderF T e B b bs w' := by
  have key : ∀ p, Lib.BuilderAtF T e B b p bs w → Lib.BuilderAtF T e B b p bs w' := by
    rintro p ⟨hB, v, hbk, hown, hne⟩
    refine ⟨hB, v, by rw [hb.block b (Array.getElem?_eq_some_iff.1 hbk).1]; exact hbk, ⟨hown.1, ?_⟩, hne⟩
    rcases hown.2 with hn | ⟨g, cap, cur, fz, hv, hbg, hg, rest⟩
    · exact .inl hn
    · exact .inr ⟨g, cap, cur, fz, hv, hbg, by rw [hb.block g (Array.getElem?_eq_some_iff.1 hg).1]; exact hg, rest⟩
  exact h.elim (fun x => .inl (key _ x)) (fun x => .inr (key _ x))

/-- A byte with its entity in its stead, if it has one. -/
def escB (b : UInt8) : List UInt8 :=
  if b = 38 then [38, 97, 109, 112, 59] else if b = 60 then [38, 108, 116, 59] else if b = 62 then [38, 103, 116, 59] else if b = 39 then [38, 97, 112, 111, 115, 59] else if b = 34 then [38, 113, 117, 111, 116, 59] else [b]
def esc (l : List UInt8) : List UInt8 := l.flatMap escB
theorem esc_append (a b : List UInt8) : esc (a ++ b) = esc a ++ esc b := by simp [esc]
theorem escB_length (b : UInt8) : (escB b).length ≤ 6 := by
  unfold escB
  repeat' split
  all_goals simp
theorem esc_length (l : List UInt8) : (esc l).length ≤ 6 * l.length := by
  induction l with
  | nil => simp [esc]
  | cons a r ih =>
    have := escB_length a
    simp only [esc, List.flatMap_cons, List.length_append, List.length_cons] at ih ⊢
    omega
/-- It has no entity. -/
def Plain (b : UInt8) : Prop := b ≠ 38 ∧ b ≠ 60 ∧ b ≠ 62 ∧ b ≠ 39 ∧ b ≠ 34
theorem escB_plain {b : UInt8} (h : Plain b) : escB b = [b] := by
  unfold escB
  rw [if_neg h.1, if_neg h.2.1, if_neg h.2.2.1, if_neg h.2.2.2.1, if_neg h.2.2.2.2]
theorem esc_plain (l : List UInt8) (h : ∀ b ∈ l, Plain b) : esc l = l := by
  induction l with
  | nil => rfl
  | cons a r ih =>
    simp only [esc, List.flatMap_cons]
    rw [escB_plain (h a (by simp))]
    have := ih (fun b hb => h b (by simp [hb]))
    simp only [esc] at this
    rw [this]
    rfl
theorem plain_high {b : UInt8} (h : 128 ≤ b.toNat) : Plain b := by
  refine ⟨?_, ?_, ?_, ?_, ?_⟩ <;> (intro e; subst e; revert h; decide)
theorem app_list (a b : ByteArray) : (a ++ b).data.toList = a.data.toList ++ b.data.toList := by
  rw [ByteArray.data_append, Array.toList_append]
theorem ext_list (s : ByteArray) (c e : Nat) : (s.extract c e).data.toList = (s.data.toList.drop c).take (e - c) := by
  rw [ByteArray.data_extract, Array.toList_extract, List.extract_eq_take_drop]
theorem size_list (s : ByteArray) : s.data.toList.length = s.size := Array.length_toList
theorem list_at (s : ByteArray) (j : Nat) (h : j < s.size) : s.data.toList[j]? = some s[j] := by
  rw [Array.getElem?_toList]
  exact Array.getElem?_eq_getElem h
theorem drop_list (t : ByteArray) (k : Nat) : (t.extract k t.size).data.toList = t.data.toList.drop k := by
  rw [ext_list, List.take_of_length_le (by rw [List.length_drop, size_list]; exact Nat.le_refl _)]
theorem drop_size (t : ByteArray) (k : Nat) : (t.extract k t.size).size = t.size - k := by
  rw [← size_list, drop_list, List.length_drop, size_list]
/-- What is plain from c up to pos, and the entity of what stands there. -/
theorem esc_step (s : ByteArray) (c pos : Nat) (nm : List UInt8) (hc : c ≤ pos) (hp : pos < s.size) (hpl : ∀ (j : Nat) (h : j < s.size), c ≤ j → j < pos → Plain s[j]) (hcat : [38] ++ nm ++ [59] = escB s[pos]) :
    esc (s.data.toList.take c) ++ ((s.data.toList.drop c).take (pos - c) ++ [38] ++ nm ++ [59]) = esc (s.data.toList.take (pos + 1)) := by
  have hm : esc ((s.data.toList.drop c).take (pos - c)) = (s.data.toList.drop c).take (pos - c) := by
    refine esc_plain _ fun b hb => ?_
    obtain ⟨i, hi, rfl⟩ := List.mem_iff_getElem.1 hb
    rw [List.length_take, List.length_drop, size_list] at hi
    have hj : c + i < s.size := by omega
    have h1 := list_at s (c + i) hj
    have h2 : ((s.data.toList.drop c).take (pos - c))[i]? = some s[c + i] := by
      rw [List.getElem?_take_of_lt (by omega), List.getElem?_drop]; exact h1
    have h3 := List.getElem_of_getElem? h2
    obtain ⟨_, h4⟩ := h3
    rw [h4]
    exact hpl (c + i) hj (by omega) (by omega)
  have hsplit : s.data.toList.take (pos + 1) = s.data.toList.take c ++ (s.data.toList.drop c).take (pos - c) ++ [s[pos]] := by
    have hlt : pos < s.data.toList.length := by rw [size_list]; exact hp
    rw [List.take_succ_eq_append_getElem hlt]
    have e1 : s.data.toList[pos] = s[pos] := by
      have := list_at s pos hp
      rw [List.getElem?_eq_getElem hlt] at this
      exact Option.some.inj this
    rw [e1]
    have e2 : s.data.toList.take pos = s.data.toList.take c ++ (s.data.toList.drop c).take (pos - c) := by
      rw [← List.take_add, show c + (pos - c) = pos by omega]
    rw [e2]
  rw [hsplit, esc_append, esc_append, hm, show esc [s[pos]] = escB s[pos] by simp [esc], ← hcat]
  simp
theorem esc_rest (s : ByteArray) (c : Nat) (hpl : ∀ (j : Nat) (h : j < s.size), c ≤ j → Plain s[j]) :
    esc (s.data.toList.take c) ++ s.data.toList.drop c = esc s.data.toList := by
  have hm : esc (s.data.toList.drop c) = s.data.toList.drop c := by
    refine esc_plain _ fun b hb => ?_
    obtain ⟨i, hi, rfl⟩ := List.mem_iff_getElem.1 hb
    rw [List.length_drop, size_list] at hi
    have hj : c + i < s.size := by omega
    have h1 := list_at s (c + i) hj
    have h2 : (s.data.toList.drop c)[i]? = some s[c + i] := by
      rw [List.getElem?_drop]; exact h1
    obtain ⟨_, h4⟩ := List.getElem_of_getElem? h2
    rw [h4]
    exact hpl (c + i) hj (by omega)
  have h1 : esc (s.data.toList.take c) ++ s.data.toList.drop c = esc (s.data.toList.take c) ++ esc (s.data.toList.drop c) := by rw [hm]
  rw [h1, ← esc_append, List.take_append_drop]
end Go.Proofs.YtimhkgpjfppkmaaDoor
