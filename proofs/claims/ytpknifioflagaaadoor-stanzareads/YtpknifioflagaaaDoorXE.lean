/- Contracts of both Name: a text is a name just if NameOk holds of it. Plain facts on bytes: runes that are decoded, entities. No Go text is walked here. Contract of Chars: valid UTF-8, and each rune a character. -/
import Derived.Test.YtpknifioflagaaaDoorXA
import Derived.Lib.OthersKept
import Derived.Laws.RangeAny
import Derived.LoopTactic
import Derived.Below
import Derived.Test.YtpknifioflagaaaDoorShelf
import Derived.Lib.ValidLaws
namespace Go.Proofs.YtpknifioflagaaaDoor
open Go.RowKit

def NmAt (s : ByteArray) (j : Nat) (h : j < s.size) : Prop := IsB s[j].toNat ∨ (0 < j ∧ IsG s[j].toNat)
def NameOk (s : ByteArray) : Prop := 1 ≤ s.size ∧ s.size ≤ 32 ∧ ∀ (j : Nat) (h : j < s.size), NmAt s j h
def NameEnds (s : ByteArray) (e : Ending) : Prop := (NameOk s ∧ e = .returned (.bool true)) ∨ (¬ NameOk s ∧ e = .returned (.bool false))

theorem NameEnds.yes {s : ByteArray} {e : Ending} (h : NameEnds s e) (hn : NameOk s) : e = .returned (.bool true) := by
  rcases h with ⟨_, h⟩ | ⟨h, _⟩
  · exact h
  · exact absurd hn h
theorem NameEnds.no {s : ByteArray} {e : Ending} (h : NameEnds s e) (hn : ¬ NameOk s) : e = .returned (.bool false) := by
  rcases h with ⟨h, _⟩ | ⟨_, h⟩
  · exact absurd h hn
  · exact h
theorem empty_false {s : ByteArray} (h : 0 < s.size) : s.toList.isEmpty = false := by
  rw [ByteArray.toList_eq]
  cases hs : s.data.toList with
  | nil =>
    exfalso
    have h2 : s.data.toList.length = s.size := Array.length_toList
    rw [hs] at h2
    simp at h2
    omega
  | cons a r => rfl
theorem empty_true {s : ByteArray} (h : ¬ 0 < s.size) : s.toList.isEmpty = true := by
  rw [ByteArray.toList_eq]
  have h2 : s.data.toList.length = s.size := Array.length_toList
  rw [List.isEmpty_iff, ← List.length_eq_zero_iff]
  omega

set_option maxHeartbeats 1000000 in
theorem name_any (s : ByteArray) (w : World) (hs : s.size ≤ maxLen) : Calls Tryd.prog 77 #[.string s] w fun e w' => NameEnds s e ∧ Below w.heap.size w w' := by
  unfold maxLen at hs
  by_cases h0 : 0 < s.size
  · have he := empty_false h0
    by_cases h32 : s.size ≤ 32
    · have h32' : ¬ (32 < (s.size : Int)) := by omega
      have h32'' : decide (32 < (s.size : Int)) = false := by simp; omega
      go_enter Tryd.func77, Tryd.ntmps77
      go_wp2_with fail
      go_loopw [] (fun wr => ∃ k : Nat, k ≤ s.size ∧ wr.heap[w.heap.size]? = some (.stringIter s k) ∧ Below w.heap.size w wr ∧ ∀ (j : Nat) (h : j < s.size), j < k → NmAt s j h) (fun wr => s.size - wr.iterPos w.heap.size)
      case atStart =>
        refine ⟨0, Nat.zero_le _, ?_, (Below.refl _ w).alloc (Nat.le_refl _) _, fun j h h' => by omega⟩
        have := World.iter_heap w s 0
        simpa using this
      case round =>
        obtain ⟨k, hk, hit, hbw, hpre⟩ := hrel
        have Hpre := hide hpre
        clear hpre
        have hsz : w.heap.size < wr.heap.size := (Array.getElem?_eq_some_iff.1 hit).1
        by_cases hp : k < s.size
        · have hnot : ¬ NmAt s k hp → ¬ NameOk s := fun h h' => h (h'.2.2 k hp)
          have Hnot := hide hnot
          clear hnot
          by_cases ha : (s[k]'hp).toNat < 128
          · have hnx : ∀ ty, (Instr.next (.pointer (some ⟨w.heap.size, 0, none⟩)) true ty).run Tryd.prog wr = _ := fun ty => Lib.run_next_ascii_at wr w.heap.size s k ty hit hp ha
            have hbw2 := Lib.below_iterAt hbw (k := w.heap.size) (Nat.le_refl _) s (k + 1)
            have hit2 := Lib.iterAt_heap wr w.heap.size s k (k + 1) hit
            have Hround := hide (show NmAt s k hp → (∃ k_1, k_1 ≤ s.size ∧ (wr.iterAt w.heap.size s (k + 1)).heap[w.heap.size]? = some (.stringIter s k_1) ∧ Below w.heap.size w (wr.iterAt w.heap.size s (k + 1)) ∧ ∀ (j : Nat) (h : j < s.size), j < k_1 → NmAt s j h) ∧ s.size - (wr.iterAt w.heap.size s (k + 1)).iterPos w.heap.size < s.size - wr.iterPos w.heap.size from fun hok => by
              refine ⟨⟨k + 1, by omega, hit2, hbw2, fun j h hj => ?_⟩, ?_⟩
              · rcases Nat.lt_or_ge j k with h1 | h1
                · exact Hpre.out j h h1
                · obtain rfl : j = k := by omega
                  exact hok
              · simp only [World.iterPos, hit2, hit]
                omega)
            have Hb2 := hide hbw2
            by_cases hb : IsB (s[k]'hp).toNat
            · have Hb := hide hb
              clear hb hbw2 hit2
              go_wp2_with (go_at_call 85; refine (begins_yes _ _ Hb.out).mono ?_; rintro e w' ⟨rfl, rfl⟩)
              exact Hround.out (Or.inl Hb.out)
            · have Hb := hide hb
              clear hb hbw2 hit2
              by_cases hk0 : k = 0
              · have hk0' : ((k : Int) == 0) = true := by rw [beq_iff_eq]; omega
                have Hk0 := hide hk0
                clear hk0
                go_wp2_with (go_at_call 85; refine (begins_no _ _ Hb.out).mono ?_; rintro e w' ⟨rfl, rfl⟩)
                go_ret
                exact ⟨Or.inr ⟨Hnot.out (fun h => by
                  rcases h with h | ⟨h, _⟩
                  · exact Hb.out h
                  · have := Hk0.out; omega), rfl⟩, Hb2.out⟩
              · have hk0' : ((k : Int) == 0) = false := by rw [beq_eq_false_iff_ne]; omega
                by_cases hg : IsG (s[k]'hp).toNat
                · have Hg := hide hg
                  clear hg
                  go_wp2_with (first | (go_at_call 85; refine (begins_no _ _ Hb.out).mono ?_; rintro e w' ⟨rfl, rfl⟩) | (go_at_call 86; refine (goesOn_yes _ _ Hg.out).mono ?_; rintro e w' ⟨rfl, rfl⟩))
                  exact Hround.out (Or.inr ⟨by omega, Hg.out⟩)
                · have Hg := hide hg
                  clear hg
                  go_wp2_with (first | (go_at_call 85; refine (begins_no _ _ Hb.out).mono ?_; rintro e w' ⟨rfl, rfl⟩) | (go_at_call 86; refine (goesOn_no _ _ Hg.out).mono ?_; rintro e w' ⟨rfl, rfl⟩))
                  go_ret
                  exact ⟨Or.inr ⟨Hnot.out (fun h => by
                    rcases h with h | ⟨_, h⟩
                    · exact Hb.out h
                    · exact Hg.out h), rfl⟩, Hb2.out⟩
          · have hd := (decode_high s k hp (by omega)).1
            have hnx : ∀ ty, (Instr.next (.pointer (some ⟨w.heap.size, 0, none⟩)) true ty).run Tryd.prog wr = _ := fun ty => Lib.run_next_any_at wr w.heap.size s k ty hit hp
            have Hb2 := hide (Lib.below_iterAt hbw (k := w.heap.size) (Nat.le_refl _) s (k + (Utf8.decode s k).2))
            have Hb := hide (show ¬ IsB (Utf8.decode s k).1 by unfold IsB; omega)
            have Hg := hide (show ¬ IsG (Utf8.decode s k).1 by unfold IsG; omega)
            have Hn := hide (Hnot.out (show ¬ NmAt s k hp by unfold NmAt IsB IsG; omega))
            clear hd
            by_cases hk0 : k = 0
            · have hk0' : ((k : Int) == 0) = true := by rw [beq_iff_eq]; omega
              clear hk0
              go_wp2_with (go_at_call 85; refine (begins_no _ _ Hb.out).mono ?_; rintro e w' ⟨rfl, rfl⟩)
              go_ret
              exact ⟨Or.inr ⟨Hn.out, rfl⟩, Hb2.out⟩
            · have hk0' : ((k : Int) == 0) = false := by rw [beq_eq_false_iff_ne]; omega
              go_wp2_with (first | (go_at_call 85; refine (begins_no _ _ Hb.out).mono ?_; rintro e w' ⟨rfl, rfl⟩) | (go_at_call 86; refine (goesOn_no _ _ Hg.out).mono ?_; rintro e w' ⟨rfl, rfl⟩))
              go_ret
              exact ⟨Or.inr ⟨Hn.out, rfl⟩, Hb2.out⟩
        · have hnx : ∀ ty, (Instr.next (.pointer (some ⟨w.heap.size, 0, none⟩)) true ty).run Tryd.prog wr = _ := fun ty => Lib.run_next_end_at wr w.heap.size s k ty hit hp
          go_wp2_with fail
          go_ret
          exact ⟨Or.inl ⟨⟨h0, h32, fun j h => Hpre.out j h (by omega)⟩, rfl⟩, hbw⟩
    · have h32' : decide (32 < (s.size : Int)) = true := by simp; omega
      go_enter Tryd.func77, Tryd.ntmps77
      go_wp2_with fail
      go_ret
      exact ⟨Or.inr ⟨fun h => h32 h.2.1, rfl⟩, Below.refl _ _⟩
  · have he := empty_true h0
    go_enter Tryd.func77, Tryd.ntmps77
    go_wp2_with fail
    go_ret
    exact ⟨Or.inr ⟨fun h => h0 h.1, rfl⟩, Below.refl _ _⟩
end Go.Proofs.YtpknifioflagaaaDoor
namespace Go.Proofs.YtpknifioflagaaaDoor
open Go.RowKit

theorem get_bang (s : ByteArray) (j : Nat) (h : j < s.size) : s.get! j = s[j] := by
  simp [ByteArray.get!, getElem!_pos, h]
  rfl
theorem cont_high (s : ByteArray) (j : Nat) (h : (decide (j < s.size) && (s.get! j).toNat / 64 == 2) = true) : ∃ hj : j < s.size, 128 ≤ s[j].toNat := by
  rw [Bool.and_eq_true, decide_eq_true_eq, beq_iff_eq] at h
  refine ⟨h.1, ?_⟩
  rw [← get_bang s j h.1]
  omega
/-- The bytes of a rune behind its first one are high. -/
theorem decode_cont (s : ByteArray) (pos j : Nat) (h1 : pos < j) (h2 : j < pos + (Utf8.decode s pos).2) : ∃ hj : j < s.size, 128 ≤ s[j].toNat := by
  simp only [Utf8.decode] at h2
  split at h2
  · exact absurd h2 (by simp; omega)
  · split at h2
    · rename_i _ hc
      rw [Bool.and_eq_true] at hc
      split at h2
      · obtain rfl : j = pos + 1 := by simp at h2; omega
        exact cont_high s _ hc.2
      · exact absurd h2 (by simp; omega)
    · split at h2
      · rename_i _ _ hc
        rw [Bool.and_eq_true, Bool.and_eq_true] at hc
        split at h2
        · have : j = pos + 1 ∨ j = pos + 2 := by simp at h2; omega
          rcases this with rfl | rfl
          · exact cont_high s _ hc.1.2
          · exact cont_high s _ hc.2
        · exact absurd h2 (by simp; omega)
      · split at h2
        · rename_i _ _ _ hc
          rw [Bool.and_eq_true, Bool.and_eq_true, Bool.and_eq_true] at hc
          split at h2
          · have : j = pos + 1 ∨ j = pos + 2 ∨ j = pos + 3 := by simp at h2; omega
            rcases this with rfl | rfl | rfl
            · exact cont_high s _ hc.1.1.2
            · exact cont_high s _ hc.1.2
            · exact cont_high s _ hc.2
          · exact absurd h2 (by simp; omega)
        · exact absurd h2 (by simp; omega)
theorem decode_width (s : ByteArray) (pos : Nat) (h : pos < s.size) : 1 ≤ (Utf8.decode s pos).2 ∧ pos + (Utf8.decode s pos).2 ≤ s.size := by
  have h1 : 1 ≤ (Utf8.decode s pos).2 := by
    by_cases ha : (s[pos]'h).toNat < 128
    · rw [decode_ascii s pos h ha]
      exact Nat.le_refl _
    · exact (decode_high s pos h (by omega)).2
  refine ⟨h1, ?_⟩
  rcases Nat.lt_or_ge 1 (Utf8.decode s pos).2 with h2 | h2
  · obtain ⟨hj, _⟩ := decode_cont s pos (pos + (Utf8.decode s pos).2 - 1) (by omega) (by omega)
    omega
  · omega

/-- A builder stays one where old blocks stay. -/
theorem isb_below {T e : TypeId} {B b : Nat} {bs : List Value} {w w' : World} (h : Lib.IsBuilderF T e B b bs w) (hb : Below w.heap.size w w') : Lib.IsBuilderF T e B b bs w' := by
  have key : ∀ p, Lib.BuilderAtF T e B b p bs w → Lib.BuilderAtF T e B b p bs w' := by
    rintro p ⟨hB, v, hbk, hown, hne⟩
    refine ⟨hB, v, by rw [hb.block b (Array.getElem?_eq_some_iff.1 hbk).1]; exact hbk, ⟨hown.1, ?_⟩, hne⟩
    rcases hown.2 with hn | ⟨g, cap, cur, fz, hv, hbg, hg, rest⟩
    · exact .inl hn
    · exact .inr ⟨g, cap, cur, fz, hv, hbg, by rw [hb.block g (Array.getElem?_eq_some_iff.1 hg).1]; exact hg, rest⟩
  exact h.elim (fun x => .inl (key _ x)) (fun x => .inr (key _ x))

/-- A byte with its entity in its stead, if it has one. -/
def escB (b : UInt8) : List UInt8 :=
  if b = 38 then [38, 97, 109, 112, 59] else if b = 60 then [38, 108, 116, 59] else if b = 62 then [38, 103, 116, 59] else if b = 39 then [38, 97, 112, 111, 115, 59] else if b = 34 then [38, 113, 117, 111, 116, 59] else [b]
def esc (l : List UInt8) : List UInt8 := l.flatMap escB
theorem esc_append (a b : List UInt8) : esc (a ++ b) = esc a ++ esc b := by simp [esc]
theorem escB_length (b : UInt8) : (escB b).length ≤ 6 := by
  unfold escB
  repeat' split
  all_goals simp
theorem esc_length (l : List UInt8) : (esc l).length ≤ 6 * l.length := by
  induction l with
  | nil => simp [esc]
  | cons a r ih =>
    have := escB_length a
    simp only [esc, List.flatMap_cons, List.length_append, List.length_cons] at ih ⊢
    omega
/-- It has no entity. -/
def Plain (b : UInt8) : Prop := b ≠ 38 ∧ b ≠ 60 ∧ b ≠ 62 ∧ b ≠ 39 ∧ b ≠ 34
theorem escB_plain {b : UInt8} (h : Plain b) : escB b = [b] := by
  unfold escB
  rw [if_neg h.1, if_neg h.2.1, if_neg h.2.2.1, if_neg h.2.2.2.1, if_neg h.2.2.2.2]
theorem esc_plain (l : List UInt8) (h : ∀ b ∈ l, Plain b) : esc l = l := by
  induction l with
  | nil => rfl
  | cons a r ih =>
    simp only [esc, List.flatMap_cons]
    rw [escB_plain (h a (by simp))]
    have := ih (fun b hb => h b (by simp [hb]))
    simp only [esc] at this
    rw [this]
    rfl
theorem plain_high {b : UInt8} (h : 128 ≤ b.toNat) : Plain b := by
  refine ⟨?_, ?_, ?_, ?_, ?_⟩ <;> (intro e; subst e; revert h; decide)
theorem app_list (a b : ByteArray) : (a ++ b).data.toList = a.data.toList ++ b.data.toList := by
  rw [ByteArray.data_append, Array.toList_append]
theorem ext_list (s : ByteArray) (c e : Nat) : (s.extract c e).data.toList = (s.data.toList.drop c).take (e - c) := by
  rw [ByteArray.data_extract, Array.toList_extract, List.extract_eq_take_drop]
theorem size_list (s : ByteArray) : s.data.toList.length = s.size := Array.length_toList
theorem list_at (s : ByteArray) (j : Nat) (h : j < s.size) : s.data.toList[j]? = some s[j] := by
  rw [Array.getElem?_toList]
  exact Array.getElem?_eq_getElem h
theorem drop_list (t : ByteArray) (k : Nat) : (t.extract k t.size).data.toList = t.data.toList.drop k := by
  rw [ext_list, List.take_of_length_le (by rw [List.length_drop, size_list]; exact Nat.le_refl _)]
theorem drop_size (t : ByteArray) (k : Nat) : (t.extract k t.size).size = t.size - k := by
  rw [← size_list, drop_list, List.length_drop, size_list]
/-- What is plain from c up to pos, and the entity of what stands there. -/
theorem esc_step (s : ByteArray) (c pos : Nat) (nm : List UInt8) (hc : c ≤ pos) (hp : pos < s.size) (hpl : ∀ (j : Nat) (h : j < s.size), c ≤ j → j < pos → Plain s[j]) (hcat : [38] ++ nm ++ [59] = escB s[pos]) :
    esc (s.data.toList.take c) ++ ((s.data.toList.drop c).take (pos - c) ++ [38] ++ nm ++ [59]) = esc (s.data.toList.take (pos + 1)) := by
  have hm : esc ((s.data.toList.drop c).take (pos - c)) = (s.data.toList.drop c).take (pos - c) := by
    refine esc_plain _ fun b hb => ?_
    obtain ⟨i, hi, rfl⟩ := List.mem_iff_getElem.1 hb
    rw [List.length_take, List.length_drop, size_list] at hi
    have hj : c + i < s.size := by omega
    have h1 := list_at s (c + i) hj
    have h2 : ((s.data.toList.drop c).take (pos - c))[i]? = some s[c + i] := by
      rw [List.getElem?_take_of_lt (by omega), List.getElem?_drop]; exact h1
    have h3 := List.getElem_of_getElem? h2
    obtain ⟨_, h4⟩ := h3
    rw [h4]
    exact hpl (c + i) hj (by omega) (by omega)
  have hsplit : s.data.toList.take (pos + 1) = s.data.toList.take c ++ (s.data.toList.drop c).take (pos - c) ++ [s[pos]] := by
    have hlt : pos < s.data.toList.length := by rw [size_list]; exact hp
    rw [List.take_succ_eq_append_getElem hlt]
    have e1 : s.data.toList[pos] = s[pos] := by
      have := list_at s pos hp
      rw [List.getElem?_eq_getElem hlt] at this
      exact Option.some.inj this
    rw [e1]
    have e2 : s.data.toList.take pos = s.data.toList.take c ++ (s.data.toList.drop c).take (pos - c) := by
      rw [← List.take_add, show c + (pos - c) = pos by omega]
    rw [e2]
  rw [hsplit, esc_append, esc_append, hm, show esc [s[pos]] = escB s[pos] by simp [esc], ← hcat]
  simp
theorem esc_rest (s : ByteArray) (c : Nat) (hpl : ∀ (j : Nat) (h : j < s.size), c ≤ j → Plain s[j]) :
    esc (s.data.toList.take c) ++ s.data.toList.drop c = esc s.data.toList := by
  have hm : esc (s.data.toList.drop c) = s.data.toList.drop c := by
    refine esc_plain _ fun b hb => ?_
    obtain ⟨i, hi, rfl⟩ := List.mem_iff_getElem.1 hb
    rw [List.length_drop, size_list] at hi
    have hj : c + i < s.size := by omega
    have h1 := list_at s (c + i) hj
    have h2 : (s.data.toList.drop c)[i]? = some s[c + i] := by
      rw [List.getElem?_drop]; exact h1
    obtain ⟨_, h4⟩ := List.getElem_of_getElem? h2
    rw [h4]
    exact hpl (c + i) hj (by omega)
  have h1 : esc (s.data.toList.take c) ++ s.data.toList.drop c = esc (s.data.toList.take c) ++ esc (s.data.toList.drop c) := by rw [hm]
  rw [h1, ← esc_append, List.take_append_drop]
end Go.Proofs.YtpknifioflagaaaDoor
namespace Go.Proofs.YtpknifioflagaaaDoor
open Go.RowKit

/-- It may stand in XML. -/
def CharR (r : Nat) : Prop := r = 9 ∨ r = 10 ∨ r = 13 ∨ (32 ≤ r ∧ r ≠ 65534 ∧ r ≠ 65535)
def charDec (r : Nat) : Decidable (CharR r) := by unfold CharR; exact inferInstance

theorem char_yes (r : Nat) (w : World) (h : CharR r) : Calls Tryd.prog 93 #[.int .i32 r] w fun e w' => e = .returned (.bool true) ∧ w' = w := by
  rcases h with rfl | rfl | rfl | ⟨h, h1, h2⟩
  · go_enter Tryd.func93, Tryd.ntmps93
    go_wp2
    go_ret
    exact ⟨rfl, rfl⟩
  · go_enter Tryd.func93, Tryd.ntmps93
    go_wp2
    go_ret
    exact ⟨rfl, rfl⟩
  · go_enter Tryd.func93, Tryd.ntmps93
    go_wp2
    go_ret
    exact ⟨rfl, rfl⟩
  · have e1 : ((r : Int) == 9) = false := by rw [beq_eq_false_iff_ne]; omega
    have e2 : ((r : Int) == 10) = false := by rw [beq_eq_false_iff_ne]; omega
    have e3 : ((r : Int) == 13) = false := by rw [beq_eq_false_iff_ne]; omega
    have e4 : ((r : Int) == 65534) = false := by rw [beq_eq_false_iff_ne]; omega
    have e5 : ((r : Int) == 65535) = false := by rw [beq_eq_false_iff_ne]; omega
    have e6 : decide (32 ≤ (r : Int)) = true := by simp; omega
    clear h h1 h2
    go_enter Tryd.func93, Tryd.ntmps93
    go_wp2
    go_ret
    exact ⟨rfl, rfl⟩
theorem char_no (r : Nat) (w : World) (h : ¬ CharR r) : Calls Tryd.prog 93 #[.int .i32 r] w fun e w' => e = .returned (.bool false) ∧ w' = w := by
  have e1 : ((r : Int) == 9) = false := by rw [beq_eq_false_iff_ne]; unfold CharR at h; omega
  have e2 : ((r : Int) == 10) = false := by rw [beq_eq_false_iff_ne]; unfold CharR at h; omega
  have e3 : ((r : Int) == 13) = false := by rw [beq_eq_false_iff_ne]; unfold CharR at h; omega
  have hc : r = 65534 ∨ r = 65535 ∨ (r ≠ 65534 ∧ r ≠ 65535 ∧ r < 32) := by unfold CharR at h; omega
  clear h
  rcases hc with rfl | rfl | ⟨h4, h5, h6⟩
  · clear e1 e2 e3
    go_enter Tryd.func93, Tryd.ntmps93
    go_wp2
    go_ret
    exact ⟨rfl, rfl⟩
  · clear e1 e2 e3
    go_enter Tryd.func93, Tryd.ntmps93
    go_wp2
    go_ret
    exact ⟨rfl, rfl⟩
  · have e4 : ((r : Int) == 65534) = false := by rw [beq_eq_false_iff_ne]; omega
    have e5 : ((r : Int) == 65535) = false := by rw [beq_eq_false_iff_ne]; omega
    have e6 : decide (32 ≤ (r : Int)) = false := by simp; omega
    clear h4 h5 h6
    go_enter Tryd.func93, Tryd.ntmps93
    go_wp2
    go_ret
    exact ⟨rfl, rfl⟩

/-- Each rune is a character. -/
def runesGo : Nat → List UInt8 → Prop
  | 0, _ => True
  | n + 1, l => l = [] ∨ (CharR (Lib.decodeL l).1 ∧ runesGo n (l.drop (Lib.decodeL l).2))
def Runes (l : List UInt8) : Prop := runesGo l.length l
theorem runesGo_nil : ∀ n, runesGo n []
  | 0 => trivial
  | _ + 1 => Or.inl rfl
theorem runesGo_fuel : ∀ (n m : Nat) (l : List UInt8), l.length ≤ n → l.length ≤ m → (runesGo n l ↔ runesGo m l)
  | 0, m, l, hn, _ => by
    obtain rfl : l = [] := List.eq_nil_of_length_eq_zero (by omega)
    exact ⟨fun _ => runesGo_nil _, fun _ => runesGo_nil _⟩
  | n + 1, 0, l, _, hm => by
    obtain rfl : l = [] := List.eq_nil_of_length_eq_zero (by omega)
    exact ⟨fun _ => runesGo_nil _, fun _ => runesGo_nil _⟩
  | n + 1, m + 1, l, hn, hm => by
    have hw := Lib.decodeL_width l
    show (l = [] ∨ _) ↔ (l = [] ∨ _)
    by_cases hne : l = []
    · simp [hne]
    · have hl : 0 < l.length := List.length_pos_iff.2 hne
      have := runesGo_fuel n m (l.drop (Lib.decodeL l).2) (by rw [List.length_drop]; omega) (by rw [List.length_drop]; omega)
      rw [this]
theorem runes_nil : Runes [] := trivial
theorem runes_step (l : List UInt8) (hne : l ≠ []) : Runes l ↔ CharR (Lib.decodeL l).1 ∧ Runes (l.drop (Lib.decodeL l).2) := by
  have hl : 0 < l.length := List.length_pos_iff.2 hne
  have hw := Lib.decodeL_width l
  obtain ⟨n, hn⟩ : ∃ n, l.length = n + 1 := ⟨l.length - 1, by omega⟩
  unfold Runes
  rw [hn]
  show (l = [] ∨ _) ↔ _
  rw [runesGo_fuel n (l.drop (Lib.decodeL l).2).length _ (by rw [List.length_drop]; omega) (Nat.le_refl _)]
  simp [hne]

/-- The text is characters. -/
def CharsOk (l : List UInt8) : Prop := Lib.validD l = true ∧ Runes l
def ChEnds (l : List UInt8) (e : Ending) : Prop := (CharsOk l ∧ e = .returned (.bool true)) ∨ (¬ CharsOk l ∧ e = .returned (.bool false))
theorem ChEnds.yes {l : List UInt8} {e : Ending} (h : ChEnds l e) (hn : CharsOk l) : e = .returned (.bool true) := by
  rcases h with ⟨_, h⟩ | ⟨h, _⟩
  · exact h
  · exact absurd hn h
theorem ChEnds.no {l : List UInt8} {e : Ending} (h : ChEnds l e) (hn : ¬ CharsOk l) : e = .returned (.bool false) := by
  rcases h with ⟨h, _⟩ | ⟨_, h⟩
  · exact absurd h hn
  · exact h

theorem tabs_below {g h : Nat} {w w' : World} (hT : Lib.Utf8Tabs g h w) (hb : Below w.heap.size w w') : Lib.Utf8Tabs g h w' := by
  refine ⟨fun c hc => ?_, fun i hi => ⟨?_, ?_⟩⟩
  · rw [hb.cell (lt_of_cell (hT.1 c hc))]; exact hT.1 c hc
  · rw [hb.cell (lt_of_cell (hT.2 i hi).1)]; exact (hT.2 i hi).1
  · rw [hb.cell (lt_of_cell (hT.2 i hi).2)]; exact (hT.2 i hi).2

set_option maxHeartbeats 2000000 in
theorem chars_any (s : ByteArray) (w : World) (hs : s.size ≤ maxLen) (hT : Lib.Utf8Tabs 1 2 w) : Calls Tryd.prog 88 #[.string s] w fun e w' => ChEnds s.data.toList e ∧ Below w.heap.size w w' := by
  unfold maxLen at hs
  have HT := hide hT
  clear hT
  go_enter Tryd.func88, Tryd.ntmps88
  go_wp2_with fail
  refine (validString s _ (by omega) HT.out).mono ?_
  rintro e w1 ⟨rfl, hb1⟩
  by_cases hv : Lib.validD s.data.toList = true
  · rw [hv]
    have hsz1 := hb1.size
    have HB := hide hb1
    clear hb1
    go_wp2_with fail
    go_loopw [] (fun wr => ∃ k : Nat, k ≤ s.size ∧ wr.heap[w1.heap.size]? = some (.stringIter s k) ∧ Below w1.heap.size w1 wr ∧ (Runes s.data.toList ↔ Runes (s.data.toList.drop k))) (fun wr => s.size - wr.iterPos w1.heap.size)
    case atStart =>
      refine ⟨0, Nat.zero_le _, ?_, (Below.refl _ w1).alloc (Nat.le_refl _) _, by simp⟩
      have := World.iter_heap w1 s 0
      simpa using this
    case round =>
      obtain ⟨k, hk, hit, hbw, hpre⟩ := hrel
      have Hpre := hide hpre
      clear hpre
      have hsz : w1.heap.size < wr.heap.size := (Array.getElem?_eq_some_iff.1 hit).1
      by_cases hp : k < s.size
      · obtain ⟨hw1, hw2⟩ := decode_width s k hp
        have hst := runes_step (s.data.toList.drop k) (by
          intro h
          have := congrArg List.length h
          rw [List.length_drop, size_list] at this
          simp at this
          omega)
        rw [Lib.decodeL_drop, List.drop_drop] at hst
        have Hst := hide hst
        clear hst
        have hnx : ∀ ty, (Instr.next (.pointer (some ⟨w1.heap.size, 0, none⟩)) true ty).run Tryd.prog wr = _ := fun ty => Lib.run_next_any_at wr w1.heap.size s k ty hit hp
        have hbw2 := Lib.below_iterAt hbw (k := w1.heap.size) (Nat.le_refl _) s (k + (Utf8.decode s k).2)
        have hit2 := Lib.iterAt_heap wr w1.heap.size s k (k + (Utf8.decode s k).2) hit
        have Hb2 := hide (show _ ∧ _ ∧ _ from ⟨hbw2, hit2, hit⟩)
        clear hbw2 hit2
        by_cases hc : CharR (Utf8.decode s k).1
        · have Hc := hide hc
          clear hc
          go_wp2_with (go_at_call 93; refine (char_yes _ _ Hc.out).mono ?_; rintro e w' ⟨rfl, rfl⟩)
          refine ⟨⟨k + (Utf8.decode s k).2, hw2, Hb2.out.2.1, Hb2.out.1, ?_⟩, ?_⟩
          · rw [Hpre.out, Hst.out]
            exact ⟨fun h => h.2, fun h => ⟨Hc.out, h⟩⟩
          · simp only [World.iterPos, Hb2.out.2.1, Hb2.out.2.2]
            omega
        · have Hc := hide hc
          clear hc
          go_wp2_with (go_at_call 93; refine (char_no _ _ Hc.out).mono ?_; rintro e w' ⟨rfl, rfl⟩)
          go_ret
          refine ⟨Or.inr ⟨fun h => ?_, rfl⟩, HB.out.trans (Hb2.out.1.mono hsz1)⟩
          exact Hc.out (Hst.out.1 (Hpre.out.1 h.2)).1
      · have hnx : ∀ ty, (Instr.next (.pointer (some ⟨w1.heap.size, 0, none⟩)) true ty).run Tryd.prog wr = _ := fun ty => Lib.run_next_end_at wr w1.heap.size s k ty hit hp
        go_wp2_with fail
        go_ret
        refine ⟨Or.inl ⟨⟨hv, Hpre.out.2 ?_⟩, rfl⟩, HB.out.trans (hbw.mono hsz1)⟩
        rw [List.drop_eq_nil_of_le (by rw [size_list]; omega)]
        exact runes_nil
  · have hv' : Lib.validD s.data.toList = false := by simpa using hv
    rw [hv']
    go_wp2_with fail
    go_ret
    exact ⟨Or.inr ⟨fun h => hv h.1, rfl⟩, hb1⟩
end Go.Proofs.YtpknifioflagaaaDoor
