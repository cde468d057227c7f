/- Contracts of both Name: a text is a name just if NameOk holds of it. -/
import Derived.Test.YthmidlmknkbdaaaDoorWS
import Derived.Lib.OthersKept
import Derived.Laws.RangeAny
import Derived.LoopTactic
namespace Go.Proofs.YthmidlmknkbdaaaDoor
open Go.RowKit

def NmAt (s : ByteArray) (j : Nat) (h : j < s.size) : Prop := IsB s[j].toNat ∨ (0 < j ∧ IsG s[j].toNat)
def NameOk (s : ByteArray) : Prop := 1 ≤ s.size ∧ s.size ≤ 32 ∧ ∀ (j : Nat) (h : j < s.size), NmAt s j h
def NameEnds (s : ByteArray) (e : Ending) : Prop := (NameOk s ∧ e = .returned (.bool true)) ∨ (¬ NameOk s ∧ e = .returned (.bool false))

theorem NameEnds.yes {s : ByteArray} {e : Ending} (h : NameEnds s e) (hn : NameOk s) : e = .returned (.bool true) := by
  rcases h with ⟨_, h⟩ | ⟨h, _⟩
  · exact h
  · exact absurd hn h
theorem NameEnds.no {s : ByteArray} {e : Ending} (h : NameEnds s e) (hn : ¬ NameOk s) : e = .returned (.bool false) := by
  rcases h with ⟨h, _⟩ | ⟨_, h⟩
  · exact absurd h hn
  · exact h
theorem empty_false {s : ByteArray} (h : 0 < s.size) : s.toList.isEmpty = false := by
  rw [ByteArray.toList_eq]
  cases hs : s.data.toList with
  | nil =>
    exfalso
    have h2 : s.data.toList.length = s.size := Array.length_toList
    rw [hs] at h2
    simp at h2
    omega
  | cons a r => rfl
theorem empty_true {s : ByteArray} (h : ¬ 0 < s.size) : s.toList.isEmpty = true := by
  rw [ByteArray.toList_eq]
  have h2 : s.data.toList.length = s.size := Array.length_toList
  rw [List.isEmpty_iff, ← List.length_eq_zero_iff]
  omega

set_option maxHeartbeats 1000000 in
theorem name_any (s : ByteArray) (w : World) (hs : s.size ≤ maxLen) : Calls Tryd.prog 44 #[.string s] w fun e w' => NameEnds s e ∧ Below w.heap.size w w' := by
  unfold maxLen at hs
  by_cases h0 : 0 < s.size
  · have he := empty_false h0
    by_cases h32 : s.size ≤ 32
    · have h32' : ¬ (32 < (s.size : Int)) := by omega
      have h32'' : decide (32 < (s.size : Int)) = false := by simp; omega
      go_enter Tryd.func44, Tryd.ntmps44
      go_wp2_with fail
      go_loopw [] (fun wr => ∃ k : Nat, k ≤ s.size ∧ wr.heap[w.heap.size]? = some (.stringIter s k) ∧ Below w.heap.size w wr ∧ ∀ (j : Nat) (h : j < s.size), j < k → NmAt s j h) (fun wr => s.size - wr.iterPos w.heap.size)
      case atStart =>
        refine ⟨0, Nat.zero_le _, ?_, (Below.refl _ w).alloc (Nat.le_refl _) _, fun j h h' => by omega⟩
        have := World.iter_heap w s 0
        simpa using this
      case round =>
        obtain ⟨k, hk, hit, hbw, hpre⟩ := hrel
        have Hpre := hide hpre
        clear hpre
        have hsz : w.heap.size < wr.heap.size := (Array.getElem?_eq_some_iff.1 hit).1
        by_cases hp : k < s.size
        · have hnot : ¬ NmAt s k hp → ¬ NameOk s := fun h h' => h (h'.2.2 k hp)
          have Hnot := hide hnot
          clear hnot
          by_cases ha : (s[k]'hp).toNat < 128
          · have hnx : ∀ ty, (Instr.next (.pointer (some ⟨w.heap.size, 0, none⟩)) true ty).run Tryd.prog wr = _ := fun ty => Lib.run_next_ascii_at wr w.heap.size s k ty hit hp ha
            have hbw2 := Lib.below_iterAt hbw (k := w.heap.size) (Nat.le_refl _) s (k + 1)
            have hit2 := Lib.iterAt_heap wr w.heap.size s k (k + 1) hit
            have Hround := hide (show NmAt s k hp → (∃ k_1, k_1 ≤ s.size ∧ (wr.iterAt w.heap.size s (k + 1)).heap[w.heap.size]? = some (.stringIter s k_1) ∧ Below w.heap.size w (wr.iterAt w.heap.size s (k + 1)) ∧ ∀ (j : Nat) (h : j < s.size), j < k_1 → NmAt s j h) ∧ s.size - (wr.iterAt w.heap.size s (k + 1)).iterPos w.heap.size < s.size - wr.iterPos w.heap.size from fun hok => by
              refine ⟨⟨k + 1, by omega, hit2, hbw2, fun j h hj => ?_⟩, ?_⟩
              · rcases Nat.lt_or_ge j k with h1 | h1
                · exact Hpre.out j h h1
                · obtain rfl : j = k := by omega
                  exact hok
              · simp only [World.iterPos, hit2, hit]
                omega)
            have Hb2 := hide hbw2
            by_cases hb : IsB (s[k]'hp).toNat
            · have Hb := hide hb
              clear hb hbw2 hit2
              go_wp2_with (go_at_call 63; refine (begins_yes _ _ Hb.out).mono ?_; rintro e w' ⟨rfl, rfl⟩)
              exact Hround.out (Or.inl Hb.out)
            · have Hb := hide hb
              clear hb hbw2 hit2
              by_cases hk0 : k = 0
              · have hk0' : ((k : Int) == 0) = true := by rw [beq_iff_eq]; omega
                have Hk0 := hide hk0
                clear hk0
                go_wp2_with (go_at_call 63; refine (begins_no _ _ Hb.out).mono ?_; rintro e w' ⟨rfl, rfl⟩)
                go_ret
                exact ⟨Or.inr ⟨Hnot.out (fun h => by
                  rcases h with h | ⟨h, _⟩
                  · exact Hb.out h
                  · have := Hk0.out; omega), rfl⟩, Hb2.out⟩
              · have hk0' : ((k : Int) == 0) = false := by rw [beq_eq_false_iff_ne]; omega
                by_cases hg : IsG (s[k]'hp).toNat
                · have Hg := hide hg
                  clear hg
                  go_wp2_with (first | (go_at_call 63; refine (begins_no _ _ Hb.out).mono ?_; rintro e w' ⟨rfl, rfl⟩) | (go_at_call 64; refine (goesOn_yes _ _ Hg.out).mono ?_; rintro e w' ⟨rfl, rfl⟩))
                  exact Hround.out (Or.inr ⟨by omega, Hg.out⟩)
                · have Hg := hide hg
                  clear hg
                  go_wp2_with (first | (go_at_call 63; refine (begins_no _ _ Hb.out).mono ?_; rintro e w' ⟨rfl, rfl⟩) | (go_at_call 64; refine (goesOn_no _ _ Hg.out).mono ?_; rintro e w' ⟨rfl, rfl⟩))
                  go_ret
                  exact ⟨Or.inr ⟨Hnot.out (fun h => by
                    rcases h with h | ⟨_, h⟩
                    · exact Hb.out h
                    · exact Hg.out h), rfl⟩, Hb2.out⟩
          · have hd := (decode_high s k hp (by omega)).1
            have hnx : ∀ ty, (Instr.next (.pointer (some ⟨w.heap.size, 0, none⟩)) true ty).run Tryd.prog wr = _ := fun ty => Lib.run_next_any_at wr w.heap.size s k ty hit hp
            have Hb2 := hide (Lib.below_iterAt hbw (k := w.heap.size) (Nat.le_refl _) s (k + (Utf8.decode s k).2))
            have Hb := hide (show ¬ IsB (Utf8.decode s k).1 by unfold IsB; omega)
            have Hg := hide (show ¬ IsG (Utf8.decode s k).1 by unfold IsG; omega)
            have Hn := hide (Hnot.out (show ¬ NmAt s k hp by unfold NmAt IsB IsG; omega))
            clear hd
            by_cases hk0 : k = 0
            · have hk0' : ((k : Int) == 0) = true := by rw [beq_iff_eq]; omega
              clear hk0
              go_wp2_with (go_at_call 63; refine (begins_no _ _ Hb.out).mono ?_; rintro e w' ⟨rfl, rfl⟩)
              go_ret
              exact ⟨Or.inr ⟨Hn.out, rfl⟩, Hb2.out⟩
            · have hk0' : ((k : Int) == 0) = false := by rw [beq_eq_false_iff_ne]; omega
              go_wp2_with (first | (go_at_call 63; refine (begins_no _ _ Hb.out).mono ?_; rintro e w' ⟨rfl, rfl⟩) | (go_at_call 64; refine (goesOn_no _ _ Hg.out).mono ?_; rintro e w' ⟨rfl, rfl⟩))
              go_ret
              exact ⟨Or.inr ⟨Hn.out, rfl⟩, Hb2.out⟩
        · have hnx : ∀ ty, (Instr.next (.pointer (some ⟨w.heap.size, 0, none⟩)) true ty).run Tryd.prog wr = _ := fun ty => Lib.run_next_end_at wr w.heap.size s k ty hit hp
          go_wp2_with fail
          go_ret
          exact ⟨Or.inl ⟨⟨h0, h32, fun j h => Hpre.out j h (by omega)⟩, rfl⟩, hbw⟩
    · have h32' : decide (32 < (s.size : Int)) = true := by simp; omega
      go_enter Tryd.func44, Tryd.ntmps44
      go_wp2_with fail
      go_ret
      exact ⟨Or.inr ⟨fun h => h32 h.2.1, rfl⟩, Below.refl _ _⟩
  · have he := empty_true h0
    go_enter Tryd.func44, Tryd.ntmps44
    go_wp2_with fail
    go_ret
    exact ⟨Or.inr ⟨fun h => h0 h.1, rfl⟩, Below.refl _ _⟩
end Go.Proofs.YthmidlmknkbdaaaDoor
