/- Contract of Space: each byte is a blank. -/
import Derived.Test.YthmidlmknkbdaaaDoorWS
import Derived.Test.YthmidlmknkbdaaaDoorMath
import Derived.LoopTactic
namespace Go.Proofs.YthmidlmknkbdaaaDoor
open Go.RowKit

def Blank (b : UInt8) : Prop := b = 32 ∨ b = 9 ∨ b = 10 ∨ b = 13
def Blanks (l : List UInt8) : Prop := ∀ b ∈ l, Blank b
def SpEnds (l : List UInt8) (e : Ending) : Prop := (Blanks l ∧ e = .returned (.bool true)) ∨ (¬ Blanks l ∧ e = .returned (.bool false))
theorem SpEnds.yes {l : List UInt8} {e : Ending} (h : SpEnds l e) (hn : Blanks l) : e = .returned (.bool true) := by
  rcases h with ⟨_, h⟩ | ⟨h, _⟩
  · exact h
  · exact absurd hn h
theorem SpEnds.no {l : List UInt8} {e : Ending} (h : SpEnds l e) (hn : ¬ Blanks l) : e = .returned (.bool false) := by
  rcases h with ⟨h, _⟩ | ⟨_, h⟩
  · exact absurd h hn
  · exact h

theorem u8_of {b : UInt8} {n : Nat} (h : b.toNat = n) (hn : n < 256) : b = UInt8.ofNat n := by
  subst h
  simp

set_option maxHeartbeats 2000000 in
theorem space_any (s : ByteArray) (w : World) : Calls Tryd.prog 85 #[.string s] w fun e w' => SpEnds s.data.toList e ∧ Below w.heap.size w w' := by
  go_enter Tryd.func85, Tryd.ntmps85
  go_wp2_with fail
  go_loopw [] (fun wr => ∃ k : Nat, k ≤ s.size ∧ wr.heap[w.heap.size]? = some (.stringIter s k) ∧ Below w.heap.size w wr ∧ ∀ (j : Nat) (h : j < s.size), j < k → Blank s[j]) (fun wr => s.size - wr.iterPos w.heap.size)
  case atStart =>
    refine ⟨0, Nat.zero_le _, ?_, (Below.refl _ w).alloc (Nat.le_refl _) _, fun j h h' => by omega⟩
    have := World.iter_heap w s 0
    simpa using this
  case round =>
    obtain ⟨k, hk, hit, hbw, hpre⟩ := hrel
    have Hpre := hide hpre
    clear hpre
    have hsz : w.heap.size < wr.heap.size := (Array.getElem?_eq_some_iff.1 hit).1
    by_cases hp : k < s.size
    · by_cases hb : Blank (s[k]'hp)
      · have ha : (s[k]'hp).toNat < 128 := by
          rcases hb with h | h | h | h <;> (rw [h]; decide)
        have hbw2 := Lib.below_iterAt hbw (k := w.heap.size) (Nat.le_refl _) s (k + 1)
        have hit2 := Lib.iterAt_heap wr w.heap.size s k (k + 1) hit
        have Hround := hide (show (∃ k_1, k_1 ≤ s.size ∧ (wr.iterAt w.heap.size s (k + 1)).heap[w.heap.size]? = some (.stringIter s k_1) ∧ Below w.heap.size w (wr.iterAt w.heap.size s (k + 1)) ∧ ∀ (j : Nat) (h : j < s.size), j < k_1 → Blank s[j]) ∧ s.size - (wr.iterAt w.heap.size s (k + 1)).iterPos w.heap.size < s.size - wr.iterPos w.heap.size from by
          refine ⟨⟨k + 1, by omega, hit2, hbw2, fun j h hj => ?_⟩, ?_⟩
          · rcases Nat.lt_or_ge j k with h1 | h1
            · exact Hpre.out j h h1
            · obtain rfl : j = k := by omega
              exact hb
          · simp only [World.iterPos, hit2, hit]
            omega)
        clear hbw2 hit2
        rcases hb with h | h | h | h
        · have hn : (s[k]'hp).toNat = 32 := by rw [h]; rfl
          have hnx : ∀ ty, (Instr.next (.pointer (some ⟨w.heap.size, 0, none⟩)) true ty).run Tryd.prog wr = .ok (.tuple #[.bool true, .int .i64 k, .int .i32 32]) (wr.iterAt w.heap.size s (k + 1)) := fun ty => by
            have := Lib.run_next_ascii_at (P := Tryd.prog) wr w.heap.size s k ty hit hp ha
            rw [hn] at this
            exact this
          clear h hn
          go_wp2_with fail
          exact Hround.out
        · have hn : (s[k]'hp).toNat = 9 := by rw [h]; rfl
          have hnx : ∀ ty, (Instr.next (.pointer (some ⟨w.heap.size, 0, none⟩)) true ty).run Tryd.prog wr = .ok (.tuple #[.bool true, .int .i64 k, .int .i32 9]) (wr.iterAt w.heap.size s (k + 1)) := fun ty => by
            have := Lib.run_next_ascii_at (P := Tryd.prog) wr w.heap.size s k ty hit hp ha
            rw [hn] at this
            exact this
          clear h hn
          go_wp2_with fail
          exact Hround.out
        · have hn : (s[k]'hp).toNat = 10 := by rw [h]; rfl
          have hnx : ∀ ty, (Instr.next (.pointer (some ⟨w.heap.size, 0, none⟩)) true ty).run Tryd.prog wr = .ok (.tuple #[.bool true, .int .i64 k, .int .i32 10]) (wr.iterAt w.heap.size s (k + 1)) := fun ty => by
            have := Lib.run_next_ascii_at (P := Tryd.prog) wr w.heap.size s k ty hit hp ha
            rw [hn] at this
            exact this
          clear h hn
          go_wp2_with fail
          exact Hround.out
        · have hn : (s[k]'hp).toNat = 13 := by rw [h]; rfl
          have hnx : ∀ ty, (Instr.next (.pointer (some ⟨w.heap.size, 0, none⟩)) true ty).run Tryd.prog wr = .ok (.tuple #[.bool true, .int .i64 k, .int .i32 13]) (wr.iterAt w.heap.size s (k + 1)) := fun ty => by
            have := Lib.run_next_ascii_at (P := Tryd.prog) wr w.heap.size s k ty hit hp ha
            rw [hn] at this
            exact this
          clear h hn
          go_wp2_with fail
          exact Hround.out
      · have hne : ∀ n : Nat, (n = 32 ∨ n = 9 ∨ n = 10 ∨ n = 13) → (Utf8.decode s k).1 ≠ n := by
          intro n hn
          by_cases ha : (s[k]'hp).toNat < 128
          · rw [decode_ascii s k hp ha]
            intro h
            have h2 : (s[k]'hp).toNat = n := h
            apply hb
            rcases hn with rfl | rfl | rfl | rfl
            · exact Or.inl (u8_of h2 (by decide))
            · exact Or.inr (Or.inl (u8_of h2 (by decide)))
            · exact Or.inr (Or.inr (Or.inl (u8_of h2 (by decide))))
            · exact Or.inr (Or.inr (Or.inr (u8_of h2 (by decide))))
          · have := (decode_high s k hp (by omega)).1
            omega
        have e1 : (((Utf8.decode s k).1 : Int) == 32) = false := by rw [beq_eq_false_iff_ne]; have := hne 32 (by simp); omega
        have e2 : (((Utf8.decode s k).1 : Int) == 9) = false := by rw [beq_eq_false_iff_ne]; have := hne 9 (by simp); omega
        have e3 : (((Utf8.decode s k).1 : Int) == 10) = false := by rw [beq_eq_false_iff_ne]; have := hne 10 (by simp); omega
        have e4 : (((Utf8.decode s k).1 : Int) == 13) = false := by rw [beq_eq_false_iff_ne]; have := hne 13 (by simp); omega
        have hnx : ∀ ty, (Instr.next (.pointer (some ⟨w.heap.size, 0, none⟩)) true ty).run Tryd.prog wr = _ := fun ty => Lib.run_next_any_at wr w.heap.size s k ty hit hp
        have Hb2 := hide (Lib.below_iterAt hbw (k := w.heap.size) (Nat.le_refl _) s (k + (Utf8.decode s k).2))
        have Hn := hide (show ¬ Blanks s.data.toList from fun h => hb (h _ (by
          have := list_at s k hp
          exact List.mem_of_getElem? this)))
        clear hne hb
        go_wp2_with fail
        go_ret
        exact ⟨Or.inr ⟨Hn.out, rfl⟩, Hb2.out⟩
    · have hnx : ∀ ty, (Instr.next (.pointer (some ⟨w.heap.size, 0, none⟩)) true ty).run Tryd.prog wr = _ := fun ty => Lib.run_next_end_at wr w.heap.size s k ty hit hp
      go_wp2_with fail
      go_ret
      refine ⟨Or.inl ⟨fun b hb => ?_, rfl⟩, hbw⟩
      obtain ⟨j, hj, rfl⟩ := List.mem_iff_getElem.1 hb
      have hj' : j < s.size := by rw [← size_list]; exact hj
      exact Hpre.out j hj' (by omega)
end Go.Proofs.YthmidlmknkbdaaaDoor
