/- The document's own Chars and Space. -/
import Derived.Test.YtaglbikjnaahnabDoorChars
import Derived.Test.YtaglbikjnaahnabDoorSpace
namespace Go.Proofs.YtaglbikjnaahnabDoor
open Go.RowKit

set_option maxHeartbeats 2000000 in
theorem refChars_any (s : ByteArray) (w : World) (hs : s.size ≤ maxLen) (hT : Lib.Utf8Tabs 1 2 w) : Calls Tryd.prog 73 #[.string s] w fun e w' => ChEnds s.data.toList e ∧ Below w.heap.size w w' := by
  unfold maxLen at hs
  have HT := hide hT
  clear hT
  go_enter Tryd.func73, Tryd.ntmps73
  go_wp2_with fail
  refine (validString s _ (by omega) HT.out).mono ?_
  rintro e w1 ⟨rfl, hb1⟩
  by_cases hv : Lib.validD s.data.toList = true
  · rw [hv]
    have hsz1 := hb1.size
    have HB := hide hb1
    clear hb1
    go_wp2_with fail
    go_loopw [] (fun wr => ∃ k : Nat, k ≤ s.size ∧ wr.heap[w1.heap.size]? = some (.stringIter s k) ∧ Below w1.heap.size w1 wr ∧ (Runes s.data.toList ↔ Runes (s.data.toList.drop k))) (fun wr => s.size - wr.iterPos w1.heap.size)
    case atStart =>
      refine ⟨0, Nat.zero_le _, ?_, (Below.refl _ w1).alloc (Nat.le_refl _) _, by simp⟩
      have := World.iter_heap w1 s 0
      simpa using this
    case round =>
      obtain ⟨k, hk, hit, hbw, hpre⟩ := hrel
      have Hpre := hide hpre
      clear hpre
      have hsz : w1.heap.size < wr.heap.size := (Array.getElem?_eq_some_iff.1 hit).1
      by_cases hp : k < s.size
      · obtain ⟨hw1, hw2⟩ := decode_width s k hp
        have hst := runes_step (s.data.toList.drop k) (by
          intro h
          have := congrArg List.length h
          rw [List.length_drop, size_list] at this
          simp at this
          omega)
        rw [Lib.decodeL_drop, List.drop_drop] at hst
        have Hst := hide hst
        clear hst
        have hnx : ∀ ty, (Instr.next (.pointer (some ⟨w1.heap.size, 0, none⟩)) true ty).run Tryd.prog wr = _ := fun ty => Lib.run_next_any_at wr w1.heap.size s k ty hit hp
        have hbw2 := Lib.below_iterAt hbw (k := w1.heap.size) (Nat.le_refl _) s (k + (Utf8.decode s k).2)
        have hit2 := Lib.iterAt_heap wr w1.heap.size s k (k + (Utf8.decode s k).2) hit
        have Hb2 := hide (show _ ∧ _ ∧ _ from ⟨hbw2, hit2, hit⟩)
        clear hbw2 hit2
        by_cases hc : CharR (Utf8.decode s k).1
        · have Hc := hide hc
          have hcs : (Utf8.decode s k).1 = 9 ∨ (Utf8.decode s k).1 = 10 ∨ (Utf8.decode s k).1 = 13 ∨ (32 ≤ (Utf8.decode s k).1 ∧ (Utf8.decode s k).1 ≠ 65534 ∧ (Utf8.decode s k).1 ≠ 65535) := hc
          have HE := hide (show (∃ k_1, k_1 ≤ s.size ∧ (wr.iterAt w1.heap.size s (k + (Utf8.decode s k).2)).heap[w1.heap.size]? = some (.stringIter s k_1) ∧ Below w1.heap.size w1 (wr.iterAt w1.heap.size s (k + (Utf8.decode s k).2)) ∧ (Runes s.data.toList ↔ Runes (s.data.toList.drop k_1))) ∧ s.size - (wr.iterAt w1.heap.size s (k + (Utf8.decode s k).2)).iterPos w1.heap.size < s.size - wr.iterPos w1.heap.size from by
            refine ⟨⟨k + (Utf8.decode s k).2, hw2, Hb2.out.2.1, Hb2.out.1, ?_⟩, ?_⟩
            · rw [Hpre.out, Hst.out]
              exact ⟨fun h => h.2, fun h => ⟨Hc.out, h⟩⟩
            · simp only [World.iterPos, Hb2.out.2.1, Hb2.out.2.2]
              omega)
          clear hc
          have e4 : (((Utf8.decode s k).1 : Int) == 65534) = false := by rw [beq_eq_false_iff_ne]; omega
          have e5 : (((Utf8.decode s k).1 : Int) == 65535) = false := by rw [beq_eq_false_iff_ne]; omega
          rcases hcs with h | h | h | ⟨h, _, _⟩
          · have d0 : decide (((Utf8.decode s k).1 : Int) < 32) = true := by simp; omega
            have d1 : (((Utf8.decode s k).1 : Int) != 9) = false := by rw [bne_eq_false_iff_eq]; omega
            clear h
            go_wp2_with fail
            exact HE.out
          · have d0 : decide (((Utf8.decode s k).1 : Int) < 32) = true := by simp; omega
            have d1 : (((Utf8.decode s k).1 : Int) != 9) = true := by rw [bne_iff_ne]; omega
            have d2 : (((Utf8.decode s k).1 : Int) != 10) = false := by rw [bne_eq_false_iff_eq]; omega
            clear h
            go_wp2_with fail
            exact HE.out
          · have d0 : decide (((Utf8.decode s k).1 : Int) < 32) = true := by simp; omega
            have d1 : (((Utf8.decode s k).1 : Int) != 9) = true := by rw [bne_iff_ne]; omega
            have d2 : (((Utf8.decode s k).1 : Int) != 10) = true := by rw [bne_iff_ne]; omega
            have d3 : (((Utf8.decode s k).1 : Int) != 13) = false := by rw [bne_eq_false_iff_eq]; omega
            clear h
            go_wp2_with fail
            exact HE.out
          · have d0 : decide (((Utf8.decode s k).1 : Int) < 32) = false := by simp; omega
            clear h
            go_wp2_with fail
            exact HE.out
        · have Hc := hide hc
          have hcs : (Utf8.decode s k).1 = 65534 ∨ (Utf8.decode s k).1 = 65535 ∨ ((Utf8.decode s k).1 < 32 ∧ (Utf8.decode s k).1 ≠ 9 ∧ (Utf8.decode s k).1 ≠ 10 ∧ (Utf8.decode s k).1 ≠ 13) := by unfold CharR at hc; omega
          have HE := hide (show ChEnds s.data.toList (.returned (.bool false)) ∧ Below w.heap.size w (wr.iterAt w1.heap.size s (k + (Utf8.decode s k).2)) from ⟨Or.inr ⟨fun h => Hc.out (Hst.out.1 (Hpre.out.1 h.2)).1, rfl⟩, HB.out.trans (Hb2.out.1.mono hsz1)⟩)
          clear hc
          rcases hcs with h | h | ⟨h, h1, h2, h3⟩
          · have d0 : decide (((Utf8.decode s k).1 : Int) < 32) = false := by simp; omega
            have d1 : (((Utf8.decode s k).1 : Int) == 65534) = true := by rw [beq_iff_eq]; omega
            clear h
            go_wp2_with fail
            go_ret
            exact HE.out
          · have d0 : decide (((Utf8.decode s k).1 : Int) < 32) = false := by simp; omega
            have d1 : (((Utf8.decode s k).1 : Int) == 65534) = false := by rw [beq_eq_false_iff_ne]; omega
            have d2 : (((Utf8.decode s k).1 : Int) == 65535) = true := by rw [beq_iff_eq]; omega
            clear h
            go_wp2_with fail
            go_ret
            exact HE.out
          · have d0 : decide (((Utf8.decode s k).1 : Int) < 32) = true := by simp; omega
            have d1 : (((Utf8.decode s k).1 : Int) != 9) = true := by rw [bne_iff_ne]; omega
            have d2 : (((Utf8.decode s k).1 : Int) != 10) = true := by rw [bne_iff_ne]; omega
            have d3 : (((Utf8.decode s k).1 : Int) != 13) = true := by rw [bne_iff_ne]; omega
            clear h h1 h2 h3
            go_wp2_with fail
            go_ret
            exact HE.out
      · have hnx : ∀ ty, (Instr.next (.pointer (some ⟨w1.heap.size, 0, none⟩)) true ty).run Tryd.prog wr = _ := fun ty => Lib.run_next_end_at wr w1.heap.size s k ty hit hp
        go_wp2_with fail
        go_ret
        refine ⟨Or.inl ⟨⟨hv, Hpre.out.2 ?_⟩, rfl⟩, HB.out.trans (hbw.mono hsz1)⟩
        rw [List.drop_eq_nil_of_le (by rw [size_list]; omega)]
        exact runes_nil
  · have hv' : Lib.validD s.data.toList = false := by simpa using hv
    rw [hv']
    go_wp2_with fail
    go_ret
    exact ⟨Or.inr ⟨fun h => hv h.1, rfl⟩, hb1⟩

theorem blank_ne {b : UInt8} (h : ¬ Blank b) : ((b.toNat : Int) != 32) = true ∧ ((b.toNat : Int) != 9) = true ∧ ((b.toNat : Int) != 10) = true ∧ ((b.toNat : Int) != 13) = true := by
  refine ⟨?_, ?_, ?_, ?_⟩ <;> (rw [bne_iff_ne]; intro e; apply h)
  · exact Or.inl (u8_of (n := 32) (by omega) (by decide))
  · exact Or.inr (Or.inl (u8_of (n := 9) (by omega) (by decide)))
  · exact Or.inr (Or.inr (Or.inl (u8_of (n := 10) (by omega) (by decide))))
  · exact Or.inr (Or.inr (Or.inr (u8_of (n := 13) (by omega) (by decide))))
set_option maxHeartbeats 1000000 in
theorem refSpace_any (s : ByteArray) (w : World) (hs : s.size ≤ maxLen) : Calls Tryd.prog 74 #[.string s] w fun e w' => SpEnds s.data.toList e ∧ w' = w := by
  unfold maxLen at hs
  go_enter Tryd.func74, Tryd.ntmps74
  go_wp2_with fail
  go_loop [3] (fun i => ∃ k : Nat, k ≤ s.size ∧ i = .int .i64 k ∧ ∀ (j : Nat) (h : j < s.size), j < k → Blank s[j]) (fun i => s.size - (intOf i).toNat)
  case atStart => exact ⟨0, Nat.zero_le _, rfl, fun j h h' => by omega⟩
  case round =>
    obtain ⟨k, hk, rfl, hpre⟩ := hrel
    have Hpre := hide hpre
    clear hpre
    by_cases hp : k < s.size
    · have h256 := (s[k]'hp).toNat_lt
      by_cases hb : Blank (s[k]'hp)
      · have Hround := hide (show ∀ (j : Nat) (h : j < s.size), j < k + 1 → Blank s[j] from fun j h hj => by
          rcases Nat.lt_or_ge j k with h1 | h1
          · exact Hpre.out j h h1
          · obtain rfl : j = k := by omega
            exact hb)
        rcases hb with h | h | h | h
        · have d1 : (((s[k]'hp).toNat : Int) != 32) = false := by rw [h]; rfl
          clear h
          go_wp2_with fail
          exact ⟨⟨k + 1, by omega, by go_num, Hround.out⟩, by simp [intOf]; omega⟩
        · have d0 : (((s[k]'hp).toNat : Int) != 32) = true := by rw [h]; rfl
          have d1 : (((s[k]'hp).toNat : Int) != 9) = false := by rw [h]; rfl
          clear h
          go_wp2_with fail
          exact ⟨⟨k + 1, by omega, by go_num, Hround.out⟩, by simp [intOf]; omega⟩
        · have d0 : (((s[k]'hp).toNat : Int) != 32) = true := by rw [h]; rfl
          have d1 : (((s[k]'hp).toNat : Int) != 9) = true := by rw [h]; rfl
          have d2 : (((s[k]'hp).toNat : Int) != 10) = false := by rw [h]; rfl
          clear h
          go_wp2_with fail
          exact ⟨⟨k + 1, by omega, by go_num, Hround.out⟩, by simp [intOf]; omega⟩
        · have d0 : (((s[k]'hp).toNat : Int) != 32) = true := by rw [h]; rfl
          have d1 : (((s[k]'hp).toNat : Int) != 9) = true := by rw [h]; rfl
          have d2 : (((s[k]'hp).toNat : Int) != 10) = true := by rw [h]; rfl
          have d3 : (((s[k]'hp).toNat : Int) != 13) = false := by rw [h]; rfl
          clear h
          go_wp2_with fail
          exact ⟨⟨k + 1, by omega, by go_num, Hround.out⟩, by simp [intOf]; omega⟩
      · obtain ⟨d0, d1, d2, d3⟩ := blank_ne hb
        have Hn := hide (show ¬ Blanks s.data.toList from fun h => hb (h _ (List.mem_of_getElem? (list_at s k hp))))
        clear hb
        go_wp2_with fail
        go_ret
        exact ⟨Or.inr ⟨Hn.out, rfl⟩, rfl⟩
    · go_wp2_with fail
      go_ret
      refine ⟨Or.inl ⟨fun b hb => ?_, rfl⟩, rfl⟩
      obtain ⟨j, hj, rfl⟩ := List.mem_iff_getElem.1 hb
      have hj' : j < s.size := by rw [← size_list]; exact hj
      exact Hpre.out j hj' (by omega)
end Go.Proofs.YtaglbikjnaahnabDoor
