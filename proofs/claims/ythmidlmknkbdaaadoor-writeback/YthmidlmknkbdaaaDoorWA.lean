/- The document's own Name. The document's own Chars and Space. The document's own entities. The document's own Escape. -/
import Derived.Test.YthmidlmknkbdaaaDoorName
import Derived.Test.YthmidlmknkbdaaaDoorChars
import Derived.Test.YthmidlmknkbdaaaDoorSpace
import Derived.Test.YthmidlmknkbdaaaDoorWS
import Derived.Test.YthmidlmknkbdaaaDoorMath
import Derived.LoopTactic
import Derived.Deep.QuietTactic
import Derived.BigQuiet
namespace Go.Proofs.YthmidlmknkbdaaaDoor
open Go.RowKit

theorem not_B {c : Int} (h : ¬ IsB c) : c < 65 ∨ (90 < c ∧ c < 97 ∧ (c == 95) = false) ∨ 122 < c := by
  unfold IsB at h
  rcases Int.lt_or_le c 65 with h1 | h1
  · exact Or.inl h1
  · rcases Int.lt_or_le 122 c with h2 | h2
    · exact Or.inr (Or.inr h2)
    · refine Or.inr (Or.inl ⟨by omega, by omega, ?_⟩)
      rw [beq_eq_false_iff_ne]; omega
theorem not_G {c : Int} (h : ¬ IsG c) : (c < 48 ∨ 57 < c) ∧ (c == 45) = false ∧ (c == 46) = false ∧ (c == 58) = false := by
  unfold IsG at h
  refine ⟨by omega, ?_, ?_, ?_⟩ <;> (rw [beq_eq_false_iff_ne]; omega)

set_option maxHeartbeats 4000000 in
theorem refName_any (s : ByteArray) (w : World) (hs : s.size ≤ maxLen) : Calls Tryd.prog 78 #[.string s] w fun e w' => NameEnds s e ∧ w' = w := by
  unfold maxLen at hs
  go_enter Tryd.func78, Tryd.ntmps78
  go_wp2_with fail
  go_loop [3] (fun i => ∃ k : Nat, k ≤ s.size ∧ i = .int .i64 k ∧ ∀ (j : Nat) (h : j < s.size), j < k → NmAt s j h) (fun i => s.size - (intOf i).toNat)
  case atStart => exact ⟨0, Nat.zero_le _, rfl, fun j h h' => by omega⟩
  case round =>
    obtain ⟨k, hk, rfl, hpre⟩ := hrel
    have Hpre := hide hpre
    clear hpre
    by_cases hp : k < s.size
    · have Hnot := hide (show ¬ NmAt s k hp → ¬ NameOk s from fun h h' => h (h'.2.2 k hp))
      have Hround := hide (show NmAt s k hp → ∀ (j : Nat) (h : j < s.size), j < k + 1 → NmAt s j h from fun hok j h hj => by
        rcases Nat.lt_or_ge j k with h1 | h1
        · exact Hpre.out j h h1
        · obtain rfl : j = k := by omega
          exact hok)
      have h256 := (s[k]'hp).toNat_lt
      by_cases hb : IsB (s[k]'hp).toNat
      · have Hb := hide hb
        rcases hb with ⟨h1, h2⟩ | ⟨h1, h2⟩ | h1
        · have h3 : ¬ (97 ≤ ((s[k]'hp).toNat : Int)) := by omega
          have h4 : decide (((s[k]'hp).toNat : Int) ≤ 90) = true := by simp; omega
          go_wp2_with fail
          exact ⟨⟨k + 1, by omega, by go_num, Hround.out (Or.inl Hb.out)⟩, by simp [intOf]; omega⟩
        · have h4 : decide (((s[k]'hp).toNat : Int) ≤ 122) = true := by simp; omega
          go_wp2_with fail
          exact ⟨⟨k + 1, by omega, by go_num, Hround.out (Or.inl Hb.out)⟩, by simp [intOf]; omega⟩
        · have h3 : ¬ (97 ≤ ((s[k]'hp).toNat : Int)) := by omega
          have h4 : (65 ≤ ((s[k]'hp).toNat : Int)) := by omega
          have h5 : decide (((s[k]'hp).toNat : Int) ≤ 90) = false := by simp; omega
          have h6 : (((s[k]'hp).toNat : Int) == 95) = true := by rw [beq_iff_eq]; exact h1
          clear h1
          go_wp2_with fail
          exact ⟨⟨k + 1, by omega, by go_num, Hround.out (Or.inl Hb.out)⟩, by simp [intOf]; omega⟩
      · have Hb := hide hb
        have hnb := not_B hb
        clear hb
        by_cases hk0 : k = 0
        · have hk0' : ((k : Int) == 0) = true := by rw [beq_iff_eq]; omega
          have Hno := hide (Hnot.out (fun h => by
            rcases h with h | ⟨h, _⟩
            · exact Hb.out h
            · omega))
          clear hk0
          rcases hnb with h1 | ⟨h1, h2, h3⟩ | h1
          · have h3 : ¬ (97 ≤ ((s[k]'hp).toNat : Int)) := by omega
            have h4 : ¬ (65 ≤ ((s[k]'hp).toNat : Int)) := by omega
            have h5 : (((s[k]'hp).toNat : Int) == 95) = false := by rw [beq_eq_false_iff_ne]; omega
            go_wp2_with fail
            go_ret
            exact ⟨Or.inr ⟨Hno.out, rfl⟩, rfl⟩
          · have h4 : ¬ (97 ≤ ((s[k]'hp).toNat : Int)) := by omega
            have h5 : (65 ≤ ((s[k]'hp).toNat : Int)) := by omega
            have h6 : decide (((s[k]'hp).toNat : Int) ≤ 90) = false := by simp; omega
            go_wp2_with fail
            go_ret
            exact ⟨Or.inr ⟨Hno.out, rfl⟩, rfl⟩
          · have h4 : (97 ≤ ((s[k]'hp).toNat : Int)) := by omega
            have h7 : decide (((s[k]'hp).toNat : Int) ≤ 122) = false := by simp; omega
            have h5 : (65 ≤ ((s[k]'hp).toNat : Int)) := by omega
            have h6 : decide (((s[k]'hp).toNat : Int) ≤ 90) = false := by simp; omega
            have h8 : (((s[k]'hp).toNat : Int) == 95) = false := by rw [beq_eq_false_iff_ne]; omega
            go_wp2_with fail
            go_ret
            exact ⟨Or.inr ⟨Hno.out, rfl⟩, rfl⟩
        · have hk0' : ((k : Int) == 0) = false := by rw [beq_eq_false_iff_ne]; omega
          by_cases hg : IsG (s[k]'hp).toNat
          · have Hg := hide (show NmAt s k hp from Or.inr ⟨by omega, hg⟩)
            have hcmp : ¬ (97 ≤ ((s[k]'hp).toNat : Int)) ∧ ¬ (65 ≤ ((s[k]'hp).toNat : Int)) ∧ (((s[k]'hp).toNat : Int) == 95) = false := by
              unfold IsG at hg
              refine ⟨by omega, by omega, ?_⟩
              rw [beq_eq_false_iff_ne]; omega
            obtain ⟨g1, g2, g3⟩ := hcmp
            clear hnb
            rcases hg with ⟨h1, h2⟩ | h1 | h1 | h1
            · have h3 : decide (((s[k]'hp).toNat : Int) ≤ 57) = true := by simp; omega
              go_wp2_with fail
              exact ⟨⟨k + 1, by omega, by go_num, Hround.out Hg.out⟩, by simp [intOf]; omega⟩
            · have h2 : (((s[k]'hp).toNat : Int) == 45) = true := by rw [beq_iff_eq]; exact h1
              have h3 : ¬ (48 ≤ ((s[k]'hp).toNat : Int)) := by omega
              clear h1
              go_wp2_with fail
              exact ⟨⟨k + 1, by omega, by go_num, Hround.out Hg.out⟩, by simp [intOf]; omega⟩
            · have h2 : (((s[k]'hp).toNat : Int) == 46) = true := by rw [beq_iff_eq]; exact h1
              have h4 : (((s[k]'hp).toNat : Int) == 45) = false := by rw [beq_eq_false_iff_ne]; omega
              have h3 : ¬ (48 ≤ ((s[k]'hp).toNat : Int)) := by omega
              clear h1
              go_wp2_with fail
              exact ⟨⟨k + 1, by omega, by go_num, Hround.out Hg.out⟩, by simp [intOf]; omega⟩
            · have h2 : (((s[k]'hp).toNat : Int) == 58) = true := by rw [beq_iff_eq]; exact h1
              have h4 : (((s[k]'hp).toNat : Int) == 45) = false := by rw [beq_eq_false_iff_ne]; omega
              have h5 : (((s[k]'hp).toNat : Int) == 46) = false := by rw [beq_eq_false_iff_ne]; omega
              have h3 : (48 ≤ ((s[k]'hp).toNat : Int)) := by omega
              have h6 : decide (((s[k]'hp).toNat : Int) ≤ 57) = false := by simp; omega
              clear h1
              go_wp2_with fail
              exact ⟨⟨k + 1, by omega, by go_num, Hround.out Hg.out⟩, by simp [intOf]; omega⟩
          · obtain ⟨g0, g1, g2, g3⟩ := not_G hg
            have Hno := hide (Hnot.out (fun h => by
              rcases h with h | ⟨_, h⟩
              · exact Hb.out h
              · exact hg h))
            clear hg
            have g4 : (48 ≤ ((s[k]'hp).toNat : Int) → decide (((s[k]'hp).toNat : Int) ≤ 57) = false) := fun h => by simp; omega
            rcases hnb with h1 | ⟨h1, h2, h3⟩ | h1
            · have h3 : ¬ (97 ≤ ((s[k]'hp).toNat : Int)) := by omega
              have h4 : ¬ (65 ≤ ((s[k]'hp).toNat : Int)) := by omega
              have h5 : (((s[k]'hp).toNat : Int) == 95) = false := by rw [beq_eq_false_iff_ne]; omega
              rcases g0 with g0 | g0
              · have g5 : ¬ (48 ≤ ((s[k]'hp).toNat : Int)) := by omega
                go_wp2_with fail
                go_ret
                exact ⟨Or.inr ⟨Hno.out, rfl⟩, rfl⟩
              · have g5 : (48 ≤ ((s[k]'hp).toNat : Int)) := by omega
                have g6 := g4 g5
                go_wp2_with fail
                go_ret
                exact ⟨Or.inr ⟨Hno.out, rfl⟩, rfl⟩
            · have h4 : ¬ (97 ≤ ((s[k]'hp).toNat : Int)) := by omega
              have h5 : (65 ≤ ((s[k]'hp).toNat : Int)) := by omega
              have h6 : decide (((s[k]'hp).toNat : Int) ≤ 90) = false := by simp; omega
              have g5 : (48 ≤ ((s[k]'hp).toNat : Int)) := by omega
              have g6 := g4 g5
              go_wp2_with fail
              go_ret
              exact ⟨Or.inr ⟨Hno.out, rfl⟩, rfl⟩
            · have h4 : (97 ≤ ((s[k]'hp).toNat : Int)) := by omega
              have h7 : decide (((s[k]'hp).toNat : Int) ≤ 122) = false := by simp; omega
              have h5 : (65 ≤ ((s[k]'hp).toNat : Int)) := by omega
              have h6 : decide (((s[k]'hp).toNat : Int) ≤ 90) = false := by simp; omega
              have h8 : (((s[k]'hp).toNat : Int) == 95) = false := by rw [beq_eq_false_iff_ne]; omega
              have g5 : (48 ≤ ((s[k]'hp).toNat : Int)) := by omega
              have g6 := g4 g5
              go_wp2_with fail
              go_ret
              exact ⟨Or.inr ⟨Hno.out, rfl⟩, rfl⟩
    · by_cases h1 : 1 ≤ s.size
      · have h2 : (1 ≤ (s.size : Int)) := by omega
        by_cases h3 : s.size ≤ 32
        · have h4 : decide ((s.size : Int) ≤ 32) = true := by simp; omega
          go_wp2_with fail
          go_ret
          exact ⟨Or.inl ⟨⟨h1, h3, fun j h => Hpre.out j h (by omega)⟩, rfl⟩, rfl⟩
        · have h4 : decide ((s.size : Int) ≤ 32) = false := by simp; omega
          go_wp2_with fail
          go_ret
          exact ⟨Or.inr ⟨fun h => h3 h.2.1, rfl⟩, rfl⟩
      · have h2 : ¬ (1 ≤ (s.size : Int)) := by omega
        go_wp2_with fail
        go_ret
        exact ⟨Or.inr ⟨fun h => h1 h.1, rfl⟩, rfl⟩
end Go.Proofs.YthmidlmknkbdaaaDoor
namespace Go.Proofs.YthmidlmknkbdaaaDoor
open Go.RowKit

set_option maxHeartbeats 2000000 in
theorem refChars_any (s : ByteArray) (w : World) (hs : s.size ≤ maxLen) (hT : Lib.Utf8Tabs 1 2 w) : Calls Tryd.prog 58 #[.string s] w fun e w' => ChEnds s.data.toList e ∧ Below w.heap.size w w' := by
  unfold maxLen at hs
  have HT := hide hT
  clear hT
  go_enter Tryd.func58, Tryd.ntmps58
  go_wp2_with fail
  refine (validString s _ (by omega) HT.out).mono ?_
  rintro e w1 ⟨rfl, hb1⟩
  by_cases hv : Lib.validD s.data.toList = true
  · rw [hv]
    have hsz1 := hb1.size
    have HB := hide hb1
    clear hb1
    go_wp2_with fail
    go_loopw [] (fun wr => ∃ k : Nat, k ≤ s.size ∧ wr.heap[w1.heap.size]? = some (.stringIter s k) ∧ Below w1.heap.size w1 wr ∧ (Runes s.data.toList ↔ Runes (s.data.toList.drop k))) (fun wr => s.size - wr.iterPos w1.heap.size)
    case atStart =>
      refine ⟨0, Nat.zero_le _, ?_, (Below.refl _ w1).alloc (Nat.le_refl _) _, by simp⟩
      have := World.iter_heap w1 s 0
      simpa using this
    case round =>
      obtain ⟨k, hk, hit, hbw, hpre⟩ := hrel
      have Hpre := hide hpre
      clear hpre
      have hsz : w1.heap.size < wr.heap.size := (Array.getElem?_eq_some_iff.1 hit).1
      by_cases hp : k < s.size
      · obtain ⟨hw1, hw2⟩ := decode_width s k hp
        have hst := runes_step (s.data.toList.drop k) (by
          intro h
          have := congrArg List.length h
          rw [List.length_drop, size_list] at this
          simp at this
          omega)
        rw [Lib.decodeL_drop, List.drop_drop] at hst
        have Hst := hide hst
        clear hst
        have hnx : ∀ ty, (Instr.next (.pointer (some ⟨w1.heap.size, 0, none⟩)) true ty).run Tryd.prog wr = _ := fun ty => Lib.run_next_any_at wr w1.heap.size s k ty hit hp
        have hbw2 := Lib.below_iterAt hbw (k := w1.heap.size) (Nat.le_refl _) s (k + (Utf8.decode s k).2)
        have hit2 := Lib.iterAt_heap wr w1.heap.size s k (k + (Utf8.decode s k).2) hit
        have Hb2 := hide (show _ ∧ _ ∧ _ from ⟨hbw2, hit2, hit⟩)
        clear hbw2 hit2
        by_cases hc : CharR (Utf8.decode s k).1
        · have Hc := hide hc
          have hcs : (Utf8.decode s k).1 = 9 ∨ (Utf8.decode s k).1 = 10 ∨ (Utf8.decode s k).1 = 13 ∨ (32 ≤ (Utf8.decode s k).1 ∧ (Utf8.decode s k).1 ≠ 65534 ∧ (Utf8.decode s k).1 ≠ 65535) := hc
          have HE := hide (show (∃ k_1, k_1 ≤ s.size ∧ (wr.iterAt w1.heap.size s (k + (Utf8.decode s k).2)).heap[w1.heap.size]? = some (.stringIter s k_1) ∧ Below w1.heap.size w1 (wr.iterAt w1.heap.size s (k + (Utf8.decode s k).2)) ∧ (Runes s.data.toList ↔ Runes (s.data.toList.drop k_1))) ∧ s.size - (wr.iterAt w1.heap.size s (k + (Utf8.decode s k).2)).iterPos w1.heap.size < s.size - wr.iterPos w1.heap.size from by
            refine ⟨⟨k + (Utf8.decode s k).2, hw2, Hb2.out.2.1, Hb2.out.1, ?_⟩, ?_⟩
            · rw [Hpre.out, Hst.out]
              exact ⟨fun h => h.2, fun h => ⟨Hc.out, h⟩⟩
            · simp only [World.iterPos, Hb2.out.2.1, Hb2.out.2.2]
              omega)
          clear hc
          have e4 : (((Utf8.decode s k).1 : Int) == 65534) = false := by rw [beq_eq_false_iff_ne]; omega
          have e5 : (((Utf8.decode s k).1 : Int) == 65535) = false := by rw [beq_eq_false_iff_ne]; omega
          rcases hcs with h | h | h | ⟨h, _, _⟩
          · have d0 : decide (((Utf8.decode s k).1 : Int) < 32) = true := by simp; omega
            have d1 : (((Utf8.decode s k).1 : Int) != 9) = false := by rw [bne_eq_false_iff_eq]; omega
            clear h
            go_wp2_with fail
            exact HE.out
          · have d0 : decide (((Utf8.decode s k).1 : Int) < 32) = true := by simp; omega
            have d1 : (((Utf8.decode s k).1 : Int) != 9) = true := by rw [bne_iff_ne]; omega
            have d2 : (((Utf8.decode s k).1 : Int) != 10) = false := by rw [bne_eq_false_iff_eq]; omega
            clear h
            go_wp2_with fail
            exact HE.out
          · have d0 : decide (((Utf8.decode s k).1 : Int) < 32) = true := by simp; omega
            have d1 : (((Utf8.decode s k).1 : Int) != 9) = true := by rw [bne_iff_ne]; omega
            have d2 : (((Utf8.decode s k).1 : Int) != 10) = true := by rw [bne_iff_ne]; omega
            have d3 : (((Utf8.decode s k).1 : Int) != 13) = false := by rw [bne_eq_false_iff_eq]; omega
            clear h
            go_wp2_with fail
            exact HE.out
          · have d0 : decide (((Utf8.decode s k).1 : Int) < 32) = false := by simp; omega
            clear h
            go_wp2_with fail
            exact HE.out
        · have Hc := hide hc
          have hcs : (Utf8.decode s k).1 = 65534 ∨ (Utf8.decode s k).1 = 65535 ∨ ((Utf8.decode s k).1 < 32 ∧ (Utf8.decode s k).1 ≠ 9 ∧ (Utf8.decode s k).1 ≠ 10 ∧ (Utf8.decode s k).1 ≠ 13) := by unfold CharR at hc; omega
          have HE := hide (show ChEnds s.data.toList (.returned (.bool false)) ∧ Below w.heap.size w (wr.iterAt w1.heap.size s (k + (Utf8.decode s k).2)) from ⟨Or.inr ⟨fun h => Hc.out (Hst.out.1 (Hpre.out.1 h.2)).1, rfl⟩, HB.out.trans (Hb2.out.1.mono hsz1)⟩)
          clear hc
          rcases hcs with h | h | ⟨h, h1, h2, h3⟩
          · have d0 : decide (((Utf8.decode s k).1 : Int) < 32) = false := by simp; omega
            have d1 : (((Utf8.decode s k).1 : Int) == 65534) = true := by rw [beq_iff_eq]; omega
            clear h
            go_wp2_with fail
            go_ret
            exact HE.out
          · have d0 : decide (((Utf8.decode s k).1 : Int) < 32) = false := by simp; omega
            have d1 : (((Utf8.decode s k).1 : Int) == 65534) = false := by rw [beq_eq_false_iff_ne]; omega
            have d2 : (((Utf8.decode s k).1 : Int) == 65535) = true := by rw [beq_iff_eq]; omega
            clear h
            go_wp2_with fail
            go_ret
            exact HE.out
          · have d0 : decide (((Utf8.decode s k).1 : Int) < 32) = true := by simp; omega
            have d1 : (((Utf8.decode s k).1 : Int) != 9) = true := by rw [bne_iff_ne]; omega
            have d2 : (((Utf8.decode s k).1 : Int) != 10) = true := by rw [bne_iff_ne]; omega
            have d3 : (((Utf8.decode s k).1 : Int) != 13) = true := by rw [bne_iff_ne]; omega
            clear h h1 h2 h3
            go_wp2_with fail
            go_ret
            exact HE.out
      · have hnx : ∀ ty, (Instr.next (.pointer (some ⟨w1.heap.size, 0, none⟩)) true ty).run Tryd.prog wr = _ := fun ty => Lib.run_next_end_at wr w1.heap.size s k ty hit hp
        go_wp2_with fail
        go_ret
        refine ⟨Or.inl ⟨⟨hv, Hpre.out.2 ?_⟩, rfl⟩, HB.out.trans (hbw.mono hsz1)⟩
        rw [List.drop_eq_nil_of_le (by rw [size_list]; omega)]
        exact runes_nil
  · have hv' : Lib.validD s.data.toList = false := by simpa using hv
    rw [hv']
    go_wp2_with fail
    go_ret
    exact ⟨Or.inr ⟨fun h => hv h.1, rfl⟩, hb1⟩

theorem blank_ne {b : UInt8} (h : ¬ Blank b) : ((b.toNat : Int) != 32) = true ∧ ((b.toNat : Int) != 9) = true ∧ ((b.toNat : Int) != 10) = true ∧ ((b.toNat : Int) != 13) = true := by
  refine ⟨?_, ?_, ?_, ?_⟩ <;> (rw [bne_iff_ne]; intro e; apply h)
  · exact Or.inl (u8_of (n := 32) (by omega) (by decide))
  · exact Or.inr (Or.inl (u8_of (n := 9) (by omega) (by decide)))
  · exact Or.inr (Or.inr (Or.inl (u8_of (n := 10) (by omega) (by decide))))
  · exact Or.inr (Or.inr (Or.inr (u8_of (n := 13) (by omega) (by decide))))
set_option maxHeartbeats 1000000 in
theorem refSpace_any (s : ByteArray) (w : World) (hs : s.size ≤ maxLen) : Calls Tryd.prog 59 #[.string s] w fun e w' => SpEnds s.data.toList e ∧ w' = w := by
  unfold maxLen at hs
  go_enter Tryd.func59, Tryd.ntmps59
  go_wp2_with fail
  go_loop [3] (fun i => ∃ k : Nat, k ≤ s.size ∧ i = .int .i64 k ∧ ∀ (j : Nat) (h : j < s.size), j < k → Blank s[j]) (fun i => s.size - (intOf i).toNat)
  case atStart => exact ⟨0, Nat.zero_le _, rfl, fun j h h' => by omega⟩
  case round =>
    obtain ⟨k, hk, rfl, hpre⟩ := hrel
    have Hpre := hide hpre
    clear hpre
    by_cases hp : k < s.size
    · have h256 := (s[k]'hp).toNat_lt
      by_cases hb : Blank (s[k]'hp)
      · have Hround := hide (show ∀ (j : Nat) (h : j < s.size), j < k + 1 → Blank s[j] from fun j h hj => by
          rcases Nat.lt_or_ge j k with h1 | h1
          · exact Hpre.out j h h1
          · obtain rfl : j = k := by omega
            exact hb)
        rcases hb with h | h | h | h
        · have d1 : (((s[k]'hp).toNat : Int) != 32) = false := by rw [h]; rfl
          clear h
          go_wp2_with fail
          exact ⟨⟨k + 1, by omega, by go_num, Hround.out⟩, by simp [intOf]; omega⟩
        · have d0 : (((s[k]'hp).toNat : Int) != 32) = true := by rw [h]; rfl
          have d1 : (((s[k]'hp).toNat : Int) != 9) = false := by rw [h]; rfl
          clear h
          go_wp2_with fail
          exact ⟨⟨k + 1, by omega, by go_num, Hround.out⟩, by simp [intOf]; omega⟩
        · have d0 : (((s[k]'hp).toNat : Int) != 32) = true := by rw [h]; rfl
          have d1 : (((s[k]'hp).toNat : Int) != 9) = true := by rw [h]; rfl
          have d2 : (((s[k]'hp).toNat : Int) != 10) = false := by rw [h]; rfl
          clear h
          go_wp2_with fail
          exact ⟨⟨k + 1, by omega, by go_num, Hround.out⟩, by simp [intOf]; omega⟩
        · have d0 : (((s[k]'hp).toNat : Int) != 32) = true := by rw [h]; rfl
          have d1 : (((s[k]'hp).toNat : Int) != 9) = true := by rw [h]; rfl
          have d2 : (((s[k]'hp).toNat : Int) != 10) = true := by rw [h]; rfl
          have d3 : (((s[k]'hp).toNat : Int) != 13) = false := by rw [h]; rfl
          clear h
          go_wp2_with fail
          exact ⟨⟨k + 1, by omega, by go_num, Hround.out⟩, by simp [intOf]; omega⟩
      · obtain ⟨d0, d1, d2, d3⟩ := blank_ne hb
        have Hn := hide (show ¬ Blanks s.data.toList from fun h => hb (h _ (List.mem_of_getElem? (list_at s k hp))))
        clear hb
        go_wp2_with fail
        go_ret
        exact ⟨Or.inr ⟨Hn.out, rfl⟩, rfl⟩
    · go_wp2_with fail
      go_ret
      refine ⟨Or.inl ⟨fun b hb => ?_, rfl⟩, rfl⟩
      obtain ⟨j, hj, rfl⟩ := List.mem_iff_getElem.1 hb
      have hj' : j < s.size := by rw [← size_list]; exact hj
      exact Hpre.out j hj' (by omega)
end Go.Proofs.YthmidlmknkbdaaaDoor
namespace Go.Proofs.YthmidlmknkbdaaaDoor
open Go.RowKit

def refCs : Array Value := #[.string ⟨#[38]⟩, .string ⟨#[38, 97, 109, 112, 59]⟩, .string ⟨#[60]⟩, .string ⟨#[38, 108, 116, 59]⟩, .string ⟨#[62]⟩, .string ⟨#[38, 103, 116, 59]⟩, .string ⟨#[39]⟩, .string ⟨#[38, 97, 112, 111, 115, 59]⟩, .string ⟨#[34]⟩, .string ⟨#[38, 113, 117, 111, 116, 59]⟩]
theorem refEnt_any (w : World) : Calls Tryd.prog 75 #[] w fun e w' => e = .returned (.slice (some ⟨w.heap.size, 0, none⟩) 5 5) ∧ w' = w.alloc (.cells refCs 115) := by
  go_enter Tryd.func75, Tryd.ntmps75
  go_wp2_with fail
  go_ret
  exact ⟨rfl, rfl⟩
end Go.Proofs.YthmidlmknkbdaaaDoor
namespace Go.Proofs.YthmidlmknkbdaaaDoor
open Go.RowKit

def refA (k : Nat) : ByteArray := match k with | 0 => ⟨#[38]⟩ | 1 => ⟨#[60]⟩ | 2 => ⟨#[62]⟩ | 3 => ⟨#[39]⟩ | _ => ⟨#[34]⟩
def refB (k : Nat) : ByteArray := match k with | 0 => ⟨#[38, 97, 109, 112, 59]⟩ | 1 => ⟨#[38, 108, 116, 59]⟩ | 2 => ⟨#[38, 103, 116, 59]⟩ | 3 => ⟨#[38, 97, 112, 111, 115, 59]⟩ | _ => ⟨#[38, 113, 117, 111, 116, 59]⟩
def cAfter (b : UInt8) : Nat → ByteArray
  | 0 => ⟨#[b]⟩
  | k + 1 => if (refA k).data.toList = [b] then refB k else cAfter b k

theorem ext_one (s : ByteArray) (i : Nat) (h : i < s.size) : s.extract i (i + 1) = ⟨#[s[i]]⟩ := by
  apply ByteArray.ext
  apply Array.toList_inj.1
  have h1 := ext_list s i (i + 1)
  rw [h1, show i + 1 - i = 1 by omega]
  have h2 := list_at s i h
  rw [List.take_one, List.head?_drop, h2]
  rfl
theorem slice_one (s : ByteArray) (i : Nat) (h : i < s.size) (w : World) : (Instr.slice 9 (.string s) (some (.int .i64 i)) (some (.int .i64 (i + 1))) none).run Tryd.prog w = .ok (.string ⟨#[s[i]]⟩) w := by
  rw [run_slice_string (P := Tryd.prog) w 9 s .i64 .i64 i (i + 1) Tryd.underlying9 (by omega) (by omega) (by omega)]
  rw [show (((i : Int) + 1).toNat) = i + 1 by omega, Int.toNat_natCast, ext_one s i h]
theorem ref_cell (k : Nat) (h : k < 5) : refCs[k * 2]? = some (.string (refA k)) ∧ refCs[k * 2 + 1]? = some (.string (refB k)) := by
  have hk : k = 0 ∨ k = 1 ∨ k = 2 ∨ k = 3 ∨ k = 4 := by omega
  rcases hk with rfl | rfl | rfl | rfl | rfl <;> exact ⟨rfl, rfl⟩
set_option maxRecDepth 100000 in
theorem cAfter_fin : ∀ n : Fin 256, (cAfter (UInt8.ofNat n.val) 5).data.toList = escB (UInt8.ofNat n.val) := by decide
theorem cAfter_esc (b : UInt8) : (cAfter b 5).data.toList = escB b := by
  have := cAfter_fin ⟨b.toNat, b.toNat_lt⟩
  simpa using this
theorem esc_more (l : List UInt8) (i : Nat) (b : UInt8) (h : l[i]? = some b) : esc (l.take (i + 1)) = esc (l.take i) ++ escB b := by
  rw [List.take_add_one, h, esc_append]
  simp [esc]

end Go.Proofs.YthmidlmknkbdaaaDoor
