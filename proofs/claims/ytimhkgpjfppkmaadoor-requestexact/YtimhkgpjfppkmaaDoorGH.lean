/- The document's own Name. Contract of Space: each byte is a blank. The document's own Chars and Space. A token by itself, as the document says it. -/
import Derived.Test.YtimhkgpjfppkmaaDoorGM
import Derived.Test.YtimhkgpjfppkmaaDoorSmall
import Derived.Test.YtimhkgpjfppkmaaDoorMath
import Derived.LoopTactic
import Derived.Test.YtimhkgpjfppkmaaDoorChars
import Derived.Test.YtimhkgpjfppkmaaDoorRefSame
namespace Go.Proofs.YtimhkgpjfppkmaaDoor
open Go.RowKit

theorem not_B {c : Int} (h : ¬ IsB c) : c < 65 ∨ (90 < c ∧ c < 97 ∧ (c == 95) = false) ∨ 122 < c := by
  unfold IsB at h
  rcases Int.lt_or_le c 65 with h1 | h1
  · exact Or.inl h1
  · rcases Int.lt_or_le 122 c with h2 | h2
    · exact Or.inr (Or.inr h2)
    · refine Or.inr (Or.inl ⟨by omega, by omega, ?_⟩)
      rw [beq_eq_false_iff_ne]; omega
theorem not_G {c : Int} (h : ¬ IsG c) : (c < 48 ∨ 57 < c) ∧ (c == 45) = false ∧ (c == 46) = false ∧ (c == 58) = false := by
  unfold IsG at h
  refine ⟨by omega, ?_, ?_, ?_⟩ <;> (rw [beq_eq_false_iff_ne]; omega)

set_option maxHeartbeats 4000000 in
theorem refName_any (s : ByteArray) (w : World) (hs : s.size ≤ maxLen) : Calls Tryd.prog 56 #[.string s] w fun e w' => NameEnds s e ∧ w' = w := by
  unfold maxLen at hs
  go_enter Tryd.func56, Tryd.ntmps56
  go_wp2_with fail
  go_loop [3] (fun i => ∃ k : Nat, k ≤ s.size ∧ i = .int .i64 k ∧ ∀ (j : Nat) (h : j < s.size), j < k → NmAt s j h) (fun i => s.size - (intOf i).toNat)
  case atStart => exact ⟨0, Nat.zero_le _, rfl, fun j h h' => by omega⟩
  case round =>
    obtain ⟨k, hk, rfl, hpre⟩ := hrel
    have Hpre := hide hpre
    clear hpre
    by_cases hp : k < s.size
    · have Hnot := hide (show ¬ NmAt s k hp → ¬ NameOk s from fun h h' => h (h'.2.2 k hp))
      have Hround := hide (show NmAt s k hp → ∀ (j : Nat) (h : j < s.size), j < k + 1 → NmAt s j h from fun hok j h hj => by
        rcases Nat.lt_or_ge j k with h1 | h1
        · exact Hpre.out j h h1
        · obtain rfl : j = k := by omega
          exact hok)
      have h256 := (s[k]'hp).toNat_lt
      by_cases hb : IsB (s[k]'hp).toNat
      · have Hb := hide hb
        rcases hb with ⟨h1, h2⟩ | ⟨h1, h2⟩ | h1
        · have h3 : ¬ (97 ≤ ((s[k]'hp).toNat : Int)) := by omega
          have h4 : decide (((s[k]'hp).toNat : Int) ≤ 90) = true := by simp; omega
          go_wp2_with fail
          exact ⟨⟨k + 1, by omega, by go_num, Hround.out (Or.inl Hb.out)⟩, by simp [intOf]; omega⟩
        · have h4 : decide (((s[k]'hp).toNat : Int) ≤ 122) = true := by simp; omega
          go_wp2_with fail
          exact ⟨⟨k + 1, by omega, by go_num, Hround.out (Or.inl Hb.out)⟩, by simp [intOf]; omega⟩
        · have h3 : ¬ (97 ≤ ((s[k]'hp).toNat : Int)) := by omega
          have h4 : (65 ≤ ((s[k]'hp).toNat : Int)) := by omega
          have h5 : decide (((s[k]'hp).toNat : Int) ≤ 90) = false := by simp; omega
          have h6 : (((s[k]'hp).toNat : Int) == 95) = true := by rw [beq_iff_eq]; exact h1
          clear h1
          go_wp2_with fail
          exact ⟨⟨k + 1, by omega, by go_num, Hround.out (Or.inl Hb.out)⟩, by simp [intOf]; omega⟩
      · have Hb := hide hb
        have hnb := not_B hb
        clear hb
        by_cases hk0 : k = 0
        · have hk0' : ((k : Int) == 0) = true := by rw [beq_iff_eq]; omega
          have Hno := hide (Hnot.out (fun h => by
            rcases h with h | ⟨h, _⟩
            · exact Hb.out h
            · omega))
          clear hk0
          rcases hnb with h1 | ⟨h1, h2, h3⟩ | h1
          · have h3 : ¬ (97 ≤ ((s[k]'hp).toNat : Int)) := by omega
            have h4 : ¬ (65 ≤ ((s[k]'hp).toNat : Int)) := by omega
            have h5 : (((s[k]'hp).toNat : Int) == 95) = false := by rw [beq_eq_false_iff_ne]; omega
            go_wp2_with fail
            go_ret
            exact ⟨Or.inr ⟨Hno.out, rfl⟩, rfl⟩
          · have h4 : ¬ (97 ≤ ((s[k]'hp).toNat : Int)) := by omega
            have h5 : (65 ≤ ((s[k]'hp).toNat : Int)) := by omega
            have h6 : decide (((s[k]'hp).toNat : Int) ≤ 90) = false := by simp; omega
            go_wp2_with fail
            go_ret
            exact ⟨Or.inr ⟨Hno.out, rfl⟩, rfl⟩
          · have h4 : (97 ≤ ((s[k]'hp).toNat : Int)) := by omega
            have h7 : decide (((s[k]'hp).toNat : Int) ≤ 122) = false := by simp; omega
            have h5 : (65 ≤ ((s[k]'hp).toNat : Int)) := by omega
            have h6 : decide (((s[k]'hp).toNat : Int) ≤ 90) = false := by simp; omega
            have h8 : (((s[k]'hp).toNat : Int) == 95) = false := by rw [beq_eq_false_iff_ne]; omega
            go_wp2_with fail
            go_ret
            exact ⟨Or.inr ⟨Hno.out, rfl⟩, rfl⟩
        · have hk0' : ((k : Int) == 0) = false := by rw [beq_eq_false_iff_ne]; omega
          by_cases hg : IsG (s[k]'hp).toNat
          · have Hg := hide (show NmAt s k hp from Or.inr ⟨by omega, hg⟩)
            have hcmp : ¬ (97 ≤ ((s[k]'hp).toNat : Int)) ∧ ¬ (65 ≤ ((s[k]'hp).toNat : Int)) ∧ (((s[k]'hp).toNat : Int) == 95) = false := by
              unfold IsG at hg
              refine ⟨by omega, by omega, ?_⟩
              rw [beq_eq_false_iff_ne]; omega
            obtain ⟨g1, g2, g3⟩ := hcmp
            clear hnb
            rcases hg with ⟨h1, h2⟩ | h1 | h1 | h1
            · have h3 : decide (((s[k]'hp).toNat : Int) ≤ 57) = true := by simp; omega
              go_wp2_with fail
              exact ⟨⟨k + 1, by omega, by go_num, Hround.out Hg.out⟩, by simp [intOf]; omega⟩
            · have h2 : (((s[k]'hp).toNat : Int) == 45) = true := by rw [beq_iff_eq]; exact h1
              have h3 : ¬ (48 ≤ ((s[k]'hp).toNat : Int)) := by omega
              clear h1
              go_wp2_with fail
              exact ⟨⟨k + 1, by omega, by go_num, Hround.out Hg.out⟩, by simp [intOf]; omega⟩
            · have h2 : (((s[k]'hp).toNat : Int) == 46) = true := by rw [beq_iff_eq]; exact h1
              have h4 : (((s[k]'hp).toNat : Int) == 45) = false := by rw [beq_eq_false_iff_ne]; omega
              have h3 : ¬ (48 ≤ ((s[k]'hp).toNat : Int)) := by omega
              clear h1
              go_wp2_with fail
              exact ⟨⟨k + 1, by omega, by go_num, Hround.out Hg.out⟩, by simp [intOf]; omega⟩
            · have h2 : (((s[k]'hp).toNat : Int) == 58) = true := by rw [beq_iff_eq]; exact h1
              have h4 : (((s[k]'hp).toNat : Int) == 45) = false := by rw [beq_eq_false_iff_ne]; omega
              have h5 : (((s[k]'hp).toNat : Int) == 46) = false := by rw [beq_eq_false_iff_ne]; omega
              have h3 : (48 ≤ ((s[k]'hp).toNat : Int)) := by omega
              have h6 : decide (((s[k]'hp).toNat : Int) ≤ 57) = false := by simp; omega
              clear h1
              go_wp2_with fail
              exact ⟨⟨k + 1, by omega, by go_num, Hround.out Hg.out⟩, by simp [intOf]; omega⟩
          · obtain ⟨g0, g1, g2, g3⟩ := not_G hg
            have Hno := hide (Hnot.out (fun h => by
              rcases h with h | ⟨_, h⟩
              · exact Hb.out h
              · exact hg h))
            clear hg
            have g4 : (48 ≤ ((s[k]'hp).toNat : Int) → decide (((s[k]'hp).toNat : Int) ≤ 57) = false) := fun h => by simp; omega
            rcases hnb with h1 | ⟨h1, h2, h3⟩ | h1
            · have h3 : ¬ (97 ≤ ((s[k]'hp).toNat : Int)) := by omega
              have h4 : ¬ (65 ≤ ((s[k]'hp).toNat : Int)) := by omega
              have h5 : (((s[k]'hp).toNat : Int) == 95) = false := by rw [beq_eq_false_iff_ne]; omega
              rcases g0 with g0 | g0
              · have g5 : ¬ (48 ≤ ((s[k]'hp).toNat : Int)) := by omega
                go_wp2_with fail
                go_ret
                exact ⟨Or.inr ⟨Hno.out, rfl⟩, rfl⟩
              · have g5 : (48 ≤ ((s[k]'hp).toNat : Int)) := by omega
                have g6 := g4 g5
                go_wp2_with fail
                go_ret
                exact ⟨Or.inr ⟨Hno.out, rfl⟩, rfl⟩
            · have h4 : ¬ (97 ≤ ((s[k]'hp).toNat : Int)) := by omega
              have h5 : (65 ≤ ((s[k]'hp).toNat : Int)) := by omega
              have h6 : decide (((s[k]'hp).toNat : Int) ≤ 90) = false := by simp; omega
              have g5 : (48 ≤ ((s[k]'hp).toNat : Int)) := by omega
              have g6 := g4 g5
              go_wp2_with fail
              go_ret
              exact ⟨Or.inr ⟨Hno.out, rfl⟩, rfl⟩
            · have h4 : (97 ≤ ((s[k]'hp).toNat : Int)) := by omega
              have h7 : decide (((s[k]'hp).toNat : Int) ≤ 122) = false := by simp; omega
              have h5 : (65 ≤ ((s[k]'hp).toNat : Int)) := by omega
              have h6 : decide (((s[k]'hp).toNat : Int) ≤ 90) = false := by simp; omega
              have h8 : (((s[k]'hp).toNat : Int) == 95) = false := by rw [beq_eq_false_iff_ne]; omega
              have g5 : (48 ≤ ((s[k]'hp).toNat : Int)) := by omega
              have g6 := g4 g5
              go_wp2_with fail
              go_ret
              exact ⟨Or.inr ⟨Hno.out, rfl⟩, rfl⟩
    · by_cases h1 : 1 ≤ s.size
      · have h2 : (1 ≤ (s.size : Int)) := by omega
        by_cases h3 : s.size ≤ 32
        · have h4 : decide ((s.size : Int) ≤ 32) = true := by simp; omega
          go_wp2_with fail
          go_ret
          exact ⟨Or.inl ⟨⟨h1, h3, fun j h => Hpre.out j h (by omega)⟩, rfl⟩, rfl⟩
        · have h4 : decide ((s.size : Int) ≤ 32) = false := by simp; omega
          go_wp2_with fail
          go_ret
          exact ⟨Or.inr ⟨fun h => h3 h.2.1, rfl⟩, rfl⟩
      · have h2 : ¬ (1 ≤ (s.size : Int)) := by omega
        go_wp2_with fail
        go_ret
        exact ⟨Or.inr ⟨fun h => h1 h.1, rfl⟩, rfl⟩
end Go.Proofs.YtimhkgpjfppkmaaDoor
namespace Go.Proofs.YtimhkgpjfppkmaaDoor
open Go.RowKit

def Blank (b : UInt8) : Prop := b = 32 ∨ b = 9 ∨ b = 10 ∨ b = 13
def Blanks (l : List UInt8) : Prop := ∀ b ∈ l, Blank b
def SpEnds (l : List UInt8) (e : Ending) : Prop := (Blanks l ∧ e = .returned (.bool true)) ∨ (¬ Blanks l ∧ e = .returned (.bool false))
theorem SpEnds.yes {l : List UInt8} {e : Ending} (h : SpEnds l e) (hn : Blanks l) : e = .returned (.bool true) := by
  rcases h with ⟨_, h⟩ | ⟨h, _⟩
  · exact h
  · exact absurd hn h
theorem SpEnds.no {l : List UInt8} {e : Ending} (h : SpEnds l e) (hn : ¬ Blanks l) : e = .returned (.bool false) := by
  rcases h with ⟨h, _⟩ | ⟨_, h⟩
  · exact absurd h hn
  · exact h

theorem u8_of {b : UInt8} {n : Nat} (h : b.toNat = n) (hn : n < 256) : b = UInt8.ofNat n := by
  subst h
  simp

end Go.Proofs.YtimhkgpjfppkmaaDoor
namespace Go.Proofs.YtimhkgpjfppkmaaDoor
open Go.RowKit

set_option maxHeartbeats 2000000 in
theorem refChars_any (s : ByteArray) (w : World) (hs : s.size ≤ maxLen) (hT : Lib.Utf8Tabs 0 1 w) : Calls Tryd.prog 65 #[.string s] w fun e w' => ChEnds s.data.toList e ∧ Below w.heap.size w w' := by
  unfold maxLen at hs
  have HT := hide hT
  clear hT
  go_enter Tryd.func65, Tryd.ntmps65
  go_wp2_with fail
  refine (validString s _ (by omega) HT.out).mono ?_
  rintro e w1 ⟨rfl, hb1⟩
  by_cases hv : Lib.validD s.data.toList = true
  · rw [hv]
    have hsz1 := hb1.size
    have HB := hide hb1
    clear hb1
    go_wp2_with fail
    go_loopw [] (fun wr => ∃ k : Nat, k ≤ s.size ∧ wr.heap[w1.heap.size]? = some (.stringIter s k) ∧ Below w1.heap.size w1 wr ∧ (Runes s.data.toList ↔ Runes (s.data.toList.drop k))) (fun wr => s.size - wr.iterPos w1.heap.size)
    case atStart =>
      refine ⟨0, Nat.zero_le _, ?_, (Below.refl _ w1).alloc (Nat.le_refl _) _, by simp⟩
      have := World.iter_heap w1 s 0
      simpa using this
    case round =>
      obtain ⟨k, hk, hit, hbw, hpre⟩ := hrel
      have Hpre := hide hpre
      clear hpre
      have hsz : w1.heap.size < wr.heap.size := (Array.getElem?_eq_some_iff.1 hit).1
      by_cases hp : k < s.size
      · obtain ⟨hw1, hw2⟩ := decode_width s k hp
        have hst := runes_step (s.data.toList.drop k) (by
          intro h
          have := congrArg List.length h
          rw [List.length_drop, size_list] at this
          simp at this
          omega)
        rw [Lib.decodeL_drop, List.drop_drop] at hst
        have Hst := hide hst
        clear hst
        have hnx : ∀ ty, (Instr.next (.pointer (some ⟨w1.heap.size, 0, none⟩)) true ty).run Tryd.prog wr = _ := fun ty => Lib.run_next_any_at wr w1.heap.size s k ty hit hp
        have hbw2 := Lib.below_iterAt hbw (k := w1.heap.size) (Nat.le_refl _) s (k + (Utf8.decode s k).2)
        have hit2 := Lib.iterAt_heap wr w1.heap.size s k (k + (Utf8.decode s k).2) hit
        have Hb2 := hide (show _ ∧ _ ∧ _ from ⟨hbw2, hit2, hit⟩)
        clear hbw2 hit2
        by_cases hc : CharR (Utf8.decode s k).1
        · have Hc := hide hc
          have hcs : (Utf8.decode s k).1 = 9 ∨ (Utf8.decode s k).1 = 10 ∨ (Utf8.decode s k).1 = 13 ∨ (32 ≤ (Utf8.decode s k).1 ∧ (Utf8.decode s k).1 ≠ 65534 ∧ (Utf8.decode s k).1 ≠ 65535) := hc
          have HE := hide (show (∃ k_1, k_1 ≤ s.size ∧ (wr.iterAt w1.heap.size s (k + (Utf8.decode s k).2)).heap[w1.heap.size]? = some (.stringIter s k_1) ∧ Below w1.heap.size w1 (wr.iterAt w1.heap.size s (k + (Utf8.decode s k).2)) ∧ (Runes s.data.toList ↔ Runes (s.data.toList.drop k_1))) ∧ s.size - (wr.iterAt w1.heap.size s (k + (Utf8.decode s k).2)).iterPos w1.heap.size < s.size - wr.iterPos w1.heap.size from by
            refine ⟨⟨k + (Utf8.decode s k).2, hw2, Hb2.out.2.1, Hb2.out.1, ?_⟩, ?_⟩
            · rw [Hpre.out, Hst.out]
              exact ⟨fun h => h.2, fun h => ⟨Hc.out, h⟩⟩
            · simp only [World.iterPos, Hb2.out.2.1, Hb2.out.2.2]
              omega)
          clear hc
          have e4 : (((Utf8.decode s k).1 : Int) == 65534) = false := by rw [beq_eq_false_iff_ne]; omega
          have e5 : (((Utf8.decode s k).1 : Int) == 65535) = false := by rw [beq_eq_false_iff_ne]; omega
          rcases hcs with h | h | h | ⟨h, _, _⟩
          · have d0 : decide (((Utf8.decode s k).1 : Int) < 32) = true := by simp; omega
            have d1 : (((Utf8.decode s k).1 : Int) != 9) = false := by rw [bne_eq_false_iff_eq]; omega
            clear h
            go_wp2_with fail
            exact HE.out
          · have d0 : decide (((Utf8.decode s k).1 : Int) < 32) = true := by simp; omega
            have d1 : (((Utf8.decode s k).1 : Int) != 9) = true := by rw [bne_iff_ne]; omega
            have d2 : (((Utf8.decode s k).1 : Int) != 10) = false := by rw [bne_eq_false_iff_eq]; omega
            clear h
            go_wp2_with fail
            exact HE.out
          · have d0 : decide (((Utf8.decode s k).1 : Int) < 32) = true := by simp; omega
            have d1 : (((Utf8.decode s k).1 : Int) != 9) = true := by rw [bne_iff_ne]; omega
            have d2 : (((Utf8.decode s k).1 : Int) != 10) = true := by rw [bne_iff_ne]; omega
            have d3 : (((Utf8.decode s k).1 : Int) != 13) = false := by rw [bne_eq_false_iff_eq]; omega
            clear h
            go_wp2_with fail
            exact HE.out
          · have d0 : decide (((Utf8.decode s k).1 : Int) < 32) = false := by simp; omega
            clear h
            go_wp2_with fail
            exact HE.out
        · have Hc := hide hc
          have hcs : (Utf8.decode s k).1 = 65534 ∨ (Utf8.decode s k).1 = 65535 ∨ ((Utf8.decode s k).1 < 32 ∧ (Utf8.decode s k).1 ≠ 9 ∧ (Utf8.decode s k).1 ≠ 10 ∧ (Utf8.decode s k).1 ≠ 13) := by unfold CharR at hc; omega
          have HE := hide (show ChEnds s.data.toList (.returned (.bool false)) ∧ Below w.heap.size w (wr.iterAt w1.heap.size s (k + (Utf8.decode s k).2)) from ⟨Or.inr ⟨fun h => Hc.out (Hst.out.1 (Hpre.out.1 h.2)).1, rfl⟩, HB.out.trans (Hb2.out.1.mono hsz1)⟩)
          clear hc
          rcases hcs with h | h | ⟨h, h1, h2, h3⟩
          · have d0 : decide (((Utf8.decode s k).1 : Int) < 32) = false := by simp; omega
            have d1 : (((Utf8.decode s k).1 : Int) == 65534) = true := by rw [beq_iff_eq]; omega
            clear h
            go_wp2_with fail
            go_ret
            exact HE.out
          · have d0 : decide (((Utf8.decode s k).1 : Int) < 32) = false := by simp; omega
            have d1 : (((Utf8.decode s k).1 : Int) == 65534) = false := by rw [beq_eq_false_iff_ne]; omega
            have d2 : (((Utf8.decode s k).1 : Int) == 65535) = true := by rw [beq_iff_eq]; omega
            clear h
            go_wp2_with fail
            go_ret
            exact HE.out
          · have d0 : decide (((Utf8.decode s k).1 : Int) < 32) = true := by simp; omega
            have d1 : (((Utf8.decode s k).1 : Int) != 9) = true := by rw [bne_iff_ne]; omega
            have d2 : (((Utf8.decode s k).1 : Int) != 10) = true := by rw [bne_iff_ne]; omega
            have d3 : (((Utf8.decode s k).1 : Int) != 13) = true := by rw [bne_iff_ne]; omega
            clear h h1 h2 h3
            go_wp2_with fail
            go_ret
            exact HE.out
      · have hnx : ∀ ty, (Instr.next (.pointer (some ⟨w1.heap.size, 0, none⟩)) true ty).run Tryd.prog wr = _ := fun ty => Lib.run_next_end_at wr w1.heap.size s k ty hit hp
        go_wp2_with fail
        go_ret
        refine ⟨Or.inl ⟨⟨hv, Hpre.out.2 ?_⟩, rfl⟩, HB.out.trans (hbw.mono hsz1)⟩
        rw [List.drop_eq_nil_of_le (by rw [size_list]; omega)]
        exact runes_nil
  · have hv' : Lib.validD s.data.toList = false := by simpa using hv
    rw [hv']
    go_wp2_with fail
    go_ret
    exact ⟨Or.inr ⟨fun h => hv h.1, rfl⟩, hb1⟩

theorem blank_ne {b : UInt8} (h : ¬ Blank b) : ((b.toNat : Int) != 32) = true ∧ ((b.toNat : Int) != 9) = true ∧ ((b.toNat : Int) != 10) = true ∧ ((b.toNat : Int) != 13) = true := by
  refine ⟨?_, ?_, ?_, ?_⟩ <;> (rw [bne_iff_ne]; intro e; apply h)
  · exact Or.inl (u8_of (n := 32) (by omega) (by decide))
  · exact Or.inr (Or.inl (u8_of (n := 9) (by omega) (by decide)))
  · exact Or.inr (Or.inr (Or.inl (u8_of (n := 10) (by omega) (by decide))))
  · exact Or.inr (Or.inr (Or.inr (u8_of (n := 13) (by omega) (by decide))))
end Go.Proofs.YtimhkgpjfppkmaaDoor
namespace Go.Proofs.YtimhkgpjfppkmaaDoor
open Go.RowKit

theorem small_any (s : ByteArray) (w : World) (hs : s.size ≤ 9223372036854775807) (hT : Tabs w) : Calls Tryd.prog 57 #[.string s] w fun e w' => Tells (SmallT s) e ∧ Below w.heap.size w w' := by
  have HT := hide hT
  clear hT
  by_cases h : s.size ≤ 512
  · have h' : (s.size : Int) ≤ 512 := by omega
    go_enter Tryd.func57, Tryd.ntmps57
    go_wp2_with fail
    refine (refChars_any s w (by unfold maxLen; omega) HT.out).mono ?_
    rintro e w1 ⟨⟨h1, rfl⟩ | ⟨h1, rfl⟩, hb⟩
    · go_wp2_with fail
      go_ret
      exact ⟨.inl ⟨⟨h, h1⟩, rfl⟩, hb⟩
    · go_wp2_with fail
      go_ret
      exact ⟨.inr ⟨fun x => h1 x.2, rfl⟩, hb⟩
  · have h' : ¬ ((s.size : Int) ≤ 512) := by omega
    go_enter Tryd.func57, Tryd.ntmps57
    go_wp2_with fail
    go_ret
    exact ⟨.inr ⟨fun x => h x.1, rfl⟩, Below.refl _ _⟩

def One (t : Tok) : Prop :=
  (t.kind = 1 ∧ NameOk t.name ∧ t.text.size = 0 ∧ AttrsOk t.attrs) ∨ (t.kind = 2 ∧ NameOk t.name ∧ t.text.size = 0 ∧ t.attrs.length = 0) ∨
  (t.kind = 3 ∧ t.name.size = 0 ∧ t.attrs.length = 0 ∧ t.text.size ≠ 0 ∧ SmallT t.text)
theorem one_one {t : Tok} (h : t.kind = 1) : One t ↔ (NameOk t.name ∧ t.text.size = 0 ∧ AttrsOk t.attrs) := by simp [One, h]
theorem one_two {t : Tok} (h : t.kind = 2) : One t ↔ (NameOk t.name ∧ t.text.size = 0 ∧ t.attrs.length = 0) := by simp [One, h]
theorem one_three {t : Tok} (h : t.kind = 3) : One t ↔ (t.name.size = 0 ∧ t.attrs.length = 0 ∧ t.text.size ≠ 0 ∧ SmallT t.text) := by simp [One, h]
theorem one_none {t : Tok} (h1 : t.kind ≠ 1) (h2 : t.kind ≠ 2) (h3 : t.kind ≠ 3) : ¬ One t := by simp [One, h1, h2, h3]
theorem attrVal_take {al : List (ByteArray × ByteArray)} {k : Nat} {name : ByteArray} (h : ∀ j a, j < k → al[j]? = some a → a.1 ≠ name) : attrVal (al.take k) name = none := by
  refine attrVal_none (fun j a hj => ?_)
  have hlt := (List.getElem?_eq_some_iff.1 hj).1
  simp at hlt
  rw [List.getElem?_take_of_lt (by omega)] at hj
  exact h j a (by omega) hj
theorem attrVal_hit {al : List (ByteArray × ByteArray)} {j k : Nat} {a : ByteArray × ByteArray} (hj : al[j]? = some a) (hk : j < k) : attrVal (al.take k) a.1 ≠ none := by
  intro h
  unfold attrVal at h
  rw [Option.map_eq_none_iff, List.find?_eq_none] at h
  have hm : a ∈ al.take k := List.mem_of_getElem? (i := j) (by rw [List.getElem?_take_of_lt hk]; exact hj)
  exact h a hm (by simp)

set_option maxRecDepth 100000 in
set_option maxHeartbeats 4000000 in
theorem one_any (n₀ : Nat) (t : Tok) (ao : Option Addr) (cap : Nat) (w : World) (hnm : t.name.size ≤ 9223372036854775807) (htx : t.text.size ≤ 9223372036854775807) (hA : AttrMem n₀ w ao t.attrs) (hn : n₀ ≤ w.heap.size) (hT : Tabs w) :
    Calls Tryd.prog 46 #[.agg #[.int .u8 t.kind, .string t.name, .slice ao t.attrs.length cap, .string t.text]] w fun e w' => Tells (One t) e ∧ Below w.heap.size w w' := by
  have hlen := hA.1
  have HA := hide hA
  have HT := hide hT
  clear hA hT
  obtain ⟨kv, hkv⟩ : ∃ kv : Int, (t.kind : Int) = kv := ⟨_, rfl⟩
  rw [hkv]
  obtain ⟨W1, hW1⟩ : ∃ W1, w.alloc (.cells #[.int .u8 kv, .string t.name, .slice ao t.attrs.length cap, .string t.text] 46) = W1 := ⟨_, rfl⟩
  have hf : W1.heap[w.heap.size]? = some (.cells #[.int .u8 kv, .string t.name, .slice ao t.attrs.length cap, .string t.text] 46) := by rw [← hW1]; exact World.alloc_heap_new w _
  have hb1 : Below w.heap.size w W1 := by rw [← hW1]; exact (Below.refl _ w).alloc (Nat.le_refl _) _
  have hz1 : W1.heap.size = w.heap.size + 1 := by rw [← hW1]; simp
  obtain ⟨p0, p1, p2, p3⟩ := cells4 hf
  have HB := hide (And.intro hb1 hf)
  clear hb1 hf
  by_cases h1 : t.kind = 1
  · obtain rfl : kv = 1 := by omega
    have ho := one_one h1
    have HO := hide ho
    clear ho hkv h1
    go_enter Tryd.func46, Tryd.ntmps46
    go_wp2_with fail
    clear hW1
    refine (refName_any t.name W1 (by unfold maxLen; omega)).mono ?_
    rintro e w2 ⟨⟨hn1, rfl⟩ | ⟨hn1, rfl⟩, hw2⟩
    all_goals subst hw2
    case inr =>
      go_wp2_with fail
      go_ret
      exact ⟨.inr ⟨fun x => hn1 (HO.out.1 x).1, rfl⟩, HB.out.1⟩
    by_cases h0 : t.text.size = 0
    case neg =>
      have h0' := empty_false (s := t.text) (by omega)
      go_wp2_with fail
      go_ret
      exact ⟨.inr ⟨fun x => h0 (HO.out.1 x).2.1, rfl⟩, HB.out.1⟩
    have h0' := empty_true (s := t.text) (by omega)
    by_cases h8 : 8 < (t.attrs.length : Int)
    · go_wp2_with fail
      go_ret
      exact ⟨.inr ⟨fun x => by have := (HO.out.1 x).2.2.1; omega, rfl⟩, HB.out.1⟩
    go_wp2_with fail
    go_loopw [3] (fun i wr => ∃ k : Nat, k ≤ t.attrs.length ∧ i = .int .i64 k ∧ (∀ j a, j < k → t.attrs[j]? = some a → attrVal (t.attrs.take j) a.1 = none ∧ NameOk a.1 ∧ SmallT a.2) ∧ Below w2.heap.size w2 wr) (fun i _ => t.attrs.length - (intOf i).toNat)
    case atStart => exact ⟨0, Nat.zero_le _, rfl, fun j a h => by omega, Below.refl _ _⟩
    case round =>
      obtain ⟨k, hk, rfl, hne, hbw⟩ := hrel
      have hsz := hbw.size
      have HN := hide (And.intro hne hbw)
      clear hne hbw
      have d2 := (HN.out.2.cell (p := ⟨w.heap.size, 2, none⟩) (show w.heap.size < _ by omega)).trans p2
      by_cases hlt : k < t.attrs.length
      · obtain ⟨a, ha⟩ : ∃ a, t.attrs[k]? = some a := ⟨t.attrs[k], by simp [hlt]⟩
        obtain ⟨b, off, rfl, hb, c1, c2⟩ := HA.out.2.2 k a ha
        have hbb : Below n₀ w wr := (HB.out.1.mono hn).trans (HN.out.2.mono (by omega))
        have e1 := (hbb.cell (p := ⟨b, _, none⟩) hb).trans c1
        have e2 := (hbb.cell (p := ⟨b, _, none⟩) hb).trans c2
        have hsa := HA.out.2.1 a (List.mem_of_getElem? ha)
        have HBB := hide hbb
        clear c1 c2 hbb
        go_wp2_with fail
        refine (refName_any a.1 wr (by unfold maxLen; omega)).mono ?_
        rintro e w3 ⟨⟨ha1, rfl⟩ | ⟨ha1, rfl⟩, hw3⟩
        all_goals subst hw3
        case inr =>
          go_wp2_with fail
          go_ret
          exact ⟨.inr ⟨fun x => ha1 ((HO.out.1 x).2.2.2 k a ha).2.1, rfl⟩, HB.out.1.trans (HN.out.2.mono (by omega))⟩
        go_wp2_with fail
        refine (small_any a.2 w3 (by omega) (tabs_below HT.out (HB.out.1.trans (HN.out.2.mono (by omega))))).mono ?_
        rintro e w4 ⟨⟨ha2, rfl⟩ | ⟨ha2, rfl⟩, hb4⟩
        case inr =>
          have H4 := hide ((HB.out.1.trans (HN.out.2.mono (by omega))).trans (hb4.mono (by omega)))
          clear hb4
          go_wp2_with fail
          go_ret
          exact ⟨.inr ⟨fun x => ha2 ((HO.out.1 x).2.2.2 k a ha).2.2, rfl⟩, H4.out⟩
        have d3 := (hb4.cell (p := ⟨w.heap.size, 2, none⟩) (show w.heap.size < _ by omega)).trans d2
        have H4 := hide (HN.out.2.trans (hb4.mono hsz))
        have hbn := HBB.out.trans (hb4.mono (by omega))
        have HBN := hide hbn
        have e3 := (hb4.cell (p := ⟨b, _, none⟩) (show b < w3.heap.size by omega)).trans e1
        clear hb4 hbn e1 e2 d2
        go_wp2_with fail
        go_loopw [4] (fun i wq => (wq.heap = w4.heap ∧ Below w4.heap.size w4 wq) ∧ ∃ j : Nat, j ≤ k ∧ i = .int .i64 j ∧ ∀ i b, i < j → t.attrs[i]? = some b → b.1 ≠ a.1) (fun i _ => k - (intOf i).toNat)
        case atStart => exact ⟨⟨rfl, Below.refl _ _⟩, 0, Nat.zero_le _, rfl, fun i b h => by omega⟩
        case round =>
          obtain ⟨⟨hqh, hqb⟩, j, hj, rfl, hjq⟩ := hrel
          have d4 : wr.cell? ⟨w.heap.size, 2, none⟩ = some (.slice (some ⟨b, off, none⟩) t.attrs.length cap) := by simpa [World.cell?, hqh] using d3
          have e4 : wr.cell? ⟨b, off + k * 2, none⟩ = some (.string a.1) := by simpa [World.cell?, hqh] using e3
          have HQ := hide (And.intro hqh (And.intro hqb hjq))
          clear hqh hqb hjq d3 e3
          by_cases hjk : j < k
          · obtain ⟨y, hy⟩ : ∃ y, t.attrs[j]? = some y := ⟨t.attrs[j], by simp [show j < t.attrs.length by omega]⟩
            obtain ⟨b', off', e, hb', c1, _⟩ := HA.out.2.2 j y hy
            cases e
            have f4 : wr.cell? ⟨b, off + j * 2, none⟩ = some (.string y.1) := by have h := (HBN.out.cell (p := ⟨b, _, none⟩) hb').trans c1; simpa [World.cell?, HQ.out.1] using h
            clear c1
            have hjl : j < t.attrs.length := by omega
            by_cases he : y.1 = a.1
            · have he' : (y.1.toList == a.1.toList) = true := by simp [he]
              go_wp2_with fail
              go_quiet (fail)
              go_wp2_with fail
              go_ret
              refine ⟨.inr ⟨fun x => ?_, rfl⟩, HB.out.1.trans ((H4.out.trans ((below_drewN HQ.out.2.1 nq).mono H4.out.size)).mono (by omega))⟩
              exact attrVal_hit hy hjk (by rw [he]; exact ((HO.out.1 x).2.2.2 k a ha).1)
            · have he' : (y.1.toList == a.1.toList) = false := str_ne he
              go_wp2_with fail
              go_quiet (fail)
              go_wp2_with fail
              refine ⟨⟨⟨HQ.out.1, below_drewN HQ.out.2.1 nq⟩, j + 1, by omega, by simp, fun i z hi hz => ?_⟩, by simp [intOf]; omega⟩
              rcases Nat.lt_or_ge i j with h | h
              · exact HQ.out.2.2 i z h hz
              · obtain rfl : i = j := by omega
                rw [hy] at hz
                cases hz
                exact he
          · go_wp2_with fail
            go_roundw
            case rel =>
              refine ⟨k + 1, by omega, by simp, fun i z hi hz => ?_, H4.out.trans (HQ.out.2.1.mono H4.out.size)⟩
              rcases Nat.lt_or_ge i k with h | h
              · exact HN.out.1 i z h hz
              · obtain rfl : i = k := by omega
                rw [ha] at hz
                cases hz
                exact ⟨attrVal_take (fun i z hi hz => HQ.out.2.2 i z (by omega) hz), ha1, ha2⟩
            case measure => simp [intOf]; omega
      · go_wp2_with fail
        go_ret
        refine ⟨.inl ⟨HO.out.2 ⟨hn1, h0, by omega, fun i a hi => HN.out.1 i a (by have := (List.getElem?_eq_some_iff.1 hi).1; omega) hi⟩, rfl⟩, HB.out.1.trans (HN.out.2.mono (by omega))⟩
  · by_cases h2 : t.kind = 2
    · obtain rfl : kv = 2 := by omega
      have ho := one_two h2
      have HO := hide ho
      clear ho hkv h1
      go_enter Tryd.func46, Tryd.ntmps46
      go_wp2_with fail
      clear hW1
      refine (refName_any t.name W1 (by unfold maxLen; omega)).mono ?_
      rintro e w2 ⟨⟨hn1, rfl⟩ | ⟨hn1, rfl⟩, hw2⟩
      all_goals subst hw2
      case inr =>
        go_wp2_with fail
        go_ret
        exact ⟨.inr ⟨fun x => hn1 (HO.out.1 x).1, rfl⟩, HB.out.1⟩
      by_cases h0 : t.text.size = 0
      case neg =>
        have h0' := empty_false (s := t.text) (by omega)
        go_wp2_with fail
        go_ret
        exact ⟨.inr ⟨fun x => h0 (HO.out.1 x).2.1, rfl⟩, HB.out.1⟩
      have h0' := empty_true (s := t.text) (by omega)
      by_cases h8 : t.attrs.length = 0
      · have h8' : ((t.attrs.length : Int) == 0) = true := by rw [h8]; rfl
        go_wp2_with fail
        go_ret
        exact ⟨.inl ⟨HO.out.2 ⟨hn1, h0, h8⟩, rfl⟩, HB.out.1⟩
      · have h8' : ((t.attrs.length : Int) == 0) = false := by rw [beq_eq_false_iff_ne]; omega
        go_wp2_with fail
        go_ret
        exact ⟨.inr ⟨fun x => h8 (HO.out.1 x).2.2, rfl⟩, HB.out.1⟩
    · by_cases h3 : t.kind = 3
      · obtain rfl : kv = 3 := by omega
        have ho := one_three h3
        have HO := hide ho
        clear ho hkv h1 h2
        by_cases h0 : t.name.size = 0
        case neg =>
          have h0' := empty_false (s := t.name) (by omega)
          go_enter Tryd.func46, Tryd.ntmps46
          go_wp2_with fail
          go_ret
          exact ⟨.inr ⟨fun x => h0 (HO.out.1 x).1, rfl⟩, HB.out.1⟩
        have h0' := empty_true (s := t.name) (by omega)
        by_cases h8 : t.attrs.length = 0
        case neg =>
          have h8' : ((t.attrs.length : Int) == 0) = false := by rw [beq_eq_false_iff_ne]; omega
          go_enter Tryd.func46, Tryd.ntmps46
          go_wp2_with fail
          go_ret
          exact ⟨.inr ⟨fun x => h8 (HO.out.1 x).2.1, rfl⟩, HB.out.1⟩
        rw [h8] at hW1 p2 ⊢
        have HH8 := hide h8
        clear h8
        by_cases h4 : t.text.size = 0
        · have h4' := empty_true (s := t.text) (by omega)
          go_enter Tryd.func46, Tryd.ntmps46
          go_wp2_with fail
          go_ret
          exact ⟨.inr ⟨fun x => (HO.out.1 x).2.2.1 h4, rfl⟩, HB.out.1⟩
        have h4' := empty_false (s := t.text) (by omega)
        have hsm := small_any t.text W1 htx (tabs_below HT.out HB.out.1)
        have HSM := hide hsm
        clear hsm
        go_enter Tryd.func46, Tryd.ntmps46
        go_wp2_with fail
        refine HSM.out.mono ?_
        rintro e w4 ⟨⟨ha2, rfl⟩ | ⟨ha2, rfl⟩, hb4⟩
        · have H4 := hide (HB.out.1.trans (hb4.mono (by omega)))
          clear hb4
          go_wp2_with fail
          go_ret
          exact ⟨.inl ⟨HO.out.2 ⟨h0, HH8.out, h4, ha2⟩, rfl⟩, H4.out⟩
        · have H4 := hide (HB.out.1.trans (hb4.mono (by omega)))
          clear hb4
          go_wp2_with fail
          go_ret
          exact ⟨.inr ⟨fun x => ha2 (HO.out.1 x).2.2.2, rfl⟩, H4.out⟩
      · have z1 : (kv == 1) = false := by rw [beq_eq_false_iff_ne]; omega
        have z2 : (kv == 2) = false := by rw [beq_eq_false_iff_ne]; omega
        have z3 : (kv == 3) = false := by rw [beq_eq_false_iff_ne]; omega
        go_enter Tryd.func46, Tryd.ntmps46
        go_wp2_with fail
        go_ret
        exact ⟨.inr ⟨one_none h1 h2 h3, rfl⟩, HB.out.1⟩
end Go.Proofs.YtimhkgpjfppkmaaDoor
