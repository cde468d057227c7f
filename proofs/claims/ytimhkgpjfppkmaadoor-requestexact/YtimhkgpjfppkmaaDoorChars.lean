/- Contract of Chars: valid UTF-8, and each rune a character. -/
import Derived.Test.YtimhkgpjfppkmaaDoorShelf
import Derived.Test.YtimhkgpjfppkmaaDoorShelfV
import Derived.Test.YtimhkgpjfppkmaaDoorSmall
import Derived.Test.YtimhkgpjfppkmaaDoorMath
import Derived.LoopTactic
import Derived.Lib.ValidLaws
namespace Go.Proofs.YtimhkgpjfppkmaaDoor
open Go.RowKit

/-- It may stand in XML. -/
def CharR (r : Nat) : Prop := r = 9 ∨ r = 10 ∨ r = 13 ∨ (32 ≤ r ∧ r ≠ 65534 ∧ r ≠ 65535)
def charDec (r : Nat) : Decidable (CharR r) := by unfold CharR; exact inferInstance

theorem char_yes (r : Nat) (w : World) (h : CharR r) : Calls Tryd.prog 51 #[.int .i32 r] w fun e w' => e = .returned (.bool true) ∧ w' = w := by
  rcases h with rfl | rfl | rfl | ⟨h, h1, h2⟩
  · go_enter Tryd.func51, Tryd.ntmps51
    go_wp2
    go_ret
    exact ⟨rfl, rfl⟩
  · go_enter Tryd.func51, Tryd.ntmps51
    go_wp2
    go_ret
    exact ⟨rfl, rfl⟩
  · go_enter Tryd.func51, Tryd.ntmps51
    go_wp2
    go_ret
    exact ⟨rfl, rfl⟩
  · have e1 : ((r : Int) == 9) = false := by rw [beq_eq_false_iff_ne]; omega
    have e2 : ((r : Int) == 10) = false := by rw [beq_eq_false_iff_ne]; omega
    have e3 : ((r : Int) == 13) = false := by rw [beq_eq_false_iff_ne]; omega
    have e4 : ((r : Int) == 65534) = false := by rw [beq_eq_false_iff_ne]; omega
    have e5 : ((r : Int) == 65535) = false := by rw [beq_eq_false_iff_ne]; omega
    have e6 : decide (32 ≤ (r : Int)) = true := by simp; omega
    clear h h1 h2
    go_enter Tryd.func51, Tryd.ntmps51
    go_wp2
    go_ret
    exact ⟨rfl, rfl⟩
theorem char_no (r : Nat) (w : World) (h : ¬ CharR r) : Calls Tryd.prog 51 #[.int .i32 r] w fun e w' => e = .returned (.bool false) ∧ w' = w := by
  have e1 : ((r : Int) == 9) = false := by rw [beq_eq_false_iff_ne]; unfold CharR at h; omega
  have e2 : ((r : Int) == 10) = false := by rw [beq_eq_false_iff_ne]; unfold CharR at h; omega
  have e3 : ((r : Int) == 13) = false := by rw [beq_eq_false_iff_ne]; unfold CharR at h; omega
  have hc : r = 65534 ∨ r = 65535 ∨ (r ≠ 65534 ∧ r ≠ 65535 ∧ r < 32) := by unfold CharR at h; omega
  clear h
  rcases hc with rfl | rfl | ⟨h4, h5, h6⟩
  · clear e1 e2 e3
    go_enter Tryd.func51, Tryd.ntmps51
    go_wp2
    go_ret
    exact ⟨rfl, rfl⟩
  · clear e1 e2 e3
    go_enter Tryd.func51, Tryd.ntmps51
    go_wp2
    go_ret
    exact ⟨rfl, rfl⟩
  · have e4 : ((r : Int) == 65534) = false := by rw [beq_eq_false_iff_ne]; omega
    have e5 : ((r : Int) == 65535) = false := by rw [beq_eq_false_iff_ne]; omega
    have e6 : decide (32 ≤ (r : Int)) = false := by simp; omega
    clear h4 h5 h6
    go_enter Tryd.func51, Tryd.ntmps51
    go_wp2
    go_ret
    exact ⟨rfl, rfl⟩

/-- Each rune is a character. -/
def runesGo : Nat → List UInt8 → Prop
  | 0, _ => True
  | n + 1, l => l = [] ∨ (CharR (Lib.decodeL l).1 ∧ runesGo n (l.drop (Lib.decodeL l).2))
def Runes (l : List UInt8) : Prop := runesGo l.length l
theorem runesGo_nil : ∀ n, runesGo n []
  | 0 => trivial
  | _ + 1 => Or.inl rfl
theorem runesGo_fuel : ∀ (n m : Nat) (l : List UInt8), l.length ≤ n → l.length ≤ m → (runesGo n l ↔ runesGo m l)
  | 0, m, l, hn, _ => by
    obtain rfl : l = [] := List.eq_nil_of_length_eq_zero (by omega)
    exact ⟨fun _ => runesGo_nil _, fun _ => runesGo_nil _⟩
  | n + 1, 0, l, _, hm => by
    obtain rfl : l = [] := List.eq_nil_of_length_eq_zero (by omega)
    exact ⟨fun _ => runesGo_nil _, fun _ => runesGo_nil _⟩
  | n + 1, m + 1, l, hn, hm => by
    have hw := Lib.decodeL_width l
    show (l = [] ∨ _) ↔ (l = [] ∨ _)
    by_cases hne : l = []
    · simp [hne]
    · have hl : 0 < l.length := List.length_pos_iff.2 hne
      have := runesGo_fuel n m (l.drop (Lib.decodeL l).2) (by rw [List.length_drop]; omega) (by rw [List.length_drop]; omega)
      rw [this]
theorem runes_nil : Runes [] := trivial
theorem runes_step (l : List UInt8) (hne : l ≠ []) : Runes l ↔ CharR (Lib.decodeL l).1 ∧ Runes (l.drop (Lib.decodeL l).2) := by
  have hl : 0 < l.length := List.length_pos_iff.2 hne
  have hw := Lib.decodeL_width l
  obtain ⟨n, hn⟩ : ∃ n, l.length = n + 1 := ⟨l.length - 1, by omega⟩
  unfold Runes
  rw [hn]
  show (l = [] ∨ _) ↔ _
  rw [runesGo_fuel n (l.drop (Lib.decodeL l).2).length _ (by rw [List.length_drop]; omega) (Nat.le_refl _)]
  simp [hne]

/-- The text is characters. -/
def CharsOk (l : List UInt8) : Prop := Lib.validD l = true ∧ Runes l
def ChEnds (l : List UInt8) (e : Ending) : Prop := (CharsOk l ∧ e = .returned (.bool true)) ∨ (¬ CharsOk l ∧ e = .returned (.bool false))
theorem ChEnds.yes {l : List UInt8} {e : Ending} (h : ChEnds l e) (hn : CharsOk l) : e = .returned (.bool true) := by
  rcases h with ⟨_, h⟩ | ⟨h, _⟩
  · exact h
  · exact absurd hn h
theorem ChEnds.no {l : List UInt8} {e : Ending} (h : ChEnds l e) (hn : ¬ CharsOk l) : e = .returned (.bool false) := by
  rcases h with ⟨h, _⟩ | ⟨_, h⟩
  · exact absurd h hn
  · exact h

theorem tabs_below {g h : Nat} {w w' : World} (hT : Lib.Utf8Tabs g h w) (hb : Below w.heap.size w w') : Lib.Utf8Tabs g h w' := by
  refine ⟨fun c hc => ?_, fun i hi => ⟨?_, ?_⟩⟩
  · rw [hb.cell (lt_of_cell (hT.1 c hc))]; exact hT.1 c hc
  · rw [hb.cell (lt_of_cell (hT.2 i hi).1)]; exact (hT.2 i hi).1
  · rw [hb.cell (lt_of_cell (hT.2 i hi).2)]; exact (hT.2 i hi).2

set_option maxHeartbeats 2000000 in
theorem chars_any (s : ByteArray) (w : World) (hs : s.size ≤ maxLen) (hT : Lib.Utf8Tabs 0 1 w) : Calls Tryd.prog 31 #[.string s] w fun e w' => ChEnds s.data.toList e ∧ Below w.heap.size w w' := by
  unfold maxLen at hs
  have HT := hide hT
  clear hT
  go_enter Tryd.func31, Tryd.ntmps31
  go_wp2_with fail
  refine (validString s _ (by omega) HT.out).mono ?_
  rintro e w1 ⟨rfl, hb1⟩
  by_cases hv : Lib.validD s.data.toList = true
  · rw [hv]
    have hsz1 := hb1.size
    have HB := hide hb1
    clear hb1
    go_wp2_with fail
    go_loopw [] (fun wr => ∃ k : Nat, k ≤ s.size ∧ wr.heap[w1.heap.size]? = some (.stringIter s k) ∧ Below w1.heap.size w1 wr ∧ (Runes s.data.toList ↔ Runes (s.data.toList.drop k))) (fun wr => s.size - wr.iterPos w1.heap.size)
    case atStart =>
      refine ⟨0, Nat.zero_le _, ?_, (Below.refl _ w1).alloc (Nat.le_refl _) _, by simp⟩
      have := World.iter_heap w1 s 0
      simpa using this
    case round =>
      obtain ⟨k, hk, hit, hbw, hpre⟩ := hrel
      have Hpre := hide hpre
      clear hpre
      have hsz : w1.heap.size < wr.heap.size := (Array.getElem?_eq_some_iff.1 hit).1
      by_cases hp : k < s.size
      · obtain ⟨hw1, hw2⟩ := decode_width s k hp
        have hst := runes_step (s.data.toList.drop k) (by
          intro h
          have := congrArg List.length h
          rw [List.length_drop, size_list] at this
          simp at this
          omega)
        rw [Lib.decodeL_drop, List.drop_drop] at hst
        have Hst := hide hst
        clear hst
        have hnx : ∀ ty, (Instr.next (.pointer (some ⟨w1.heap.size, 0, none⟩)) true ty).run Tryd.prog wr = _ := fun ty => Lib.run_next_any_at wr w1.heap.size s k ty hit hp
        have hbw2 := Lib.below_iterAt hbw (k := w1.heap.size) (Nat.le_refl _) s (k + (Utf8.decode s k).2)
        have hit2 := Lib.iterAt_heap wr w1.heap.size s k (k + (Utf8.decode s k).2) hit
        have Hb2 := hide (show _ ∧ _ ∧ _ from ⟨hbw2, hit2, hit⟩)
        clear hbw2 hit2
        by_cases hc : CharR (Utf8.decode s k).1
        · have Hc := hide hc
          clear hc
          go_wp2_with (go_at_call 51; refine (char_yes _ _ Hc.out).mono ?_; rintro e w' ⟨rfl, rfl⟩)
          refine ⟨⟨k + (Utf8.decode s k).2, hw2, Hb2.out.2.1, Hb2.out.1, ?_⟩, ?_⟩
          · rw [Hpre.out, Hst.out]
            exact ⟨fun h => h.2, fun h => ⟨Hc.out, h⟩⟩
          · simp only [World.iterPos, Hb2.out.2.1, Hb2.out.2.2]
            omega
        · have Hc := hide hc
          clear hc
          go_wp2_with (go_at_call 51; refine (char_no _ _ Hc.out).mono ?_; rintro e w' ⟨rfl, rfl⟩)
          go_ret
          refine ⟨Or.inr ⟨fun h => ?_, rfl⟩, HB.out.trans (Hb2.out.1.mono hsz1)⟩
          exact Hc.out (Hst.out.1 (Hpre.out.1 h.2)).1
      · have hnx : ∀ ty, (Instr.next (.pointer (some ⟨w1.heap.size, 0, none⟩)) true ty).run Tryd.prog wr = _ := fun ty => Lib.run_next_end_at wr w1.heap.size s k ty hit hp
        go_wp2_with fail
        go_ret
        refine ⟨Or.inl ⟨⟨hv, Hpre.out.2 ?_⟩, rfl⟩, HB.out.trans (hbw.mono hsz1)⟩
        rw [List.drop_eq_nil_of_le (by rw [size_list]; omega)]
        exact runes_nil
  · have hv' : Lib.validD s.data.toList = false := by simpa using hv
    rw [hv']
    go_wp2_with fail
    go_ret
    exact ⟨Or.inr ⟨fun h => hv h.1, rfl⟩, hb1⟩
end Go.Proofs.YtimhkgpjfppkmaaDoor
