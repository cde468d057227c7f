/- TextSafe answers true at every text. -/
import Derived.Test.YtnlmohegkmegcabDoorCharsM
import Derived.Test.YtnlmohegkmegcabDoorSpace
namespace Go.Proofs.YtnlmohegkmegcabDoor
open Go.RowKit

/-- Chars, as a value. -/
def runesB : Nat → List UInt8 → Bool
  | 0, _ => true
  | n + 1, l => decide (l = []) || (@decide (CharR (Lib.decodeL l).1) (charDec _) && runesB n (l.drop (Lib.decodeL l).2))
theorem runesB_iff : ∀ (n : Nat) (l : List UInt8), runesB n l = true ↔ runesGo n l
  | 0, _ => by simp [runesB, runesGo]
  | n + 1, l => by
    simp only [runesB, runesGo, Bool.or_eq_true, Bool.and_eq_true, decide_eq_true_eq]
    rw [runesB_iff n]
def chB (l : List UInt8) : Bool := Lib.validD l && runesB l.length l
theorem chB_iff (l : List UInt8) : chB l = true ↔ CharsOk l := by
  unfold chB CharsOk Runes
  rw [Bool.and_eq_true, runesB_iff]
theorem chB_ends {l : List UInt8} {e : Ending} (h : ChEnds l e) : e = .returned (.bool (chB l)) := by
  by_cases hc : CharsOk l
  · rw [h.yes hc, (chB_iff l).2 hc]
  · rw [h.no hc, show chB l = false by
      cases hb : chB l
      · rfl
      · exact absurd ((chB_iff l).1 hb) hc]
theorem chB_eq {a b : List UInt8} (h : CharsOk a ↔ CharsOk b) : chB a = chB b := by
  rw [Bool.eq_iff_iff, chB_iff, chB_iff, h]
theorem chars_is (s : ByteArray) (w : World) (hs : s.size ≤ maxLen) (hR : Ready w) : Calls Tryd.prog 10 #[.string s] w fun e w' => e = .returned (.bool (chB s.data.toList)) ∧ Below w.heap.size w w' :=
  (chars_any s w hs hR.2.1).mono fun _ _ ⟨he, hb⟩ => ⟨chB_ends he, hb⟩

set_option maxHeartbeats 2000000 in
theorem textSafe_core (t E : ByteArray) (s : ByteArray) (w : World) (hR : Ready w)
    (HS : ∀ w, Calls Tryd.prog 16 #[.string s] w fun e w' => e = .returned (.string t) ∧ w' = w)
    (HE : ∀ w, Ready w → Calls Tryd.prog 19 #[.string t] w fun e w' => e = .returned (.string E) ∧ Below w.heap.size w w')
    (hE : ∀ (j : Nat) (h : j < E.size), E[j] ≠ 60 ∧ E[j] ≠ 62 ∧ E[j] ≠ 39 ∧ E[j] ≠ 34) (hl : t.size ≤ E.size) (hEs : E.size ≤ 1000000) (c : Bool)
    (HC1 : ∀ w, Ready w → Calls Tryd.prog 10 #[.string E] w fun e w' => e = .returned (.bool c) ∧ Below w.heap.size w w')
    (HC2 : ∀ w, Ready w → Calls Tryd.prog 10 #[.string t] w fun e w' => e = .returned (.bool c) ∧ Below w.heap.size w w') :
    Calls Tryd.prog 7 #[.string s] w fun e w' => e = .returned (.bool true) ∧ Below w.heap.size w w' := by
  have H := hide hR
  have HS' := hide HS
  have HE' := hide HE
  have hE' := hide hE
  have HC1' := hide HC1
  have HC2' := hide HC2
  clear hR HS HE hE HC1 HC2
  have hge : decide ((t.size : Int) ≤ E.size) = true := by simp; omega
  go_enter Tryd.func7, Tryd.ntmps7
  go_wp2_with fail
  refine (HS'.out _).mono ?_
  rintro e w0 ⟨rfl, rfl⟩
  rename_i w
  go_wp2_with fail
  refine (HE'.out _ H.out).mono ?_
  rintro e w1 ⟨rfl, hb1⟩
  have Hb := hide (show _ ∧ _ from ⟨H.out.below hb1, hb1⟩)
  clear hb1
  go_wp2_with fail
  go_loop [4] (fun i => ∃ k : Nat, k ≤ E.size ∧ i = .int .i64 k) (fun i => E.size - (intOf i).toNat)
  case atStart => exact ⟨0, Nat.zero_le _, rfl⟩
  case round =>
    obtain ⟨k, hk, rfl⟩ := hrel
    by_cases hp : k < E.size
    · have h256 := (E[k]'hp).toNat_lt
      obtain ⟨q1, q2, q3, q4⟩ := hE'.out k hp
      have e1 : (((E[k]'hp).toNat : Int) == 60) = false := by rw [beq_eq_false_iff_ne]; exact fun h => q1 (u8_of (n := 60) (by omega) (by decide))
      have e2 : (((E[k]'hp).toNat : Int) == 62) = false := by rw [beq_eq_false_iff_ne]; exact fun h => q2 (u8_of (n := 62) (by omega) (by decide))
      have e3 : (((E[k]'hp).toNat : Int) == 39) = false := by rw [beq_eq_false_iff_ne]; exact fun h => q3 (u8_of (n := 39) (by omega) (by decide))
      have e4 : (((E[k]'hp).toNat : Int) == 34) = false := by rw [beq_eq_false_iff_ne]; exact fun h => q4 (u8_of (n := 34) (by omega) (by decide))
      clear q1 q2 q3 q4
      go_wp2_with fail
      exact ⟨⟨k + 1, by omega, by go_num⟩, by simp [intOf]; omega⟩
    · have hke : k = E.size := by omega
      subst hke
      go_wp2_with fail
      refine (live_any _ Hb.out.1).mono ?_
      rintro e w2 ⟨rfl, hb2⟩
      have hb3 := Hb.out.2.trans (hb2.mono Hb.out.2.size)
      clear hb2
      go_wp2_with fail
      refine (HC1'.out _ (H.out.below hb3)).mono ?_
      rintro e w4 ⟨rfl, hb4⟩
      have hb5 := hb3.trans (hb4.mono hb3.size)
      clear hb3 hb4
      go_wp2_with fail
      refine (HC2'.out _ (H.out.below hb5)).mono ?_
      rintro e w6 ⟨rfl, hb6⟩
      have hb7 := hb5.trans (hb6.mono hb5.size)
      clear hb5 hb6
      go_wp2_with fail
      go_ret
      exact ⟨by simp, hb7⟩

theorem textSafe_any (s : ByteArray) (w : World) (hR : Ready w) : Calls Tryd.prog 7 #[.string s] w fun e w' => e = .returned (.bool true) ∧ Below w.heap.size w w' := by
  obtain ⟨t, ht, hS⟩ := short_is s
  have hEs : (esc t.data.toList).length ≤ 18000 := by
    have := esc_length t.data.toList
    rw [size_list] at this
    omega
  have hsafe := esc_safe t.data.toList
  refine textSafe_core t ⟨(esc t.data.toList).toArray⟩ s w hR hS (fun w hl => escape_any t w (by omega) hl.1) (fun j h => ?_) ?_ (by rw [sz_list]; omega) (chB t.data.toList) (fun w hl => ?_) (fun w hl => chars_is t w (by unfold maxLen; omega) hl)
  · refine hsafe _ ?_
    have := list_at ⟨(esc t.data.toList).toArray⟩ j h
    exact List.mem_of_getElem? this
  · rw [sz_list]
    have := esc_longer t.data.toList
    rw [size_list] at this
    exact this
  · have h1 := chars_is ⟨(esc t.data.toList).toArray⟩ w (by rw [sz_list]; unfold maxLen; omega) hl
    rw [to_list] at h1
    rw [show chB t.data.toList = chB (esc t.data.toList) from (chB_eq (charsOk_esc _ t.data.toList (Nat.le_refl _))).symm]
    exact h1
end Go.Proofs.YtnlmohegkmegcabDoor
