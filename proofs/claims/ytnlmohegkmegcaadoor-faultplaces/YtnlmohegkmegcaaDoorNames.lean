/- FaultNames and FaultBack answer true, whatever they are asked. -/
import Derived.Test.YtnlmohegkmegcaaDoorG
import Derived.Test.YtnlmohegkmegcaaDoorP
namespace Go.Proofs.YtnlmohegkmegcaaDoor
open Go.RowKit

theorem tabN_fin : ∀ i j : Fin 11, 1 ≤ i.val → 1 ≤ j.val → tabN i.val = tabN j.val → i = j := by decide
theorem tabN_inj {i j : Nat} (hi : 1 ≤ i) (hi' : i ≤ 10) (hj : 1 ≤ j) (hj' : j ≤ 10) (h : tabN i = tabN j) : i = j := by
  have := tabN_fin ⟨i, by omega⟩ ⟨j, by omega⟩ hi hj h
  exact congrArg Fin.val this
theorem parse_one {s : ByteArray} {e e' : Ending} (h : ParseEnds s e) (h' : ParseEnds s e') : e = e' := by
  rcases h with ⟨k, h1, h2, h3, rfl⟩ | ⟨h1, rfl⟩
  · rcases h' with ⟨k', g1, g2, g3, rfl⟩ | ⟨g1, rfl⟩
    · rw [tabN_inj h1 h2 g1 g2 (h3.trans g3.symm)]
    · exact absurd h3 (g1 k h1 h2)
  · rcases h' with ⟨k', g1, g2, g3, rfl⟩ | ⟨g1, rfl⟩
    · exact absurd g3 (h1 k' g1 g2)
    · rfl
theorem parse_form {s : ByteArray} {e : Ending} (h : ParseEnds s e) : ∃ (k : Int) (b : Bool), e = .returned (.tuple #[.int .i64 k, .bool b]) := by
  rcases h with ⟨k, h1, h2, h3, rfl⟩ | ⟨h1, rfl⟩
  · exact ⟨_, _, rfl⟩
  · exact ⟨_, _, rfl⟩
/-- The four calls on a condition, at once. -/
theorem four (c : Int) : ∃ n t : ByteArray,
    (∀ w, Laid w → Calls Tryd.prog 12 #[.int .i64 c] w fun e w' => e = .returned (.string n) ∧ w' = w) ∧ (∀ w, Calls Tryd.prog 13 #[.int .i64 c] w fun e w' => e = .returned (.string n) ∧ w' = w) ∧
    (∀ w, Laid w → Calls Tryd.prog 14 #[.int .i64 c] w fun e w' => e = .returned (.string t) ∧ w' = w) ∧ (∀ w, Calls Tryd.prog 15 #[.int .i64 c] w fun e w' => e = .returned (.string t) ∧ w' = w) := by
  by_cases h : 1 ≤ c ∧ c ≤ 10
  · exact ⟨tabN c.toNat, tabT c.toNat, fun w hl => name_yes c w h.1 h.2 hl, fun w => refName_yes c w h.1 h.2, fun w hl => type_yes c w h.1 h.2 hl, fun w => refType_yes c w h.1 h.2⟩
  · exact ⟨_, _, fun w _ => name_no c w (by omega), fun w => refName_no c w (by omega), fun w _ => type_no c w (by omega), fun w => refType_no c w (by omega)⟩

theorem names_any (c : Int) (s : ByteArray) (w : World) (hL : Laid w) : Calls Tryd.prog 3 #[.int .i64 c, .string s] w fun e w' => e = .returned (.bool true) ∧ Below w.heap.size w w' := by
  obtain ⟨n, t, c12, c13, c14, c15⟩ := four c
  have hn : (n.toList == n.toList) = true := by simp
  have ht : (t.toList == t.toList) = true := by simp
  have H := hide (show _ ∧ _ ∧ _ ∧ _ ∧ _ from ⟨hL, c12, c13, c14, c15⟩)
  clear hL c12 c13 c14 c15
  go_enter Tryd.func3, Tryd.ntmps3
  go_wp2_with fail
  refine (parse_any s _ H.out.1).mono ?_
  rintro e w1 ⟨hp, hb⟩
  obtain ⟨k, b, rfl⟩ := parse_form hp
  have HP := hide hp
  have HL1 := hide (H.out.1.below hb H.out.1.size)
  clear hp
  go_wp2_with fail
  refine (rparse_any s _).mono ?_
  rintro e w2 ⟨hq, rfl⟩
  have he := parse_one hq HP.out
  subst he
  clear hq HP
  go_wp2_with fail
  refine (live_any _ HL1.out).mono ?_
  rintro e w3 ⟨rfl, hb3⟩
  have hb4 := hb.trans (hb3.mono hb.size)
  have HL3 := hide (H.out.1.below hb4 H.out.1.size)
  clear hb hb3 HL1
  go_wp2_with (first | (go_at_call 12; refine (H.out.2.1 _ HL3.out).mono ?_; rintro e w' ⟨rfl, rfl⟩) | (go_at_call 13; refine (H.out.2.2.1 _).mono ?_; rintro e w' ⟨rfl, rfl⟩) | (go_at_call 14; refine (H.out.2.2.2.1 _ HL3.out).mono ?_; rintro e w' ⟨rfl, rfl⟩) | (go_at_call 15; refine (H.out.2.2.2.2 _).mono ?_; rintro e w' ⟨rfl, rfl⟩))
  go_ret
  exact ⟨rfl, hb4⟩

theorem tabN_ne (k : Nat) (h1 : 1 ≤ k) (h2 : k ≤ 10) : tabN k ≠ ⟨#[]⟩ := by
  have hk : k = 1 ∨ k = 2 ∨ k = 3 ∨ k = 4 ∨ k = 5 ∨ k = 6 ∨ k = 7 ∨ k = 8 ∨ k = 9 ∨ k = 10 := by omega
  rcases hk with rfl | rfl | rfl | rfl | rfl | rfl | rfl | rfl | rfl | rfl <;> decide
theorem tabT_some (k : Nat) (h1 : 1 ≤ k) (h2 : k ≤ 10) : (tabT k).toList.isEmpty = false := by
  rw [ByteArray.toList_eq]
  have hk : k = 1 ∨ k = 2 ∨ k = 3 ∨ k = 4 ∨ k = 5 ∨ k = 6 ∨ k = 7 ∨ k = 8 ∨ k = 9 ∨ k = 10 := by omega
  rcases hk with rfl | rfl | rfl | rfl | rfl | rfl | rfl | rfl | rfl | rfl <;> rfl
theorem parse_none {e : Ending} (h : ParseEnds ⟨#[]⟩ e) : e = .returned (.tuple #[.int .i64 0, .bool false]) := by
  rcases h with ⟨k, h1, h2, h3, rfl⟩ | ⟨h1, rfl⟩
  · exact absurd h3 (tabN_ne k h1 h2)
  · rfl
theorem parse_own {a : Int} (h1 : 1 ≤ a) (h2 : a ≤ 10) {e : Ending} (h : ParseEnds (tabN a.toNat) e) : e = .returned (.tuple #[.int .i64 a, .bool true]) := by
  rcases h with ⟨k, g1, g2, g3, rfl⟩ | ⟨g1, rfl⟩
  · have := tabN_inj g1 g2 (by omega) (by omega) g3
    rw [this, Int.toNat_of_nonneg (by omega)]
  · exact absurd rfl (g1 a.toNat (by omega) (by omega))

theorem back_no (a b : Int) (w : World) (hL : Laid w) (h : a < 1 ∨ 10 < a) : Calls Tryd.prog 4 #[.int .i64 a, .int .i64 b] w fun e w' => e = .returned (.bool true) ∧ Below w.heap.size w w' := by
  have H := hide (show _ ∧ _ from ⟨hL, h⟩)
  have hk : (decide (1 ≤ a) && decide (a ≤ 10)) = false := by
    rcases h with h | h
    · rw [show decide (1 ≤ a) = false by simp; omega]; rfl
    · rw [show decide (a ≤ 10) = false by simp; omega]; simp
  clear hL
  go_enter Tryd.func4, Tryd.ntmps4
  go_wp2_with (go_at_call 12; refine (name_no a _ H.out.2).mono ?_; rintro e w' ⟨rfl, rfl⟩)
  refine (parse_any ⟨#[]⟩ _ H.out.1).mono ?_
  rintro e w1 ⟨hp, hb⟩
  have he := parse_none hp
  subst he
  clear hp
  have HL1 := hide (H.out.1.below hb H.out.1.size)
  rcases h with h | h
  · have h' : ¬ 1 ≤ a := by omega
    go_wp2_with fail
    refine (live_any _ HL1.out).mono ?_
    rintro e w3 ⟨rfl, hb3⟩
    have hb4 := hb.trans (hb3.mono hb.size)
    clear hb hb3
    go_wp2_with (first | (go_at_call 12; refine (name_no a _ H.out.2).mono ?_; rintro e w' ⟨rfl, rfl⟩) | (go_at_call 16; refine (make_no a _ H.out.2).mono ?_; rintro e w' ⟨rfl, rfl⟩))
    go_ret
    exact ⟨rfl, hb4⟩
  · have h' : 1 ≤ a := by omega
    have h'' : ¬ a ≤ 10 := by omega
    have h3 : decide (a ≤ 10) = false := by simp; omega
    go_wp2_with fail
    refine (live_any _ HL1.out).mono ?_
    rintro e w3 ⟨rfl, hb3⟩
    have hb4 := hb.trans (hb3.mono hb.size)
    clear hb hb3
    go_wp2_with (first | (go_at_call 12; refine (name_no a _ H.out.2).mono ?_; rintro e w' ⟨rfl, rfl⟩) | (go_at_call 16; refine (make_no a _ H.out.2).mono ?_; rintro e w' ⟨rfl, rfl⟩))
    go_ret
    exact ⟨rfl, hb4⟩

theorem name_other (a b : Int) (h1 : 1 ≤ a) (h2 : a ≤ 10) : ∃ nb : ByteArray, (∀ w, Laid w → Calls Tryd.prog 12 #[.int .i64 b] w fun e w' => e = .returned (.string nb) ∧ w' = w) ∧ ((tabN a.toNat).toList == nb.toList) = (a == b) := by
  by_cases h : 1 ≤ b ∧ b ≤ 10
  · refine ⟨tabN b.toNat, fun w hl => name_yes b w h.1 h.2 hl, ?_⟩
    by_cases hab : a = b
    · subst hab; simp
    · rw [seq_false (fun e => hab (by have := tabN_inj (by omega) (by omega) (by omega) (by omega) e; omega)), beq_eq_false_iff_ne.2 hab]
  · refine ⟨⟨#[]⟩, fun w _ => name_no b w (by omega), ?_⟩
    rw [seq_false (tabN_ne _ (by omega) (by omega)), beq_eq_false_iff_ne.2 (by omega)]

theorem back_yes (a b : Int) (w : World) (hL : Laid w) (h1 : 1 ≤ a) (h2 : a ≤ 10) : Calls Tryd.prog 4 #[.int .i64 a, .int .i64 b] w fun e w' => e = .returned (.bool true) ∧ Below w.heap.size w w' := by
  obtain ⟨nb, hnb, heq⟩ := name_other a b h1 h2
  have ht := tabT_some a.toNat (by omega) (by omega)
  have H := hide (show _ ∧ _ from ⟨hL, hnb⟩)
  have h3 : decide (a ≤ 10) = true := by simp; omega
  clear hL hnb
  obtain ⟨na, hna⟩ : ∃ na, na = tabN a.toNat := ⟨_, rfl⟩
  obtain ⟨ta, hta⟩ : ∃ ta, ta = tabT a.toNat := ⟨_, rfl⟩
  rw [← hna] at heq
  rw [← hta] at ht
  have HN := hide (show ∀ w, Laid w → Calls Tryd.prog 12 #[.int .i64 a] w fun e w' => e = .returned (.string na) ∧ w' = w from fun w hl => by rw [hna]; exact name_yes a w h1 h2 hl)
  have HT := hide (show ∀ w, Laid w → Calls Tryd.prog 14 #[.int .i64 a] w fun e w' => e = .returned (.string ta) ∧ w' = w from fun w hl => by rw [hta]; exact type_yes a w h1 h2 hl)
  have HE := hide (show ∀ e, ParseEnds na e → e = .returned (.tuple #[.int .i64 a, .bool true]) from fun e h => parse_own h1 h2 (hna ▸ h))
  have Heq := hide heq
  clear hna hta heq
  go_enter Tryd.func4, Tryd.ntmps4
  go_wp2_with (go_at_call 12; refine (HN.out _ H.out.1).mono ?_; rintro e w' ⟨rfl, rfl⟩)
  refine (parse_any na _ H.out.1).mono ?_
  rintro e w1 ⟨hp, hb⟩
  have he := HE.out e hp
  subst he
  clear hp
  have HL1 := hide (H.out.1.below hb H.out.1.size)
  go_wp2_with fail
  refine (live_any _ HL1.out).mono ?_
  rintro e w3 ⟨rfl, hb3⟩
  have hb4 := hb.trans (hb3.mono hb.size)
  have HL3 := hide (H.out.1.below hb4 H.out.1.size)
  clear hb hb3
  go_wp2_with fail
  refine (HN.out _ HL3.out).mono ?_
  rintro e w' ⟨rfl, rfl⟩
  go_wp2_with fail
  refine (H.out.2 _ HL3.out).mono ?_
  rintro e w' ⟨rfl, rfl⟩
  have heq := Heq.out
  go_wp2_with (go_at_call 14; refine (HT.out _ HL3.out).mono ?_; rintro e w' ⟨rfl, rfl⟩)
  go_ret
  exact ⟨rfl, hb4⟩
theorem back_any (a b : Int) (w : World) (hL : Laid w) : Calls Tryd.prog 4 #[.int .i64 a, .int .i64 b] w fun e w' => e = .returned (.bool true) ∧ Below w.heap.size w w' := by
  by_cases h : 1 ≤ a ∧ a ≤ 10
  · exact back_yes a b w hL h.1 h.2
  · exact back_no a b w hL (by omega)
end Go.Proofs.YtnlmohegkmegcaaDoor
