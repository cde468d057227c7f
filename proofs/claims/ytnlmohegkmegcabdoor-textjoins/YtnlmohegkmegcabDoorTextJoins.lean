/- TextJoins answers true at every two texts. -/
import Derived.Test.YtnlmohegkmegcabDoorTextSafe
namespace Go.Proofs.YtnlmohegkmegcabDoor
open Go.RowKit

def spB (l : List UInt8) : Bool := l.all fun b => b == 32 || b == 9 || b == 10 || b == 13
theorem spB_iff (l : List UInt8) : spB l = true ↔ Blanks l := by
  unfold spB Blanks Blank
  rw [List.all_eq_true]
  constructor
  · intro h b hb
    have := h b hb
    simp only [Bool.or_eq_true, beq_iff_eq] at this
    rcases this with ((h1 | h1) | h1) | h1
    · exact Or.inl h1
    · exact Or.inr (Or.inl h1)
    · exact Or.inr (Or.inr (Or.inl h1))
    · exact Or.inr (Or.inr (Or.inr h1))
  · intro h b hb
    have := h b hb
    simp only [Bool.or_eq_true, beq_iff_eq]
    rcases this with h1 | h1 | h1 | h1
    · exact Or.inl (Or.inl (Or.inl h1))
    · exact Or.inl (Or.inl (Or.inr h1))
    · exact Or.inl (Or.inr h1)
    · exact Or.inr h1
theorem space_is (s : ByteArray) (w : World) : Calls Tryd.prog 14 #[.string s] w fun e w' => e = .returned (.bool (spB s.data.toList)) ∧ Below w.heap.size w w' := by
  refine (space_any s w).mono fun e w' ⟨he, hb⟩ => ⟨?_, hb⟩
  by_cases hc : Blanks s.data.toList
  · rw [he.yes hc, (spB_iff _).2 hc]
  · rw [he.no hc, show spB s.data.toList = false by
      cases hb : spB s.data.toList
      · rfl
      · exact absurd ((spB_iff _).1 hb) hc]

set_option maxHeartbeats 1000000 in
theorem textJoins_any (s r : ByteArray) (w : World) (hR : Ready w) : Calls Tryd.prog 8 #[.string s, .string r] w fun e w' => e = .returned (.bool true) ∧ Below w.heap.size w w' := by
  obtain ⟨t, ht, hS⟩ := short_is s
  obtain ⟨u, hu, hS2⟩ := short_is r
  obtain ⟨j, hj⟩ : ∃ j : ByteArray, j = t ++ u := ⟨_, rfl⟩
  have hjl : j.data.toList = t.data.toList ++ u.data.toList := by rw [hj, app_list]
  have hjs : j.size = t.size + u.size := by rw [hj, ByteArray.size_append]
  obtain ⟨E, hE⟩ : ∃ E : ByteArray, E = ⟨(esc t.data.toList).toArray⟩ := ⟨_, rfl⟩
  obtain ⟨F, hF⟩ : ∃ F : ByteArray, F = ⟨(esc u.data.toList).toArray⟩ := ⟨_, rfl⟩
  have hEs : E.size ≤ 18000 := by
    rw [hE, sz_list]
    have := esc_length t.data.toList
    rw [size_list] at this
    omega
  have hFs : F.size ≤ 18000 := by
    rw [hF, sz_list]
    have := esc_length u.data.toList
    rw [size_list] at this
    omega
  have H := hide hR
  have HS := hide (show _ ∧ _ from ⟨hS, hS2⟩)
  have HJ := hide (show ∀ w, Ready w → Calls Tryd.prog 19 #[.string j] w fun e w' => e = .returned (.string (E ++ F)) ∧ Below w.heap.size w w' from fun w hl => by
    have := escape_any j w (by omega) hl.1
    rw [hjl, esc_append] at this
    rw [show E ++ F = (⟨(esc t.data.toList ++ esc u.data.toList).toArray⟩ : ByteArray) by
      rw [hE, hF]
      apply ByteArray.ext
      rw [ByteArray.data_append]
      simp]
    exact this)
  have HE := hide (show ∀ w, Ready w → Calls Tryd.prog 19 #[.string t] w fun e w' => e = .returned (.string E) ∧ Below w.heap.size w w' from fun w hl => by
    rw [hE]
    exact escape_any t w (by omega) hl.1)
  have HF := hide (show ∀ w, Ready w → Calls Tryd.prog 19 #[.string u] w fun e w' => e = .returned (.string F) ∧ Below w.heap.size w w' from fun w hl => by
    rw [hF]
    exact escape_any u w (by omega) hl.1)
  obtain ⟨ct, hct⟩ : ∃ c, c = chB t.data.toList := ⟨_, rfl⟩
  obtain ⟨cu, hcu⟩ : ∃ c, c = chB u.data.toList := ⟨_, rfl⟩
  obtain ⟨cj, hcj⟩ : ∃ c, c = chB j.data.toList := ⟨_, rfl⟩
  have hcc : ct = true → cu = true → cj = true := by
    intro h1 h2
    rw [hct, chB_iff] at h1
    rw [hcu, chB_iff] at h2
    rw [hcj, chB_iff, hjl]
    exact charsOk_append _ _ _ (Nat.le_refl _) h1 h2
  have HCt := hide (show ∀ w, Ready w → Calls Tryd.prog 10 #[.string t] w fun e w' => e = .returned (.bool ct) ∧ Below w.heap.size w w' from fun w hl => by
    rw [hct]; exact chars_is t w (by unfold maxLen; omega) hl)
  have HCu := hide (show ∀ w, Ready w → Calls Tryd.prog 10 #[.string u] w fun e w' => e = .returned (.bool cu) ∧ Below w.heap.size w w' from fun w hl => by
    rw [hcu]; exact chars_is u w (by unfold maxLen; omega) hl)
  have HCj := hide (show ∀ w, Ready w → Calls Tryd.prog 10 #[.string j] w fun e w' => e = .returned (.bool cj) ∧ Below w.heap.size w w' from fun w hl => by
    rw [hcj]; exact chars_is j w (by unfold maxLen; omega) hl)
  obtain ⟨st, hst⟩ : ∃ c, c = spB t.data.toList := ⟨_, rfl⟩
  obtain ⟨su, hsu⟩ : ∃ c, c = spB u.data.toList := ⟨_, rfl⟩
  obtain ⟨sj, hsj⟩ : ∃ c, c = spB j.data.toList := ⟨_, rfl⟩
  have hss : sj = (st && su) := by
    rw [hst, hsu, hsj, hjl]
    unfold spB
    rw [List.all_append]
  have HPt := hide (show ∀ w, Calls Tryd.prog 14 #[.string t] w fun e w' => e = .returned (.bool st) ∧ Below w.heap.size w w' from fun w => by
    rw [hst]; exact space_is t w)
  have HPu := hide (show ∀ w, Calls Tryd.prog 14 #[.string u] w fun e w' => e = .returned (.bool su) ∧ Below w.heap.size w w' from fun w => by
    rw [hsu]; exact space_is u w)
  have HPj := hide (show ∀ w, Calls Tryd.prog 14 #[.string j] w fun e w' => e = .returned (.bool sj) ∧ Below w.heap.size w w' from fun w => by
    rw [hsj]; exact space_is j w)
  clear hct hcu hcj hst hsu hsj hjl hE hF hS hS2 hR
  subst hj
  go_enter Tryd.func8, Tryd.ntmps8
  go_wp2_with fail
  refine (HS.out.1 _).mono ?_
  rintro e w0 ⟨rfl, rfl⟩
  rename_i w
  go_wp2_with fail
  refine (HS.out.2 _).mono ?_
  rintro e w0 ⟨rfl, rfl⟩
  rename_i w
  go_wp2_with fail
  refine (live_any _ H.out).mono ?_
  rintro e w1 ⟨rfl, hb1⟩
  go_wp2_with fail
  refine (HJ.out _ (H.out.below hb1)).mono ?_
  rintro e w2 ⟨rfl, hb2⟩
  have hb3 := hb1.trans (hb2.mono hb1.size)
  clear hb1 hb2
  go_wp2_with fail
  refine (HE.out _ (H.out.below hb3)).mono ?_
  rintro e w4 ⟨rfl, hb4⟩
  have hb5 := hb3.trans (hb4.mono hb3.size)
  clear hb3 hb4
  go_wp2_with fail
  refine (HF.out _ (H.out.below hb5)).mono ?_
  rintro e w6 ⟨rfl, hb6⟩
  have hb7 := hb5.trans (hb6.mono hb5.size)
  clear hb5 hb6
  go_wp2_with fail
  refine (HCt.out _ (H.out.below hb7)).mono ?_
  rintro e w8 ⟨rfl, hb8⟩
  have hb9 := hb7.trans (hb8.mono hb7.size)
  clear hb7 hb8
  cases ct
  · go_wp2_with fail
    refine (HPj.out _).mono ?_
    rintro e v1 ⟨rfl, hq⟩
    have k1 := hb9.trans (hq.mono hb9.size)
    clear hb9 hq
    go_wp2_with fail
    refine (HPt.out _).mono ?_
    rintro e v1' ⟨rfl, hq⟩
    have k2 := k1.trans (hq.mono k1.size)
    clear k1 hq
    cases st
    · go_wp2_with fail
      go_ret
      exact ⟨rfl, k2⟩
    · go_wp2_with fail
      refine (HPu.out _).mono ?_
      rintro e v1'' ⟨rfl, hq⟩
      have k3 := k2.trans (hq.mono k2.size)
      clear k2 hq
      go_wp2_with fail
      go_ret
      exact ⟨by first | rfl | (cases su <;> rfl), k3⟩
  · go_wp2_with fail
    refine (HCu.out _ (H.out.below hb9)).mono ?_
    rintro e w10 ⟨rfl, hq⟩
    have hb11 := hb9.trans (hq.mono hb9.size)
    clear hb9 hq
    cases cu
    · go_wp2_with fail
      refine (HPj.out _).mono ?_
      rintro e v2 ⟨rfl, hq⟩
      have k1 := hb11.trans (hq.mono hb11.size)
      clear hb11 hq
      go_wp2_with fail
      refine (HPt.out _).mono ?_
      rintro e v2' ⟨rfl, hq⟩
      have k2 := k1.trans (hq.mono k1.size)
      clear k1 hq
      cases st
      · go_wp2_with fail
        go_ret
        exact ⟨rfl, k2⟩
      · go_wp2_with fail
        refine (HPu.out _).mono ?_
        rintro e v2'' ⟨rfl, hq⟩
        have k3 := k2.trans (hq.mono k2.size)
        clear k2 hq
        go_wp2_with fail
        go_ret
        exact ⟨by first | rfl | (cases su <;> rfl), k3⟩
    · obtain rfl : cj = true := by simpa using hcc
      go_wp2_with fail
      refine (HCj.out _ (H.out.below hb11)).mono ?_
      rintro e w12 ⟨rfl, hq⟩
      have hb13 := hb11.trans (hq.mono hb11.size)
      clear hb11 hq
      go_wp2_with fail
      refine (HPj.out _).mono ?_
      rintro e v3 ⟨rfl, hq⟩
      have k1 := hb13.trans (hq.mono hb13.size)
      clear hb13 hq
      go_wp2_with fail
      refine (HPt.out _).mono ?_
      rintro e v3' ⟨rfl, hq⟩
      have k2 := k1.trans (hq.mono k1.size)
      clear k1 hq
      cases st
      · go_wp2_with fail
        go_ret
        exact ⟨rfl, k2⟩
      · go_wp2_with fail
        refine (HPu.out _).mono ?_
        rintro e v3'' ⟨rfl, hq⟩
        have k3 := k2.trans (hq.mono k2.size)
        clear k2 hq
        go_wp2_with fail
        go_ret
        exact ⟨by first | rfl | (cases su <;> rfl), k3⟩
end Go.Proofs.YtnlmohegkmegcabDoor
