/- TextChars answers true at every text. -/
import Derived.Test.YtnlmohegkmegcabDoorLive
import Derived.Test.YtnlmohegkmegcabDoorRefChars
import Derived.Test.YtnlmohegkmegcabDoorRefName
namespace Go.Proofs.YtnlmohegkmegcabDoor
open Go.RowKit

theorem both_chars (s : ByteArray) (hs : s.size ≤ maxLen) : ∃ b, (∀ w, Ready w → Calls Tryd.prog 10 #[.string s] w fun e w' => e = .returned (.bool b) ∧ Below w.heap.size w w') ∧ (∀ w, Ready w → Calls Tryd.prog 11 #[.string s] w fun e w' => e = .returned (.bool b) ∧ Below w.heap.size w w') := by
  by_cases h : CharsOk s.data.toList
  · exact ⟨true, fun w hl => (chars_any s w hs hl.2.1).mono fun e w' ⟨he, hb⟩ => ⟨he.yes h, hb⟩, fun w hl => (refChars_any s w hs hl.2.1).mono fun e w' ⟨he, hb⟩ => ⟨he.yes h, hb⟩⟩
  · exact ⟨false, fun w hl => (chars_any s w hs hl.2.1).mono fun e w' ⟨he, hb⟩ => ⟨he.no h, hb⟩, fun w hl => (refChars_any s w hs hl.2.1).mono fun e w' ⟨he, hb⟩ => ⟨he.no h, hb⟩⟩
theorem both_names (s : ByteArray) (hs : s.size ≤ maxLen) : ∃ b, (∀ w, Calls Tryd.prog 12 #[.string s] w fun e w' => e = .returned (.bool b) ∧ Below w.heap.size w w') ∧ (∀ w, Calls Tryd.prog 13 #[.string s] w fun e w' => e = .returned (.bool b) ∧ w' = w) := by
  by_cases h : NameOk s
  · exact ⟨true, fun w => (name_any s w hs).mono fun e w' ⟨he, hb⟩ => ⟨he.yes h, hb⟩, fun w => (refName_any s w hs).mono fun e w' ⟨he, hb⟩ => ⟨he.yes h, hb⟩⟩
  · exact ⟨false, fun w => (name_any s w hs).mono fun e w' ⟨he, hb⟩ => ⟨he.no h, hb⟩, fun w => (refName_any s w hs).mono fun e w' ⟨he, hb⟩ => ⟨he.no h, hb⟩⟩
theorem both_spaces (s : ByteArray) (hs : s.size ≤ maxLen) : ∃ b, (∀ w, Calls Tryd.prog 14 #[.string s] w fun e w' => e = .returned (.bool b) ∧ Below w.heap.size w w') ∧ (∀ w, Calls Tryd.prog 15 #[.string s] w fun e w' => e = .returned (.bool b) ∧ w' = w) := by
  by_cases h : Blanks s.data.toList
  · exact ⟨true, fun w => (space_any s w).mono fun e w' ⟨he, hb⟩ => ⟨he.yes h, hb⟩, fun w => (refSpace_any s w hs).mono fun e w' ⟨he, hb⟩ => ⟨he.yes h, hb⟩⟩
  · exact ⟨false, fun w => (space_any s w).mono fun e w' ⟨he, hb⟩ => ⟨he.no h, hb⟩, fun w => (refSpace_any s w hs).mono fun e w' ⟨he, hb⟩ => ⟨he.no h, hb⟩⟩

set_option maxHeartbeats 1000000 in
theorem textChars_any (s : ByteArray) (w : World) (hs : s.size ≤ maxLen) (hR : Ready w) : Calls Tryd.prog 3 #[.string s] w fun e w' => e = .returned (.bool true) ∧ Below w.heap.size w w' := by
  obtain ⟨c, hc1, hc2⟩ := both_chars s hs
  obtain ⟨n, hn1, hn2⟩ := both_names s hs
  obtain ⟨b, hb1, hb2⟩ := both_spaces s hs
  have H := hide hR
  have HC := hide (show _ ∧ _ from ⟨hc1, hc2⟩)
  have HN := hide (show _ ∧ _ from ⟨hn1, hn2⟩)
  have HB := hide (show _ ∧ _ from ⟨hb1, hb2⟩)
  clear hc1 hc2 hn1 hn2 hb1 hb2 hR hs
  go_enter Tryd.func3, Tryd.ntmps3
  go_wp2_with fail
  refine (live_any _ H.out).mono ?_
  rintro e w1 ⟨rfl, k1⟩
  go_wp2_with fail
  refine (HC.out.1 _ (H.out.below k1)).mono ?_
  rintro e w2 ⟨rfl, hq⟩
  have k2 := k1.trans (hq.mono k1.size)
  clear k1 hq
  go_wp2_with fail
  refine (HC.out.2 _ (H.out.below k2)).mono ?_
  rintro e w3 ⟨rfl, hq⟩
  have k3 := k2.trans (hq.mono k2.size)
  clear k2 hq
  go_wp2_with fail
  refine (HN.out.1 _).mono ?_
  rintro e w4 ⟨rfl, hq⟩
  have k4 := k3.trans (hq.mono k3.size)
  clear k3 hq
  go_wp2_with fail
  refine (HN.out.2 _).mono ?_
  rintro e w5 ⟨rfl, rfl⟩
  rename_i w5
  go_wp2_with fail
  refine (HB.out.1 _).mono ?_
  rintro e w6 ⟨rfl, hq⟩
  have k6 := k4.trans (hq.mono k4.size)
  clear k4 hq
  go_wp2_with fail
  refine (HB.out.2 _).mono ?_
  rintro e w7 ⟨rfl, rfl⟩
  rename_i w7
  go_wp2_with fail
  go_ret
  exact ⟨by simp, k6⟩
end Go.Proofs.YtnlmohegkmegcabDoor
