/- TextBase answers true at every text. -/
import Derived.Test.YtnlmohegkmegcabDoorRefUnw
import Derived.Test.YtnlmohegkmegcabDoorB64w
namespace Go.Proofs.YtnlmohegkmegcabDoor
open Go.RowKit

theorem both_unbase (s : ByteArray) (hs : s.size ≤ 3000) : ∃ (a : ByteArray) (n : Int), (∀ w, Calls Tryd.prog 21 #[.string s] w fun e w' => e = .returned (.tuple #[.string a, .int .i64 n]) ∧ Below w.heap.size w w') ∧ (∀ w, Calls Tryd.prog 22 #[.string s] w fun e w' => e = .returned (.tuple #[.string a, .int .i64 n]) ∧ Below w.heap.size w w') := by
  have key : ∃ (a : ByteArray) (n : Int), ∀ e, UnEnds s.data.toList e → e = .returned (.tuple #[.string a, .int .i64 n]) := by
    by_cases hu : ∃ l, b64 l = s.data.toList
    · obtain ⟨l, hl⟩ := hu
      refine ⟨⟨l.toArray⟩, 0, fun e he => ?_⟩
      rcases he with ⟨l', h1, h2⟩ | ⟨h1, _⟩
      · rw [← hl] at h1
        obtain rfl := b64_inj h1
        exact h2
      · exact absurd hl (h1 l)
    · refine ⟨⟨#[]⟩, 3, fun e he => ?_⟩
      rcases he with ⟨l, h1, _⟩ | ⟨_, h2⟩
      · exact absurd ⟨l, h1⟩ hu
      · exact h2
  obtain ⟨a, n, hk⟩ := key
  exact ⟨a, n, fun w => (unbase64_any s w (by omega)).mono fun e w' ⟨he, hb⟩ => ⟨hk e he, hb⟩, fun w => (refUnbase64_any s w hs).mono fun e w' ⟨he, hb⟩ => ⟨hk e he, hb⟩⟩

set_option maxHeartbeats 1000000 in
theorem textBase_any (s : ByteArray) (w : World) (hR : Ready w) : Calls Tryd.prog 5 #[.string s] w fun e w' => e = .returned (.bool true) ∧ Below w.heap.size w w' := by
  obtain ⟨t, ht, hS⟩ := short_is s
  obtain ⟨a, n, hu1, hu2⟩ := both_unbase t ht
  obtain ⟨E, hE⟩ : ∃ E : ByteArray, E = ⟨(b64 t.data.toList).toArray⟩ := ⟨_, rfl⟩
  have H := hide hR
  have HS := hide hS
  have HU := hide (show _ ∧ _ from ⟨hu1, hu2⟩)
  have HE := hide (show (∀ w, Calls Tryd.prog 23 #[.string t] w fun e w' => e = .returned (.string E) ∧ Below w.heap.size w w') ∧ (∀ w, Calls Tryd.prog 24 #[.string t] w fun e w' => e = .returned (.string E) ∧ Below w.heap.size w w') from ⟨fun w => by
    rw [hE]
    exact base64_any t w (by omega), fun w => by
    rw [hE]
    exact refBase64_any t w ht⟩)
  clear hR hS hu1 hu2 hE
  go_enter Tryd.func5, Tryd.ntmps5
  go_wp2_with fail
  refine (HS.out _).mono ?_
  rintro e w0 ⟨rfl, rfl⟩
  rename_i w
  go_wp2_with fail
  refine (HU.out.1 _).mono ?_
  rintro e w1 ⟨rfl, k1⟩
  go_wp2_with fail
  refine (HU.out.2 _).mono ?_
  rintro e w2 ⟨rfl, hq⟩
  have k2 := k1.trans (hq.mono k1.size)
  clear k1 hq
  go_wp2_with fail
  refine (live_any _ (H.out.below k2)).mono ?_
  rintro e w3 ⟨rfl, hq⟩
  have k3 := k2.trans (hq.mono k2.size)
  clear k2 hq
  go_wp2_with fail
  refine (HE.out.1 _).mono ?_
  rintro e w4 ⟨rfl, hq⟩
  have k4 := k3.trans (hq.mono k3.size)
  clear k3 hq
  go_wp2_with fail
  refine (HE.out.2 _).mono ?_
  rintro e w5 ⟨rfl, hq⟩
  have k5 := k4.trans (hq.mono k4.size)
  clear k4 hq
  go_wp2_with fail
  go_ret
  exact ⟨by simp, k5⟩
end Go.Proofs.YtnlmohegkmegcabDoor
