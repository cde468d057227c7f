/- TextEscapes answers true at every text. -/
import Derived.Test.YtnlmohegkmegcabDoorFacts64
import Derived.Test.YtnlmohegkmegcabDoorRefUnesc
namespace Go.Proofs.YtnlmohegkmegcabDoor
open Go.RowKit

theorem both_unescape (s : ByteArray) (hs : s.size ≤ 3000) : ∃ (a : ByteArray) (n : Int), (n = 0 ∨ n = 3) ∧ (∀ w, Ready w → Calls Tryd.prog 17 #[.string s] w fun e w' => e = .returned (.tuple #[.string a, .int .i64 n]) ∧ Below w.heap.size w w') ∧ (∀ w, Calls Tryd.prog 18 #[.string s] w fun e w' => e = .returned (.tuple #[.string a, .int .i64 n]) ∧ Below w.heap.size w w') := by
  have key : ∃ (a : ByteArray) (n : Int), (n = 0 ∨ n = 3) ∧ ∀ e, UeEnds s.data.toList e → e = .returned (.tuple #[.string a, .int .i64 n]) := by
    cases hu : unesc s.data.toList with
    | none =>
      refine ⟨⟨#[]⟩, 3, Or.inr rfl, fun e he => ?_⟩
      rcases he with ⟨l, h1, _⟩ | ⟨_, h2⟩
      · rw [hu] at h1; cases h1
      · exact h2
    | some l =>
      refine ⟨⟨l.toArray⟩, 0, Or.inl rfl, fun e he => ?_⟩
      rcases he with ⟨l', h1, h2⟩ | ⟨h1, _⟩
      · rw [hu] at h1; cases h1; exact h2
      · rw [hu] at h1; cases h1
  obtain ⟨a, n, hn, hk⟩ := key
  refine ⟨a, n, hn, fun w hR => ?_, fun w => (refUnescape_any s w hs).mono fun e w' ⟨he, hb⟩ => ⟨hk e he, hb⟩⟩
  obtain ⟨h1, _, m, h3⟩ := hR
  exact (unescape_any s w (by omega) h1 m h3).mono fun e w' ⟨he, hb⟩ => ⟨hk e he, hb⟩

set_option maxHeartbeats 1000000 in
theorem textEscapes_any (s : ByteArray) (w : World) (hR : Ready w) : Calls Tryd.prog 4 #[.string s] w fun e w' => e = .returned (.bool true) ∧ Below w.heap.size w w' := by
  obtain ⟨t, ht, hS⟩ := short_is s
  obtain ⟨a, n, hn, hu1, hu2⟩ := both_unescape t ht
  obtain ⟨E, hE⟩ : ∃ E : ByteArray, E = ⟨(esc t.data.toList).toArray⟩ := ⟨_, rfl⟩
  have H := hide hR
  have HS := hide hS
  have HU := hide (show _ ∧ _ from ⟨hu1, hu2⟩)
  have HE := hide (show (∀ w, Ready w → Calls Tryd.prog 19 #[.string t] w fun e w' => e = .returned (.string E) ∧ Below w.heap.size w w') ∧ (∀ w, Calls Tryd.prog 20 #[.string t] w fun e w' => e = .returned (.string E) ∧ Below w.heap.size w w') from ⟨fun w hl => by
    rw [hE]
    exact escape_any t w (by omega) hl.1, fun w => by
    rw [hE]
    exact refEscape_any t w ht⟩)
  clear hR hS hu1 hu2 hE hn
  go_enter Tryd.func4, Tryd.ntmps4
  go_wp2_with fail
  refine (HS.out _).mono ?_
  rintro e w0 ⟨rfl, rfl⟩
  rename_i w
  go_wp2_with fail
  refine (HU.out.1 _ H.out).mono ?_
  rintro e w1 ⟨rfl, k1⟩
  go_wp2_with fail
  refine (HU.out.2 _).mono ?_
  rintro e w2 ⟨rfl, hq⟩
  have k2 := k1.trans (hq.mono k1.size)
  clear k1 hq
  go_wp2_with fail
  refine (live_any _ (H.out.below k2)).mono ?_
  rintro e w3 ⟨rfl, hq⟩
  have k3 := k2.trans (hq.mono k2.size)
  clear k2 hq
  go_wp2_with fail
  refine (HE.out.1 _ (H.out.below k3)).mono ?_
  rintro e w4 ⟨rfl, hq⟩
  have k4 := k3.trans (hq.mono k3.size)
  clear k3 hq
  go_wp2_with fail
  refine (HE.out.2 _).mono ?_
  rintro e w5 ⟨rfl, hq⟩
  have k5 := k4.trans (hq.mono k4.size)
  clear k4 hq
  go_wp2_with fail
  go_ret
  exact ⟨by simp, k5⟩
end Go.Proofs.YtnlmohegkmegcabDoor
