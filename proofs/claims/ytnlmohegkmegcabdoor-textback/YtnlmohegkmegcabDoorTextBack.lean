/- TextBack answers true at every text. -/
import Derived.Test.YtnlmohegkmegcabDoorFacts64
import Derived.Test.YtnlmohegkmegcabDoorB64w
namespace Go.Proofs.YtnlmohegkmegcabDoor
open Go.RowKit

theorem textBack_any (s : ByteArray) (w : World) (hR : Ready w) : Calls Tryd.prog 6 #[.string s] w fun e w' => e = .returned (.bool true) ∧ Below w.heap.size w w' := by
  have H := hide hR
  clear hR
  go_enter Tryd.func6, Tryd.ntmps6
  go_wp2_with fail
  refine (short_any s _).mono ?_
  rintro e w0 ⟨⟨t, ht, rfl⟩, rfl⟩
  rename_i w
  obtain ⟨E, hE⟩ : ∃ E : ByteArray, E = ⟨(esc t.data.toList).toArray⟩ := ⟨_, rfl⟩
  obtain ⟨B, hB⟩ : ∃ B : ByteArray, B = ⟨(b64 t.data.toList).toArray⟩ := ⟨_, rfl⟩
  have hEs : E.size ≤ 18000 := by
    rw [hE, sz_list]
    have := esc_length t.data.toList
    rw [size_list] at this
    omega
  have hBs : B.size ≤ 7000 := by
    rw [hB, sz_list]
    have := (b64_length t.data.toList).2
    rw [size_list] at this
    omega
  have HE := hide (show ∀ w, Ready w → Calls Tryd.prog 19 #[.string t] w fun e w' => e = .returned (.string E) ∧ Below w.heap.size w w' from fun w hl => by
    rw [hE]
    exact escape_any t w (by omega) hl.1)
  have HU := hide (show ∀ w, Ready w → Calls Tryd.prog 17 #[.string E] w fun e w' => e = .returned (.tuple #[.string t, .int .i64 0]) ∧ Below w.heap.size w w' from fun w hl =>
    unescape_is E t.data.toList w (by omega) hl (by rw [hE]; exact unesc_esc _))
  have HB := hide (show ∀ w, Calls Tryd.prog 23 #[.string t] w fun e w' => e = .returned (.string B) ∧ Below w.heap.size w w' from fun w => by
    rw [hB]
    exact base64_any t w (by omega))
  have HV := hide (show ∀ w, Calls Tryd.prog 21 #[.string B] w fun e w' => e = .returned (.tuple #[.string t, .int .i64 0]) ∧ Below w.heap.size w w' from fun w =>
    unbase64_is B t.data.toList w (by omega) (by rw [hB]))
  clear hE hB hEs hBs
  go_wp2_with fail
  refine (HE.out _ H.out).mono ?_
  rintro e w1 ⟨rfl, hb1⟩
  go_wp2_with fail
  refine (HU.out _ (H.out.below hb1)).mono ?_
  rintro e w2 ⟨rfl, hb2⟩
  have hb3 := hb1.trans (hb2.mono hb1.size)
  clear hb1 hb2
  go_wp2_with fail
  refine (HB.out _).mono ?_
  rintro e w4 ⟨rfl, hb4⟩
  have hb5 := hb3.trans (hb4.mono hb3.size)
  clear hb3 hb4
  go_wp2_with fail
  refine (HV.out _).mono ?_
  rintro e w6 ⟨rfl, hb6⟩
  have hb7 := hb5.trans (hb6.mono hb5.size)
  clear hb5 hb6
  go_wp2_with fail
  refine (live_any _ (H.out.below hb7)).mono ?_
  rintro e w8 ⟨rfl, hb8⟩
  have hb9 := hb7.trans (hb8.mono hb7.size)
  clear hb7 hb8
  go_wp2_with fail
  go_ret
  exact ⟨rfl, hb9⟩
end Go.Proofs.YtnlmohegkmegcabDoor
