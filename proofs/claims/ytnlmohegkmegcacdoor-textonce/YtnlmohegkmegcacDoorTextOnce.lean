/- TextOnce answers true at every text. -/
import Derived.Test.YtnlmohegkmegcacDoorFacts64
import Derived.Test.YtnlmohegkmegcacDoorB64w
namespace Go.Proofs.YtnlmohegkmegcacDoor
open Go.RowKit

theorem textOnce_any (s : ByteArray) (w : World) (hR : Ready w) : Calls Tryd.prog 3 #[.string s] w fun e w' => e = .returned (.bool true) ∧ Below w.heap.size w w' := by
  have H := hide hR
  clear hR
  go_enter Tryd.func3, Tryd.ntmps3
  go_wp2_with fail
  refine (short_any s _).mono ?_
  rintro e w0 ⟨⟨t, ht, rfl⟩, rfl⟩
  rename_i w
  go_wp2_with fail
  refine (unbase64_any t _ (by omega)).mono ?_
  rintro e w1 ⟨hu, hb1⟩
  rcases hu with ⟨l, hl, rfl⟩ | ⟨_, rfl⟩
  · have hlen := congrArg List.length hl
    have hfold := fold_vals l []
    have h4 := (b64_length l).1
    have hll : l.length ≤ 3000 := by
      have h5 := b64_len_ge l
      rw [size_list] at hlen
      omega
    have hm : ((t.size : Int) % 4 == 0) = true := by
      rw [beq_iff_eq]
      rw [size_list] at hlen
      omega
    have HB := hide (show ∀ w, Calls Tryd.prog 10 #[.string ⟨l.toArray⟩] w fun e w' => e = .returned (.string t) ∧ Below w.heap.size w w' from fun w => by
      have := base64_any ⟨l.toArray⟩ w (by rw [sz_list]; omega)
      rw [to_list, hl, of_list] at this
      exact this)
    obtain ⟨L, hL⟩ : ∃ L : ByteArray, L = ⟨l.toArray⟩ := ⟨_, rfl⟩
    rw [← hL] at HB
    rw [← hL]
    clear hL hl hlen hfold h4 hll
    go_wp2_with fail
    refine (live_any _ (H.out.below hb1)).mono ?_
    rintro e w2 ⟨rfl, hb2⟩
    have hb3 := hb1.trans (hb2.mono hb1.size)
    clear hb1 hb2
    go_wp2_with fail
    refine (HB.out _).mono ?_
    rintro e w4 ⟨rfl, hb4⟩
    have hb5 := hb3.trans (hb4.mono hb3.size)
    clear hb3 hb4
    go_wp2_with fail
    go_ret
    exact ⟨rfl, hb5⟩
  · go_wp2_with fail
    refine (live_any _ (H.out.below hb1)).mono ?_
    rintro e w2 ⟨rfl, hb2⟩
    have hb3 := hb1.trans (hb2.mono hb1.size)
    clear hb1 hb2
    go_wp2_with fail
    go_ret
    exact ⟨rfl, hb3⟩
end Go.Proofs.YtnlmohegkmegcacDoor
