/- SlotsNone. -/
import Derived.Test.YtfknjmfkkaoggaaSlArg0
namespace Go.Proofs.Ytfknjmfkkaoggaa
open Go.RowKit Go.Shelf

set_option maxRecDepth 100000 in
set_option maxHeartbeats 4000000 in
theorem slotsNone_any (x : Sd) (n : Nat) (hn : n < 256) (w : World) :
    Calls Try.prog 10 #[.agg (sdC x), .int .u8 n] w fun e w' => e = .returned (.bool true) ∧ Below w.heap.size w w' := by
  obtain ⟨W, hW, f1, z1, hB1⟩ := boxedS w x
  obtain ⟨k0, k1, k2, k3⟩ := cellsS f1
  have HH := hide (And.intro f1 hB1)
  clear f1 hB1
  go_enter Try.func10, Try.ntmps10
  unfold sdC at hW ⊢
  go_wp2_with (go_at_call 15; refine (live_any W).mono ?_; rintro e w3 ⟨rfl, b3⟩; have s3 := b3.size; have B3 := hide b3; clear b3; refine stopHere ?_)
  unfold Hid
  have g3 := (B3.out.block _ (hp_lt HH.out.1)).trans HH.out.1
  obtain ⟨j0, j1, j2, j3⟩ := cellsS g3
  have H3 := hide (And.intro g3 (HH.out.2.trans (B3.out.mono (by omega))))
  clear g3 k0 k1 k2 k3
  go_wp2_with (go_at_call 22; refine (save_nil _ _ _ w3).mono ?_; rintro e w4 ⟨rfl, b4⟩; have s4 := b4.size; have B4 := hide b4; clear b4; refine stopHere ?_)
  unfold Hid
  have g4 := (B4.out.block _ (hp_lt H3.out.1)).trans H3.out.1
  obtain ⟨i0, i1, i2, i3⟩ := cellsS g4
  have H4 := hide (And.intro g4 (H3.out.2.trans (B4.out.mono (by omega))))
  clear g4 j0 j1 j2 j3
  go_wp2_with (go_at_call 24; refine (torn_nil _ _ _ _ _ _ _ w4).mono ?_; rintro e w5 ⟨rfl, b5⟩; have s5 := b5.size; have H5 := hide (H4.out.2.trans (b5.mono (by omega))); clear b5; refine stopHere ?_)
  unfold Hid
  clear i0 i1 i2 i3
  go_wp2_with (first
    | (go_at_call 20; refine (load_nil w5).mono ?_; rintro e w' ⟨rfl, hw'⟩; rw [hw']; clear hw')
    | (go_at_call 21; refine (turn_nil w5).mono ?_; rintro e w' ⟨rfl, hw'⟩; rw [hw']; clear hw')
    | (go_at_call 23; refine (room_nil w5).mono ?_; rintro e w' ⟨rfl, hw'⟩; rw [hw']; clear hw')
    | (go_at_call 27; refine (device_nil w5).mono ?_; rintro e w' ⟨rfl, hw'⟩; rw [hw']; clear hw')
    | (go_at_call 25; refine (forkS_nil w5).mono ?_; rintro e w' ⟨rfl, hw'⟩; rw [hw']; clear hw')
    | (go_at_call 26; refine (open_nil w5).mono ?_; rintro e w' ⟨rfl, hw'⟩; rw [hw']; clear hw'; refine stopHere ?_))
  unfold Hid
  obtain ⟨r, hr⟩ : ∃ r : Nat, n % 10 = r := ⟨_, rfl⟩
  have hr1 : Int.tmod (n : Int) 10 = r := by rw [Int.tmod_eq_emod_of_nonneg (by omega)]; omega
  have hr9 : r < 10 := by omega
  clear hr
  by_cases h0 : r < 1
  · have hd : (r : Int) < 4 := by omega
    go_wp2_with (first
      | (go_at_call 29; refine (new_bad r w5 (.inl (by omega))).mono ?_; rintro e w' ⟨rfl, hw'⟩; rw [hw']; clear hw')
      | (go_at_call 26; refine (open_nil w5).mono ?_; rintro e w' ⟨rfl, hw'⟩; rw [hw']; clear hw'))
    go_ret
    exact ⟨rfl, H5.out⟩
  · have HN := hide (new_any w.heap.size r w5 (by omega) (by omega) (by omega))
    have hlr : (dvNew r).las.length = r := List.length_replicate
    by_cases h4 : r < 4
    · have hd : (r : Int) < 4 := by omega
      go_wp2_with (first
        | (go_at_call 29; refine HN.out.mono ?_; rintro e w6 ⟨p, vl, rfl, d6, hp6, b6⟩; have s6 := b6.size; have H6 := hide (And.intro d6 (H5.out.trans (b6.mono (by omega)))); clear d6 b6)
        | (go_at_call 26; refine (open_small w.heap.size p (dvNew r) vl _ w6 H6.out.1 (by rw [hlr]; exact h4)).mono ?_; rintro e w' ⟨rfl, hw'⟩; rw [hw']; clear hw'))
      go_ret
      exact ⟨rfl, H6.out.2⟩
    · have hd : ¬ (r : Int) < 4 := by omega
      go_wp2_with (first
        | (go_at_call 29; refine HN.out.mono ?_; rintro e w6 ⟨p, vl, rfl, d6, hp6, b6⟩; have s6 := b6.size; have H6 := hide (And.intro d6 (H5.out.trans (b6.mono (by omega)))); clear d6 b6)
        | (go_at_call 26; refine (open_any w.heap.size p (dvNew r) vl _ w6 H6.out.1 (inv_new (by omega) (by omega)).2.1 (by omega) (by rw [hlr]; omega)).mono ?_; rintro e w7 ⟨q7, p7, vl7, vw7, rfl, d7, hq7, b7, f7⟩; have H7 := hide (H6.out.2.trans (b7.mono (by omega))); clear d7 hq7 b7 f7))
      go_ret
      exact ⟨by rw [show decide ((r : Int) < 4) = false from decide_eq_false (by omega)]; rfl, H7.out⟩
end Go.Proofs.Ytfknjmfkkaoggaa
