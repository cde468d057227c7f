/- XmlDeep: as deep as may be, and no deeper: whatever the number. -/
import Derived.Test.YtaglbikjnaahnabDoorDeepM
namespace Go.Proofs.YtaglbikjnaahnabDoor
open Go.RowKit

set_option maxRecDepth 100000 in
set_option maxHeartbeats 4000000 in
theorem xmlDeep_any (n : Int) (hn0 : 0 ≤ n) (hn1 : n ≤ 255) (w : World) (hE : Env w) (h4 : 4 ≤ w.heap.size) :
    Calls Tryd.prog 6 #[.int .u8 n] w fun e w' => e = .returned (.bool true) ∧ Below w.heap.size w w' := by
  have HE := hide hE
  clear hE
  go_enter Tryd.func6, Tryd.ntmps6
  go_wp2_with fail
  refine (new_any w).mono ?_
  rintro e w1 ⟨rfl, hP1, hz1, hb1⟩
  have H1 := hide (And.intro hP1 (And.intro hb1 (HE.out.below hb1 h4)))
  clear hP1 hz1 hb1
  go_wp2_with fail
  obtain ⟨m, hm⟩ : ∃ m : Nat, n % 12 = m := ⟨(n % 12).toNat, by omega⟩
  have hm12 : m < 12 := by omega
  rw [hm]
  clear hm hn0 hn1
  go_loopw [5] (fun i wr => ∃ (k : Nat) (st : PS) (vw vo : Value), k ≤ m ∧ i = .int .i64 k ∧ Deep k st ∧ IsP w.heap.size w.heap.size st vw vo wr ∧ Below w.heap.size w wr ∧ Env wr) (fun i _ => m - (intOf i).toNat)
  case atStart => exact ⟨0, st0, _, _, Nat.zero_le _, rfl, .inl ⟨Nat.zero_le _, rfl⟩, H1.out.1, H1.out.2.1, H1.out.2.2⟩
  case round =>
    obtain ⟨k, st, vw, vo, hk, rfl, hD, hP, hbw, hEv⟩ := hrel
    have hsw := hbw.size
    have hpl := hP.lt
    by_cases hlt : (k : Int) < m
    · obtain ⟨W2, hW2⟩ : ∃ W2, wr.alloc (.cells #[.int .u8 60, .int .u8 97, .int .u8 62] 5 (3, 4)) = W2 := ⟨_, rfl⟩
      have f2 : W2.heap[wr.heap.size]? = some (.cells #[.int .u8 60, .int .u8 97, .int .u8 62] 5 (3, 4)) := by rw [← hW2]; exact World.alloc_heap_new wr _
      have hb2 : Below wr.heap.size wr W2 := by rw [← hW2]; exact (Below.refl _ wr).alloc (Nat.le_refl _) _
      have hP2 := hP.below hb2
      have hB2 : Bytes W2 w.heap.size vw vo (some ⟨wr.heap.size, 0, none⟩) [60, 97, 62] := bytes_block hP2 f2 (fun e => by have := own_lt hP.2.2.1 _ e.symm; omega) (fun j c hj => by
        match j, hj with
        | 0, hj => cases hj; rfl
        | 1, hj => cases hj; rfl
        | 2, hj => cases hj; rfl
        | n + 3, hj => simp at hj)
      have hE2 := hEv.below hb2 (by omega)
      have hfe := Feed_any w.heap.size w.heap.size st _ _ _ 3 _ W2 hP2 hD.inv hE2 h4 h4 hB2 (by simp)
      have cv2 : (convert 22 22 (.slice (some ⟨wr.heap.size, 0, none⟩) 3 3)).run Tryd.prog (wr.alloc (.cells #[.int .u8 60, .int .u8 97, .int .u8 62] 5)) = .ok (.slice (some ⟨wr.heap.size, 0, none⟩) 3 3) W2 := by rw [← hW2]; exact Lib.run_convert_bytes_const wr _ 5 _ 3 3 Tryd.underlying22 Tryd.underlying5
      have H2 := hide (And.intro hfe (And.intro hD (And.intro (hbw.trans (hb2.mono hsw)) (And.intro hE2 hP2))))
      clear hfe hD hb2 hP2 hB2 hE2 f2 hP hbw hEv hW2
      go_wp2_with fail
      refine H2.out.1.mono ?_
      rintro e w3 ⟨st3, v3, l3, vw3, vo3, rfl, q1, q2, q3, q4⟩
      obtain ⟨hD3, hlo, hhi⟩ := H2.out.2.1.next q4
      have hb3 := Run.under H2.out.2.2.2.2 q3
      obtain ⟨g3, k3, hv3⟩ := own_shape q2.1
      have hl3 := congrArg List.length q1
      rw [List.length_map] at hl3
      have hde := depth_any _ _ _ _ _ w3 q3.isP
      have H3 := hide (And.intro hD3 (And.intro q3.isP (And.intro (H2.out.2.2.1.trans hb3) (H2.out.2.2.2.1.below hb3 h4))))
      obtain ⟨br, hbr⟩ : ∃ br, st3.broken = br := ⟨_, rfl⟩
      rw [hbr] at hlo hhi ⊢
      clear hD3 hb3 q1 q2 q3 q4 hbr
      by_cases h8 : (k : Int) < 8
      · obtain ⟨h0, h1, h2⟩ := hlo (by omega)
        rw [h2] at hl3
        rw [hl3] at hv3
        rw [h1] at hde
        have HD := hide hde
        subst hv3
        subst h0
        clear hlo hhi hde h1 h2 hl3
        go_wp2_with fail
        refine HD.out.mono ?_
        rintro e w4 ⟨rfl, hw⟩
        subst hw
        go_wp2_with fail
        go_roundw
        case rel => exact ⟨k + 1, st3, vw3, vo3, by omega, by simp, H3.out.1, H3.out.2.1, H3.out.2.2.1, H3.out.2.2.2⟩
        case measure => simp [intOf]; omega
      · have h5 := hhi (by omega)
        subst h5
        subst hv3
        have h8' : (8 : Int) ≤ k := by omega
        clear hlo hhi hde hl3
        go_wp2_with fail
        go_roundw
        case rel => exact ⟨k + 1, st3, vw3, vo3, by omega, by simp, H3.out.1, H3.out.2.1, H3.out.2.2.1, H3.out.2.2.2⟩
        case measure => simp [intOf]; omega
    · obtain rfl : k = m := by omega
      have hbr : st.broken = if 8 < k then 5 else 0 := by
        rcases hD with ⟨h, rfl⟩ | ⟨h, h', _⟩
        · rw [if_neg (by omega)]
          exact (deep_wait k).2.2.2
        · rw [if_pos h]
          exact h'
      have H2 := hide (And.intro hbr (And.intro hP (And.intro hbw hEv)))
      clear hbr hP hbw hEv hD
      go_wp2_with fail
      refine (live_any wr H2.out.2.2.2 (by omega)).mono ?_
      rintro e w3 ⟨rfl, hb3⟩
      have hbk := broken_any _ _ _ _ _ w3 (H2.out.2.1.below hb3)
      rw [H2.out.1] at hbk
      have H3 := hide (H2.out.2.2.1.trans (hb3.mono hsw))
      clear hb3
      by_cases h8 : 8 < (k : Int)
      · rw [if_pos (by omega)] at hbk
        have HK := hide hbk
        clear hbk
        go_wp2_with fail
        refine HK.out.mono ?_
        rintro e w4 ⟨rfl, hw⟩
        subst hw
        go_wp2_with fail
        go_ret
        exact ⟨rfl, H3.out⟩
      · rw [if_neg (by omega)] at hbk
        have HK := hide hbk
        clear hbk
        go_wp2_with fail
        refine HK.out.mono ?_
        rintro e w4 ⟨rfl, hw⟩
        subst hw
        go_wp2_with fail
        go_ret
        refine ⟨?_, H3.out⟩
        show Ending.returned (.bool (!decide (8 < (k : Int)))) = _
        rw [decide_eq_false (Int.not_lt.2 h8)]
        rfl
end Go.Proofs.YtaglbikjnaahnabDoor
