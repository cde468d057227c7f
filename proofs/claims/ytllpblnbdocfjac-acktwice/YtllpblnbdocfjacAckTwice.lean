/- AckTwice. -/
import Derived.Test.YtllpblnbdocfjacA6
namespace Go.Proofs.Ytllpblnbdocfjac
open Go.RowKit

set_option maxRecDepth 100000 in
set_option maxHeartbeats 2000000 in
theorem ackTwice_any (ao : Option Addr) (cap : Nat) (ds : List Dd) (h : Nat) (hh : h < 4294967296) (w : World) (hm : DdMem w.heap.size w ao ds) :
    Calls Try.prog 4 #[.slice ao ds.length cap, .int .u32 h] w fun e w' => e = .returned (.bool true) ∧ Below w.heap.size w w' := by
  have H0 := hide (play_any ao cap ds w hm)
  have hall := playQ_ok (ds := ds) q0_ok (fun k x hk => (hm.2 k x hk).1) (min ds.length 80)
  obtain ⟨D, hD⟩ : ∃ D, playQ q0 ds (min ds.length 80) = D := ⟨_, rfl⟩
  rw [hD] at H0 hall
  obtain ⟨E, hE⟩ : ∃ E, ackQ D h = E := ⟨_, rfl⟩
  have HO := hide (And.intro hall (hE ▸ ackQ_ok hall hh : QOk E))
  clear hm hD hall
  by_cases hle : sinceQ D h ≤ D.l.length
  · have e0 : ackE D h = 0 := by unfold ackE; rw [if_pos hle]
    have el : resL D h = E.l := by rw [← hE]; unfold resL ackQ; rw [if_pos hle, if_pos hle]
    have ea : E.a = h := by rw [← hE]; unfold ackQ; rw [if_pos hle]
    have hs0 : sinceQ E h = 0 := by unfold sinceQ; rw [ea]; simp
    have e1 : ackE E h = 0 := by unfold ackE; rw [hs0]; simp
    have e2 : ackQ E h = E := by unfold ackQ; rw [hs0]; simp [← ea]
    have e3 : resL E h = E.l := by unfold resL; rw [hs0]; simp
    have e4 : ackL E h = [] := by unfold ackL; rw [hs0]; simp
    have HE := hide (And.intro hE (And.intro e0 (And.intro el (And.intro e1 (And.intro e2 (And.intro e3 e4))))))
    clear hE e0 el ea hs0 e1 e2 e3 e4
    go_enter Try.func4, Try.ntmps4
    go_wp2_with (first
      | (go_at_call 9; refine H0.out.mono ?_; rintro e w1 ⟨p, q, v, u, rfl, t1, b1⟩; have s1 := b1.size; have H1 := hide (And.intro t1 b1); clear t1 b1)
      | (go_at_call 10; refine (live_any w1).mono ?_; rintro e w2 ⟨rfl, b2⟩; have s2 := b2.size; have H2 := hide (And.intro (H1.out.1.below b2).dev (H1.out.2.trans (b2.mono s1))); clear b2; refine stopHere ?_))
    unfold Hid
    go_wp2_with (first
      | (go_at_call 15; refine (resume_any w.heap.size p D v h w2 H2.out.1 HO.out.1 (by omega) hh).mono ?_; rintro e w3 ⟨r3, v3, rfl, l3, t3⟩; rw [HE.out.2.1]; rw [HE.out.1] at t3; rw [HE.out.2.2.1] at l3; have s3 := t3.fit; have H3 := hide (And.intro l3 t3); clear l3 t3; refine stopHere ?_))
    unfold Hid
    go_wp2_with (first
      | (go_at_call 15; refine (resume_any w.heap.size p E v3 h w3 H3.out.2.1 HO.out.2 (by omega) hh).mono ?_; rintro e w4 ⟨r4, v4, rfl, l4, t4⟩; rw [HE.out.2.2.2.1]; rw [HE.out.2.2.2.2.1] at t4; rw [HE.out.2.2.2.2.2.1] at l4; have s4 := t4.fit; have H4 := hide (And.intro l4 t4); clear l4 t4; refine stopHere ?_))
    unfold Hid
    go_wp2_with (first
      | (go_at_call 14; refine (ack_any w.heap.size p E v4 h w4 H4.out.2.1 HO.out.2 (by omega) hh).mono ?_; rintro e w5 ⟨r5, v5, rfl, l5, t5⟩; rw [HE.out.2.2.2.1]; rw [HE.out.2.2.2.2.1] at t5; rw [HE.out.2.2.2.2.2.2] at l5; obtain ⟨g5, k5, rfl⟩ := lst_shape l5; have s5 := t5.fit; have H5 := hide t5; clear l5 t5; refine stopHere ?_))
    unfold Hid
    have la3 := H3.out.1.off (N := fun j => foot p v3 j ∨ w3.heap.size ≤ j) (fun j hj hn => by
      rcases hn with x | x
      · exact .inr x
      · omega)
    have la4 := la3.frees H4.out.2.2.1 (fun j hj => .inl (.inl hj))
    have la5 := la4.frees H5.out.2.1 (fun j hj => by
      rcases H4.out.2.2.2 j hj with x | x
      · exact .inl (.inl x)
      · exact .inl (.inr x))
    have lb5 := H4.out.1.frees H5.out.2.1 (fun j hj => .inl (.inr hj))
    have HL := hide (And.intro la5 lb5)
    clear la3 la4 la5 lb5
    have hfew := HO.out.2.few
    go_wp2_with (first
      | (go_at_call 17; refine (rsame_any _ _ r3 r4 E.l E.l w5 HL.out.1 HL.out.2 (by omega)).mono ?_; rintro e w6 ⟨rfl, b6⟩; have s6 := b6.size; have H6 := hide b6; clear b6; refine stopHere ?_))
    unfold Hid
    go_wp2_with (first
      | (go_at_call 11; refine (waiting_any w.heap.size p E v5 w6 (H5.out.1.below H6.out) HO.out.2).mono ?_; rintro e w7 ⟨r7, rfl, y7, b7⟩; have s7 := b7.size; have H7 := hide (And.intro y7 b7); clear y7 b7; refine stopHere ?_))
    unfold Hid
    go_wp2_with (first
      | (go_at_call 17; refine (rsame_any (fun _ => False) _ r7 r3 E.l E.l w7 (own_lst H7.out.1 (fun _ _ x => x)) ((HL.out.1.below H6.out).below H7.out.2) (by omega)).mono ?_; rintro e w8 ⟨rfl, b8⟩; have H8 := hide b8; clear b8))
    go_ret
    exact ⟨rfl, H2.out.2.trans (H3.out.2.2.1.below.trans (H4.out.2.2.1.below.trans (H5.out.2.1.below.trans ((H6.out.mono (by omega)).trans ((H7.out.2.mono (by omega)).trans (H8.out.mono (by omega)))))))⟩
  · have e0 : ackE D h = 2 := by unfold ackE; rw [if_neg hle]
    have el : resL D h = [] := by unfold resL; rw [if_neg hle]
    have eD : E = D := by rw [← hE]; unfold ackQ; rw [if_neg hle]
    subst eD
    have HE := hide (And.intro hE (And.intro e0 el))
    clear hE e0 el
    go_enter Try.func4, Try.ntmps4
    go_wp2_with (first
      | (go_at_call 9; refine H0.out.mono ?_; rintro e w1 ⟨p, q, v, u, rfl, t1, b1⟩; have s1 := b1.size; have H1 := hide (And.intro t1 b1); clear t1 b1)
      | (go_at_call 10; refine (live_any w1).mono ?_; rintro e w2 ⟨rfl, b2⟩; have s2 := b2.size; have H2 := hide (And.intro (H1.out.1.below b2).dev (H1.out.2.trans (b2.mono s1))); clear b2; refine stopHere ?_))
    unfold Hid
    go_wp2_with (first
      | (go_at_call 15; refine (resume_any w.heap.size p E v h w2 H2.out.1 HO.out.1 (by omega) hh).mono ?_; rintro e w3 ⟨r3, v3, rfl, l3, t3⟩; rw [HE.out.2.1]; rw [HE.out.1] at t3; rw [HE.out.2.2] at l3; obtain ⟨g3, k3, rfl⟩ := lst_shape l3; have s3 := t3.fit; have H3 := hide t3; clear l3 t3; refine stopHere ?_))
    unfold Hid
    go_wp2_with (first
      | (go_at_call 15; refine (resume_any w.heap.size p E v3 h w3 H3.out.1 HO.out.2 (by omega) hh).mono ?_; rintro e w4 ⟨r4, v4, rfl, l4, t4⟩; rw [HE.out.2.1]; rw [HE.out.1] at t4; rw [HE.out.2.2] at l4; obtain ⟨g4, k4, rfl⟩ := lst_shape l4; have s4 := t4.fit; have H4 := hide t4; clear l4 t4; refine stopHere ?_))
    unfold Hid
    go_wp2_with (first
      | (go_at_call 14; refine (ack_any w.heap.size p E v4 h w4 H4.out.1 HO.out.2 (by omega) hh).mono ?_; rintro e w5 ⟨r5, v5, rfl, l5, t5⟩; rw [HE.out.2.1]; rw [HE.out.1] at t5; have s5 := t5.fit; have H5 := hide t5; clear l5 t5))
    go_ret
    exact ⟨rfl, H2.out.2.trans (H3.out.2.1.below.trans (H4.out.2.1.below.trans H5.out.2.1.below))⟩
end Go.Proofs.Ytllpblnbdocfjac
