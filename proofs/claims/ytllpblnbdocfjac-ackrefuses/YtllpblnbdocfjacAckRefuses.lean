/- AckRefuses. -/
import Derived.Test.YtllpblnbdocfjacA6
namespace Go.Proofs.Ytllpblnbdocfjac
open Go.RowKit

set_option maxRecDepth 100000 in
set_option maxHeartbeats 4000000 in
theorem ackRefuses_any (ao : Option Addr) (cap : Nat) (ds : List Dd) (h : Nat) (hh : h < 4294967296) (w : World) (hm : DdMem w.heap.size w ao ds) :
    Calls Try.prog 3 #[.slice ao ds.length cap, .int .u32 h] w fun e w' => e = .returned (.bool true) ∧ Below w.heap.size w w' := by
  have H0 := hide (play_any ao cap ds w hm)
  have hall := playQ_ok (ds := ds) q0_ok (fun k x hk => (hm.2 k x hk).1) (min ds.length 80)
  obtain ⟨D, hD⟩ : ∃ D, playQ q0 ds (min ds.length 80) = D := ⟨_, rfl⟩
  rw [hD] at H0 hall
  obtain ⟨E, hE⟩ : ∃ E, ackQ D h = E := ⟨_, rfl⟩
  have HO := hide (And.intro hall (hE ▸ ackQ_ok hall hh : QOk E))
  obtain ⟨N, hN⟩ : ∃ N, sinceQ D h = N := ⟨_, rfl⟩
  obtain ⟨n, hn⟩ : ∃ n, D.l.length = n := ⟨_, rfl⟩
  have hfew := hall.few
  rw [hn] at hfew
  have hn32 : N < 4294967296 := by rw [← hN]; exact Nat.mod_lt _ (by omega)
  have hlw : IntKind.u32.wrap (n : Int) = n := by rw [IntKind.wrap_u32]; omega
  have hs1 : ((sentQ D : Int) - n) % 4294967296 = D.a := by unfold sentQ; have := hall.a; rw [hn]; omega
  have hni : ((h : Int) - D.a) % 4294967296 = N := by rw [← hN]; unfold sinceQ; have := hall.a; omega
  clear hm hD hall
  by_cases hle : N ≤ n
  · have hgt : ¬ ((n : Int) < N) := by omega
    have hle' : sinceQ D h ≤ D.l.length := by rw [hN, hn]; exact hle
    have e0 : ackE D h = 0 := by unfold ackE; rw [if_pos hle']
    have el : resL D h = E.l := by rw [← hE]; unfold resL ackQ; rw [if_pos hle', if_pos hle']
    have ea : (ackL D h).length = N := by unfold ackL; rw [if_pos hle', hN]; simp; omega
    have eb : E.l.length = n - N := by rw [← hE]; unfold ackQ; rw [if_pos hle', hN]; simp; omega
    have hsub : ((n : Int) - N) % 4294967296 = ((n - N : Nat) : Int) := by omega
    have hw1 : IntKind.u32.wrap (N : Int) = N := by rw [IntKind.wrap_u32]; omega
    obtain ⟨m, hm⟩ : ∃ m, n - N = m := ⟨_, rfl⟩
    rw [hm] at eb hsub
    have hw2 : IntKind.u32.wrap (m : Int) = m := by rw [IntKind.wrap_u32]; omega
    have HE := hide (And.intro hE (And.intro e0 (And.intro el (And.intro ea eb))))
    have HN := hide hn
    clear hE e0 el ea eb hN hm hle' hn
    go_enter Try.func3, Try.ntmps3
    go_wp2_with (first
      | (go_at_call 9; refine H0.out.mono ?_; rintro e w1 ⟨p, q, v, u, rfl, t1, b1⟩; have s1 := b1.size; have H1 := hide (And.intro t1 b1); clear t1 b1)
      | (go_at_call 10; refine (live_any w1).mono ?_; rintro e w2 ⟨rfl, b2⟩; have s2 := b2.size; have H2 := hide (And.intro (H1.out.1.below b2).dev (H1.out.2.trans (b2.mono s1))); clear b2; refine stopHere ?_))
    unfold Hid
    go_wp2_with (first
      | (go_at_call 11; refine (waiting_any w.heap.size p D v w2 H2.out.1 HO.out.1).mono ?_; rintro e w3 ⟨r3, rfl, y3, b3⟩; rw [HN.out] at y3; obtain ⟨g3, k3, rfl⟩ := own_shape y3; have s3 := b3.size; have H3 := hide (And.intro (H2.out.1.below b3) (H2.out.2.trans (b3.mono (by omega)))); clear y3 b3; refine stopHere ?_))
    unfold Hid
    go_wp2_with (first
      | (go_at_call 12; refine (sent_any w.heap.size p D v w3 H3.out.1 HO.out.1).mono ?_; rintro e w4 ⟨rfl, b4⟩; have s4 := b4.size; have H4 := hide (And.intro (H3.out.1.below b4) (H3.out.2.trans (b4.mono (by omega)))); clear b4; refine stopHere ?_))
    unfold Hid
    go_wp2_with (first
      | (go_at_call 13; refine (fork_any w.heap.size p D v w4 H4.out.1 HO.out.1 (by omega)).mono ?_; rintro e w5 ⟨p', v', rfl, d5, b5, g5⟩; have s5 := b5.size; have H5 := hide (And.intro (H4.out.1.below b5) (And.intro d5 (And.intro g5 (H4.out.2.trans (b5.mono (by omega)))))); clear d5 b5 g5; refine stopHere ?_))
    unfold Hid
    have hap : ∀ j, foot p v j → ¬ foot p' v' j := fun j hj hk => by
      have h1 := (H4.out.1.lt hj).2
      have h2 := H5.out.2.2.1 j hk
      omega
    have HAp := hide hap
    clear hap
    go_wp2_with (first
      | (go_at_call 14; refine (ack_any w.heap.size p D v h w5 H5.out.1 HO.out.1 (by omega) hh).mono ?_; rintro e w6 ⟨r6, v6, rfl, l6, t6⟩; rw [HE.out.2.1]; rw [HE.out.1] at t6; obtain ⟨g6, k6, rfl⟩ := lst_shape l6; rw [HE.out.2.2.2.1]; have s6 := t6.fit; have H6 := hide (And.intro t6 (H5.out.2.1.apart t6.2.1 (fun j hj hk => HAp.out j hk hj))); clear l6 t6; refine stopHere ?_))
    unfold Hid
    go_wp2_with (first
      | (go_at_call 15; refine (resume_any w.heap.size p' D v' h w6 H6.out.2 HO.out.1 (by omega) hh).mono ?_; rintro e w7 ⟨r7, v7, rfl, l7, t7⟩; rw [HE.out.2.1]; rw [HE.out.1] at t7; rw [HE.out.2.2.1] at l7; have s7 := t7.fit; have H7 := hide (And.intro l7 t7); clear l7 t7; refine stopHere ?_))
    unfold Hid
    have hap2 : ∀ j, foot p v6 j → ¬ foot p' v' j := fun j hj hk => by
      rcases H6.out.1.2.2 j hj with x | x
      · exact HAp.out j x hk
      · have := (H5.out.2.1.lt hk).2
        omega
    have hq7 := H6.out.1.1.apart H7.out.2.2.1 hap2
    obtain ⟨g7, k7, er7⟩ := lst_shape H7.out.1
    rw [HE.out.2.2.2.2] at er7
    have HR := hide (And.intro hq7 (And.intro (H7.out.1.off (N := fun _ => False) (fun _ _ x => x.elim)) (And.intro H7.out.2.1 (H5.out.2.2.2.trans (H6.out.1.2.1.below.trans H7.out.2.2.1.below)))))
    clear hq7 hap2 H7
    subst er7
    have hEf := HO.out.2.few
    go_wp2_with (first
      | (go_at_call 11; refine (waiting_any w.heap.size p' E v7 w7 HR.out.2.2.1 HO.out.2).mono ?_; rintro e w8 ⟨r8, rfl, y8, b8⟩; have s8 := b8.size; have H8 := hide (And.intro y8 b8); clear y8 b8; refine stopHere ?_))
    unfold Hid
    go_wp2_with (first
      | (go_at_call 17; refine (rsame_any (fun _ => False) (fun _ => False) _ r8 E.l E.l w8 (HR.out.2.1.below H8.out.2) (own_lst H8.out.1 (fun _ _ x => x)) (by omega)).mono ?_; rintro e w9 ⟨rfl, b9⟩; have s9 := b9.size; have H9 := hide (H8.out.2.trans (b9.mono s8)); clear b9; refine stopHere ?_))
    unfold Hid
    go_wp2_with (first
      | (go_at_call 11; refine (waiting_any w.heap.size p E v6 w9 (HR.out.1.below H9.out) HO.out.2).mono ?_; rintro e w10 ⟨r10, rfl, y10, b10⟩; have s10 := b10.size; have H10 := hide (And.intro y10 (H9.out.trans (b10.mono (by omega)))); clear y10 b10; refine stopHere ?_))
    unfold Hid
    go_wp2_with (first
      | (go_at_call 17; refine (rsame_any (fun _ => False) (fun _ => False) r10 _ E.l E.l w10 (own_lst H10.out.1 (fun _ _ x => x)) (HR.out.2.1.below H10.out.2) (by omega)).mono ?_; rintro e w11 ⟨rfl, b11⟩; have H11 := hide b11; clear b11))
    go_ret
    exact ⟨rfl, HR.out.2.2.2.trans ((H10.out.2.mono (by omega)).trans (H11.out.mono (by omega)))⟩
  · have hgt : ((n : Int) < N) := by omega
    have hle' : ¬ sinceQ D h ≤ D.l.length := by rw [hN, hn]; exact hle
    have e0 : ackE D h = 2 := by unfold ackE; rw [if_neg hle']
    have el : resL D h = [] := by unfold resL; rw [if_neg hle']
    have ea : ackL D h = [] := by unfold ackL; rw [if_neg hle']
    have eD : E = D := by rw [← hE]; unfold ackQ; rw [if_neg hle']
    subst eD
    have HE := hide (And.intro hE (And.intro e0 (And.intro el ea)))
    have HN := hide hn
    clear hE e0 el ea hN hle' hn
    go_enter Try.func3, Try.ntmps3
    go_wp2_with (first
      | (go_at_call 9; refine H0.out.mono ?_; rintro e w1 ⟨p, q, v, u, rfl, t1, b1⟩; have s1 := b1.size; have H1 := hide (And.intro t1 b1); clear t1 b1)
      | (go_at_call 10; refine (live_any w1).mono ?_; rintro e w2 ⟨rfl, b2⟩; have s2 := b2.size; have H2 := hide (And.intro (H1.out.1.below b2) (H1.out.2.trans (b2.mono s1))); clear b2; refine stopHere ?_))
    unfold Hid
    go_wp2_with (first
      | (go_at_call 11; refine (waiting_any w.heap.size p E v w2 H2.out.1.dev HO.out.1).mono ?_; rintro e w3 ⟨r3, rfl, y3, b3⟩; rw [HN.out] at y3; obtain ⟨g3, k3, rfl⟩ := own_shape y3; have s3 := b3.size; have H3 := hide (And.intro (H2.out.1.below b3) (H2.out.2.trans (b3.mono (by omega)))); clear y3 b3; refine stopHere ?_))
    unfold Hid
    go_wp2_with (first
      | (go_at_call 12; refine (sent_any w.heap.size p E v w3 H3.out.1.dev HO.out.1).mono ?_; rintro e w4 ⟨rfl, b4⟩; have s4 := b4.size; have H4 := hide (And.intro (H3.out.1.below b4) (H3.out.2.trans (b4.mono (by omega)))); clear b4; refine stopHere ?_))
    unfold Hid
    go_wp2_with (first
      | (go_at_call 13; refine (fork_any w.heap.size p E v w4 H4.out.1.dev HO.out.1 (by omega)).mono ?_; rintro e w5 ⟨p', v', rfl, d5, b5, g5⟩; have s5 := b5.size; have H5 := hide (And.intro (H4.out.1.below b5) (And.intro d5 (And.intro g5 (H4.out.2.trans (b5.mono (by omega)))))); clear d5 b5 g5; refine stopHere ?_))
    unfold Hid
    have hap : (∀ j, foot p v j → ¬ foot p' v' j) ∧ ∀ j, foot q u j → ¬ foot p' v' j := ⟨fun j hj hk => by
      have h1 := (H4.out.1.dev.lt hj).2
      have h2 := H5.out.2.2.1 j hk
      omega, fun j hj hk => by
      have h1 := (H4.out.1.ref.lt hj).2
      have h2 := H5.out.2.2.1 j hk
      omega⟩
    have HAp := hide hap
    clear hap
    go_wp2_with (first
      | (go_at_call 14; refine (ack_any w.heap.size p E v h w5 H5.out.1.dev HO.out.1 (by omega) hh).mono ?_; rintro e w6 ⟨r6, v6, rfl, l6, t6⟩; rw [HE.out.2.1]; rw [HE.out.1] at t6; rw [HE.out.2.2.2] at l6; obtain ⟨g6, k6, rfl⟩ := lst_shape l6; have s6 := t6.fit; have H6 := hide (And.intro t6 (H5.out.2.1.apart t6.2.1 (fun j hj hk => HAp.out.1 j hk hj))); clear l6 t6; refine stopHere ?_))
    unfold Hid
    go_wp2_with (first
      | (go_at_call 15; refine (resume_any w.heap.size p' E v' h w6 H6.out.2 HO.out.1 (by omega) hh).mono ?_; rintro e w7 ⟨r7, v7, rfl, l7, t7⟩; rw [HE.out.2.1]; rw [HE.out.1] at t7; rw [HE.out.2.2.1] at l7; obtain ⟨g7, k7, rfl⟩ := lst_shape l7; have s7 := t7.fit; have H7 := hide t7; clear l7 t7; refine stopHere ?_))
    unfold Hid
    have hap2 : ∀ j, foot p v6 j → ¬ foot p' v' j := fun j hj hk => by
      rcases H6.out.1.2.2 j hj with x | x
      · exact HAp.out.1 j x hk
      · have := (H5.out.2.1.lt hk).2
        omega
    have hs6 := H5.out.1.step H6.out.1
    have t67 : Two w.heap.size p q E v6 u w7 := ⟨H6.out.1.1.apart H7.out.2.1 hap2, hs6.1.apart H7.out.2.1 HAp.out.2, hs6.2⟩
    have t77 : Two w.heap.size p' q E v7 u w7 := ⟨H7.out.1, t67.ref, fun j hj hk => by
      rcases H7.out.2.2 j hj with x | x
      · exact HAp.out.2 j hk x
      · have := (hs6.1.lt hk).2
        omega⟩
    have HR := hide (And.intro t67 (And.intro t77 (H5.out.2.2.2.trans (H6.out.1.2.1.below.trans H7.out.2.1.below))))
    clear hs6 t67 t77 hap2
    go_wp2_with (first
      | (go_at_call 16; refine (same_any w.heap.size p q E v6 u w7 HR.out.1 HO.out.1).mono ?_; rintro e w8 ⟨rfl, b8⟩; have s8 := b8.size; have H8 := hide b8; clear b8; refine stopHere ?_))
    unfold Hid
    go_wp2_with (first
      | (go_at_call 16; refine (same_any w.heap.size p' q E v7 u w8 (HR.out.2.1.below H8.out) HO.out.1).mono ?_; rintro e w9 ⟨rfl, b9⟩; have H9 := hide b9; clear b9))
    go_ret
    exact ⟨rfl, HR.out.2.2.trans ((H8.out.mono (by omega)).trans (H9.out.mono (by omega)))⟩
end Go.Proofs.Ytllpblnbdocfjac
