/- AckFew. -/
import Derived.Test.YtllpblnbdocfjabA6
namespace Go.Proofs.Ytllpblnbdocfjab
open Go.RowKit

set_option maxRecDepth 100000 in
set_option maxHeartbeats 4000000 in
theorem ackFew_any (ao : Option Addr) (cap : Nat) (ds : List Dd) (s : ByteArray) (w : World) (hm : DdMem w.heap.size w ao ds) :
    Calls Try.prog 8 #[.slice ao ds.length cap, .string s] w fun e w' => e = .returned (.bool true) ∧ Below w.heap.size w w' := by
  have H0 := hide (play_any ao cap ds w hm)
  have hall := playQ_ok (ds := ds) q0_ok (fun k x hk => (hm.2 k x hk).1) (min ds.length 80)
  obtain ⟨D, hD⟩ : ∃ D, playQ q0 ds (min ds.length 80) = D := ⟨_, rfl⟩
  rw [hD] at H0 hall
  obtain ⟨n, hn⟩ : ∃ n, D.l.length = n := ⟨_, rfl⟩
  have hfew := hall.few
  rw [hn] at hfew
  clear hm hD
  by_cases h16 : n = 16
  · have hge : 16 ≤ D.l.length := by omega
    have e0 : sendE D = 4 := by unfold sendE; rw [if_pos hge]
    have e1 : sendQ D s = D := by unfold sendQ; rw [if_pos hge]
    subst h16
    have HO := hide (And.intro hall (And.intro hn (And.intro e0 e1)))
    clear hall hn e0 e1 hge
    go_enter Try.func8, Try.ntmps8
    go_wp2_with (first
      | (go_at_call 23; refine H0.out.mono ?_; rintro e w1 ⟨p, q, v, u, rfl, t1, b1⟩; have s1 := b1.size; have H1 := hide (And.intro t1 b1); clear t1 b1)
      | (go_at_call 24; refine (live_any w1).mono ?_; rintro e w2 ⟨rfl, b2⟩; have s2 := b2.size; have H2 := hide (And.intro (H1.out.1.below b2).dev (H1.out.2.trans (b2.mono s1))); clear b2; refine stopHere ?_))
    unfold Hid
    go_wp2_with (first
      | (go_at_call 29; refine (waiting_any w.heap.size p D v w2 H2.out.1 HO.out.1).mono ?_; rintro e w3 ⟨r3, rfl, y3, b3⟩; rw [HO.out.2.1] at y3; obtain ⟨g3, k3, rfl⟩ := own_shape y3; have s3 := b3.size; have H3 := hide (And.intro (H2.out.1.below b3) (H2.out.2.trans (b3.mono (by omega)))); clear y3 b3; refine stopHere ?_))
    unfold Hid
    go_wp2_with (first
      | (go_at_call 31; refine (sent_any w.heap.size p D v w3 H3.out.1 HO.out.1).mono ?_; rintro e w4 ⟨rfl, b4⟩; have s4 := b4.size; have H4 := hide (And.intro (H3.out.1.below b4) (H3.out.2.trans (b4.mono (by omega)))); clear b4; refine stopHere ?_))
    unfold Hid
    go_wp2_with (first
      | (go_at_call 27; refine (send_any w.heap.size p D v s w4 H4.out.1 HO.out.1 (by omega)).mono ?_; rintro e w5 ⟨rfl, v5, t5⟩; rw [HO.out.2.2.1]; rw [HO.out.2.2.2] at t5; have s5 := t5.fit; have H5 := hide (And.intro t5.1 (H4.out.2.trans t5.2.1.below)); clear t5; refine stopHere ?_))
    unfold Hid
    go_wp2_with (first
      | (go_at_call 31; refine (sent_any w.heap.size p D v5 w5 H5.out.1 HO.out.1).mono ?_; rintro e w6 ⟨rfl, b6⟩; have s6 := b6.size; have H6 := hide (And.intro (H5.out.1.below b6) (H5.out.2.trans (b6.mono (by omega)))); clear b6; refine stopHere ?_))
    unfold Hid
    go_wp2_with (first
      | (go_at_call 29; refine (waiting_any w.heap.size p D v5 w6 H6.out.1 HO.out.1).mono ?_; rintro e w7 ⟨r7, rfl, y7, b7⟩; rw [HO.out.2.1] at y7; obtain ⟨g7, k7, rfl⟩ := own_shape y7; have H7 := hide b7; clear y7 b7))
    go_ret
    exact ⟨rfl, H6.out.2.trans (H7.out.mono (by omega))⟩
  · have hge : ¬ 16 ≤ D.l.length := by omega
    have e0 : sendE D = 0 := by unfold sendE; rw [if_neg hge]
    obtain ⟨E, hE⟩ : ∃ E, sendQ D s = E := ⟨_, rfl⟩
    have hok : QOk E := hE ▸ sendQ_ok hall s
    have hEv : E = ⟨D.l ++ [s], D.a, D.g⟩ := by rw [← hE]; unfold sendQ; rw [if_neg hge]
    have hEl : E.l.length = n + 1 := by rw [hEv]; simp [hn]
    have hEn : E.l[n]? = some s := by rw [hEv, ← hn]; simp
    obtain ⟨m, hm⟩ : ∃ m, sentQ D = m := ⟨_, rfl⟩
    have hEs : ((sentQ E : Nat) : Int) = ((m : Int) + 1) % 4294967296 := by
      rw [← hm]
      unfold sentQ
      rw [hEl, hEv, hn]
      simp only
      omega
    have hni : ((n : Int) == 16) = false := by rw [beq_eq_false_iff_ne]; omega
    have hnl : (n : Int) < 16 := by omega
    obtain ⟨n1, hn1⟩ : ∃ n1, n + 1 = n1 := ⟨_, rfl⟩
    rw [hn1] at hEl
    have hnn : (n : Int) < n1 := by omega
    have zz : (s.toList == s.toList) = true := by simp
    have HO := hide (And.intro hall (And.intro hn (And.intro e0 (And.intro hE (And.intro hok (And.intro hEl (And.intro hEn (And.intro hm hEs))))))))
    clear hall hn e0 hge hE hok hEv hEl hEn hm hEs hn1
    go_enter Try.func8, Try.ntmps8
    go_wp2_with (first
      | (go_at_call 23; refine H0.out.mono ?_; rintro e w1 ⟨p, q, v, u, rfl, t1, b1⟩; have s1 := b1.size; have H1 := hide (And.intro t1 b1); clear t1 b1)
      | (go_at_call 24; refine (live_any w1).mono ?_; rintro e w2 ⟨rfl, b2⟩; have s2 := b2.size; have H2 := hide (And.intro (H1.out.1.below b2).dev (H1.out.2.trans (b2.mono s1))); clear b2; refine stopHere ?_))
    unfold Hid
    go_wp2_with (first
      | (go_at_call 29; refine (waiting_any w.heap.size p D v w2 H2.out.1 HO.out.1).mono ?_; rintro e w3 ⟨r3, rfl, y3, b3⟩; rw [HO.out.2.1] at y3; obtain ⟨g3, k3, rfl⟩ := own_shape y3; have s3 := b3.size; have H3 := hide (And.intro (H2.out.1.below b3) (H2.out.2.trans (b3.mono (by omega)))); clear y3 b3; refine stopHere ?_))
    unfold Hid
    go_wp2_with (first
      | (go_at_call 31; refine (sent_any w.heap.size p D v w3 H3.out.1 HO.out.1).mono ?_; rintro e w4 ⟨rfl, b4⟩; rw [HO.out.2.2.2.2.2.2.2.1]; have s4 := b4.size; have H4 := hide (And.intro (H3.out.1.below b4) (H3.out.2.trans (b4.mono (by omega)))); clear b4; refine stopHere ?_))
    unfold Hid
    go_wp2_with (first
      | (go_at_call 27; refine (send_any w.heap.size p D v s w4 H4.out.1 HO.out.1 (by omega)).mono ?_; rintro e w5 ⟨rfl, v5, t5⟩; rw [HO.out.2.2.1]; rw [HO.out.2.2.2.1] at t5; have s5 := t5.fit; have H5 := hide (And.intro t5.1 (H4.out.2.trans t5.2.1.below)); clear t5; refine stopHere ?_))
    unfold Hid
    go_wp2_with (first
      | (go_at_call 31; refine (sent_any w.heap.size p E v5 w5 H5.out.1 HO.out.2.2.2.2.1).mono ?_; rintro e w6 ⟨rfl, b6⟩; rw [HO.out.2.2.2.2.2.2.2.2]; have s6 := b6.size; have H6 := hide (And.intro (H5.out.1.below b6) (H5.out.2.trans (b6.mono (by omega)))); clear b6; refine stopHere ?_))
    unfold Hid
    go_wp2_with (first
      | (go_at_call 29; refine (waiting_any w.heap.size p E v5 w6 H6.out.1 HO.out.2.2.2.2.1).mono ?_; rintro e w7 ⟨r7, rfl, y7, b7⟩; obtain ⟨ao7, cap7, rfl, hx⟩ := own_lst (M := fun _ => False) y7 (fun _ _ x => x); obtain ⟨b, off, rfl, _, hb, c0⟩ := hx n s HO.out.2.2.2.2.2.2.1; rw [HO.out.2.2.2.2.2.1]; have H7 := hide b7; clear y7 b7 hx))
    go_ret
    exact ⟨rfl, H6.out.2.trans (H7.out.mono (by omega))⟩
end Go.Proofs.Ytllpblnbdocfjab
