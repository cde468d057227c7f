/- AckRound. -/
import Derived.Test.YtllpblnbdocfjacA6
namespace Go.Proofs.Ytllpblnbdocfjac
open Go.RowKit

def rndQ (k : Nat) : Qs := ⟨[], k, k⟩
theorem rnd_ok {k : Nat} (hk : k ≤ 200) : QOk (rndQ k) := ⟨by simp [rndQ], by simp [rndQ]; omega, by simp [rndQ]; omega⟩
theorem rnd1_ok {k : Nat} (hk : k < 200) (s : ByteArray) : QOk ⟨[s], k, k⟩ ∧ QOk ⟨[s], k, k + 1⟩ := ⟨⟨by simp, by simp; omega, by simp; omega⟩, ⟨by simp, by simp; omega, by simp; omega⟩⟩
theorem rnd_send (k : Nat) (s : ByteArray) : sendQ (rndQ k) s = ⟨[s], k, k⟩ ∧ sendE (rndQ k) = 0 := ⟨rfl, rfl⟩
theorem rnd_got {k : Nat} (hk : k < 200) (s : ByteArray) : gotQ ⟨[s], k, k⟩ = ⟨[s], k, k + 1⟩ := by
  unfold gotQ
  simp
  omega
theorem rnd_ack {k : Nat} (_hk : k < 200) (s : ByteArray) : ackQ ⟨[s], k, k + 1⟩ (k + 1) = rndQ (k + 1) ∧ ackE ⟨[s], k, k + 1⟩ (k + 1) = 0 ∧ ackL ⟨[s], k, k + 1⟩ (k + 1) = [s] := by
  have hs : sinceQ ⟨[s], k, k + 1⟩ (k + 1) = 1 := by unfold sinceQ; simp; omega
  unfold ackQ ackE ackL
  rw [hs]
  simp [rndQ]
set_option maxRecDepth 100000 in
set_option maxHeartbeats 4000000 in
theorem ackRound_any (n : Nat) (hn : n < 65536) (s : ByteArray) (w : World) :
    Calls Try.prog 5 #[.int .u16 n, .string s] w fun e w' => e = .returned (.bool true) ∧ Below w.heap.size w w' := by
  have H0 := hide (new_any w.heap.size w (Nat.le_refl _))
  obtain ⟨m, hm⟩ : ∃ m, n % 200 = m := ⟨_, rfl⟩
  have hm2 : m < 200 := by omega
  have hmi : (n : Int).tmod 200 = m := by rw [Int.tmod_eq_emod_of_nonneg (by omega)]; omega
  have hmi2 : (n : Int) % 200 = m := by omega
  have hw0 : IntKind.i64.wrap (n : Int) = n := by rw [IntKind.wrap_i64]; omega
  have hw3 : IntKind.u32.wrap (n : Int) = n := by rw [IntKind.wrap_u32]; omega
  clear hm
  go_enter Try.func5, Try.ntmps5
  go_wp2_with (first
    | (go_at_call 18; refine H0.out.mono ?_; rintro e w1 ⟨p, v1, rfl, d1, b1, _⟩; have s1 := b1.size; have H1 := hide (And.intro d1 b1); clear d1 b1))
  go_loopw [6] (fun j wr => ∃ k : Nat, k ≤ m ∧ j = .int .i64 k ∧ (∃ v, IsP w.heap.size p (rndQ k) v wr) ∧ Below w.heap.size w wr) (fun j _ => m - (intOf j).toNat)
  case atStart => exact ⟨0, Nat.zero_le _, rfl, ⟨_, H1.out.1⟩, H1.out.2⟩
  case round =>
    obtain ⟨k, hk, rfl, ⟨v, hP⟩, hbw⟩ := hrel
    have hw1 : IntKind.i64.wrap ((k : Int) + 1) = k + 1 := by rw [IntKind.wrap_i64]; omega
    have hw2 : IntKind.u32.wrap (k : Int) = k := by rw [IntKind.wrap_u32]; omega
    have hw4 : ((k : Int) + 1) % 4294967296 = ((k + 1 : Nat) : Int) := by omega
    have hwz := hbw.size
    by_cases hlt : k < m
    · have hlti : (k : Int) < m := by omega
      obtain ⟨k1, hk1⟩ : ∃ k1, k + 1 = k1 := ⟨_, rfl⟩
      have hak := rnd_ack (k := k) (by omega) s
      have hgk := rnd_got (k := k) (by omega) s
      rw [hk1] at hak hgk
      have hqk := rnd1_ok (k := k) (by omega) s
      rw [hk1] at hqk
      have HP := hide (And.intro hP (And.intro hbw (And.intro hak (And.intro hgk (And.intro hqk hk1)))))
      have HK := hide (show ((k : Int) + 1) = (k1 : Int) by omega)
      clear hP hbw hak hgk hqk hk1 hw4
      go_wp2_with (first
        | (go_at_call 19; refine (send_any w.heap.size p (rndQ k) v s wr HP.out.1 (rnd_ok (by omega)) hwz).mono ?_; rintro e w2 ⟨rfl, v2, t2⟩; rw [(rnd_send k s).2]; rw [(rnd_send k s).1] at t2; have s2 := t2.fit; have H2 := hide t2; clear t2; refine stopHere ?_))
      unfold Hid
      go_wp2_with (first
        | (go_at_call 20; refine (got_any w.heap.size p ⟨[s], k, k⟩ v2 w2 H2.out.1 (by omega)).mono ?_; rintro e w3 ⟨rfl, t3⟩; rw [HP.out.2.2.2.1] at t3; have s3 := t3.fit; have H3 := hide t3; clear t3; refine stopHere ?_))
      unfold Hid
      go_wp2_with (first
        | (go_at_call 14; rw [HK.out]; refine (ack_any w.heap.size p ⟨[s], k, k1⟩ v2 k1 w3 H3.out.1 HP.out.2.2.2.2.1.2 (by omega) (by have := HP.out.2.2.2.2.2; omega)).mono ?_; rintro e w4 ⟨r4, v4, rfl, l4, t4⟩; rw [HP.out.2.2.1.2.1]; rw [HP.out.2.2.1.1] at t4; rw [HP.out.2.2.1.2.2] at l4; have s4 := t4.fit; have H4 := hide (And.intro l4 t4); clear l4 t4; refine stopHere ?_))
      unfold Hid
      obtain ⟨ao, cap, rfl, hx⟩ := H4.out.1
      obtain ⟨b, off, rfl, _, hb, c0⟩ := hx 0 s rfl
      rw [Nat.add_zero] at c0
      clear hx
      have zz : (s.toList == s.toList) = true := by simp
      go_wp2_with fail
      go_roundw
      case rel => exact ⟨k1, by have := HP.out.2.2.2.2.2; omega, by rw [← HP.out.2.2.2.2.2]; simp, ⟨v4, H4.out.2.1⟩, HP.out.2.1.trans (H2.out.2.1.below.trans (H3.out.2.1.below.trans H4.out.2.2.1.below))⟩
      case measure => simp [intOf]; omega
    · have hke : k = m := by omega
      subst hke
      have hlti : ¬ ((k : Int) < k) := by omega
      have HP := hide (And.intro hP hbw)
      clear hP hbw
      go_wp2_with (first
        | (go_at_call 10; refine (live_any wr).mono ?_; rintro e w2 ⟨rfl, b2⟩; have s2 := b2.size; have H2 := hide (And.intro (HP.out.1.below b2) (HP.out.2.trans (b2.mono hwz))); clear b2; refine stopHere ?_))
      unfold Hid
      go_wp2_with (first
        | (go_at_call 12; refine (sent_any w.heap.size p (rndQ k) v w2 H2.out.1 (rnd_ok (by omega))).mono ?_; rintro e w3 ⟨rfl, b3⟩; rw [show sentQ (rndQ k) = k by (unfold sentQ; simp [rndQ]; omega)]; have s3 := b3.size; have H3 := hide (And.intro (H2.out.1.below b3) (H2.out.2.trans (b3.mono (by omega)))); clear b3; refine stopHere ?_))
      unfold Hid
      go_wp2_with (first
        | (go_at_call 21; refine (handled_any w.heap.size p (rndQ k) v w3 H3.out.1).mono ?_; rintro e w4 ⟨rfl, rfl⟩; rw [show (rndQ k).g = k from rfl]; refine stopHere ?_))
      unfold Hid
      go_wp2_with (first
        | (go_at_call 11; refine (waiting_any w.heap.size p (rndQ k) v _ H3.out.1 (rnd_ok (by omega))).mono ?_; rintro e w5 ⟨r5, rfl, y5, b5⟩; rw [show (rndQ k).l.length = 0 from rfl] at y5; obtain ⟨g5, k5, rfl⟩ := own_shape y5; have H5 := hide b5; clear y5 b5))
      go_ret
      exact ⟨rfl, H3.out.2.trans (H5.out.mono (by omega))⟩
end Go.Proofs.Ytllpblnbdocfjac
