/- KvForks. -/
import Derived.Test.YtjdcgndcljmieaaR10
namespace Go.Proofs.Ytjdcgndcljmieaa
open Go.RowKit

theorem IsM.less {base base' p b : Nat} {L : List Pr} {w : World} (h : IsM base p b L w) (hb : base' ≤ base) : IsM base' p b L w := ⟨Nat.le_trans hb h.low, Nat.le_trans hb h.lowb, h.here, h.rise, h.held⟩
theorem IsR.less {base base' p : Nat} {v : Value} {L : List Pr} {w : World} (h : IsR base p v L w) (hb : base' ≤ base) : IsR base' p v L w := ⟨Nat.le_trans hb h.low, h.here, own_less h.row hb, h.rise, h.few⟩
def playF (L : List Pr) (ds : List Dk) (k : Nat) : List Pr := (ds.take k).foldl deedOf L
theorem playF_succ {L : List Pr} {ds : List Dk} {k : Nat} {x : Dk} (h : ds[k]? = some x) : playF L ds (k + 1) = deedOf (playF L ds k) x := by
  unfold playF
  rw [List.take_add_one, h]
  simp
set_option maxRecDepth 100000 in
set_option maxHeartbeats 4000000 in
theorem kvForks_any (ao : Option Addr) (cap : Nat) (ds : List Dk) (ao1 : Option Addr) (cap1 : Nat) (ms : List Dk) (w : World) (hm : DkMem w.heap.size w ao ds) (hm1 : DkMem w.heap.size w ao1 ms) :
    Calls Try.prog 7 #[.slice ao ds.length cap, .slice ao1 ms.length cap1] w fun e w' => e = .returned (.bool true) ∧ Below w.heap.size w w' := by
  have H0 := hide (play_any ao cap ds w hm)
  obtain ⟨L, hL⟩ : ∃ L, playM ds (min ds.length 60) = L := ⟨_, rfl⟩
  have hG := good_play ds (min ds.length 60)
  rw [hL] at H0 hG
  have HG := hide hG
  have hlen := hm1.1
  have HM := hide hm1
  clear hm hm1 hG hL
  obtain ⟨len1, hlen1⟩ : ∃ n, ms.length = n := ⟨_, rfl⟩
  have HLN := hide hlen1
  rw [hlen1] at hlen ⊢
  clear hlen1
  go_enter Try.func7, Try.ntmps7
  go_wp2_with (first
    | (go_at_call 9; refine H0.out.mono ?_; rintro e w1 ⟨p, bm, q, u, rfl, t1, b1⟩; have s1 := b1.size; have H1 := hide (And.intro t1 b1); clear t1 b1)
    | (go_at_call 10; refine (live_any w1).mono ?_; rintro e w2 ⟨rfl, b2⟩; have s2 := b2.size; have H2 := hide (And.intro (H1.out.1.below b2) (H1.out.2.trans (b2.mono s1))); clear b2)
    | (go_at_call 18; refine (fork_any w.heap.size p bm L w2 H2.out.1.dev).mono ?_; rintro e w3 ⟨p', b', rfl, d3, b3⟩; have s3 := b3.size; have H3 := hide (And.intro d3 b3); clear d3 b3)
    | (go_at_call 19; refine (rfork_any w.heap.size q u L w3 (H2.out.1.ref.below H3.out.2)).mono ?_; rintro e w4 ⟨q', u', rfl, d4, b4⟩; have s4 := b4.size; have H4 := hide (And.intro d4 b4); clear d4 b4))
  have hB4 : Below w2.heap.size w2 w4 := H3.out.2.trans (H4.out.2.mono s3)
  have hT4 : Two w2.heap.size p' b' q' (playF L ms 0) u' w4 := ⟨H3.out.1.below H4.out.2, H4.out.1.less s3, fun j hj hk => by
    have h1 := (H3.out.1.lt hj).2
    have h2 := (H4.out.1.lt hk).1
    omega⟩
  have H5 := hide (And.intro hT4 hB4)
  clear hT4 hB4
  go_loopw [10] (fun j wr => ∃ k : Nat, k ≤ min len1 20 ∧ j = .int .i64 k ∧ (∃ v, Two w2.heap.size p' b' q' (playF L ms k) v wr) ∧ Below w2.heap.size w2 wr) (fun j _ => min len1 20 - (intOf j).toNat)
  case atStart => exact ⟨0, Nat.zero_le _, rfl, ⟨_, H5.out.1⟩, H5.out.2⟩
  case round =>
    obtain ⟨k, hk, rfl, ⟨v, hT⟩, hbw⟩ := hrel
    have hw1 : IntKind.i64.wrap ((k : Int) + 1) = k + 1 := by rw [IntKind.wrap_i64]; omega
    by_cases hlt : k < min len1 20
    · have hl1 : k < len1 := by omega
      have hl2 : k < 20 := by omega
      obtain ⟨x, hx⟩ : ∃ x, ms[k]? = some x := ⟨ms[k]'(by have := HLN.out; omega), by simp⟩
      obtain ⟨b, off, rfl, hb0, c0, c1, c2⟩ := (HM.out.below (H2.out.2.trans (hbw.mono H2.out.2.size))).2 k x hx
      have hdo := do_any w2.heap.size p' b' q' (playF L ms k) v x wr hT hbw.size
      unfold dkC at hdo
      have HDo := hide hdo
      have hps := playF_succ (L := L) hx
      have HB := hide hbw
      clear hdo hT hbw
      go_wp2_with (go_at_call 20; refine HDo.out.mono ?_; rintro e w5 ⟨rfl, t5⟩; have T5 := hide t5; clear t5)
      obtain ⟨v', t5, f5, _⟩ := T5.out
      go_roundw
      case rel => exact ⟨k + 1, by omega, by simp, ⟨v', by rw [hps]; exact t5⟩, HB.out.trans f5.below⟩
      case measure => simp [intOf]; omega
    · have hke : k = min len1 20 := by omega
      have hG2 : Good (playF L ms k) := (good_fold (ms.take k) L HG.out H2.out.1.dev.rise).1
      have hTa : Two w.heap.size p bm q L u wr := H2.out.1.below hbw
      have hBa : Below w.heap.size w wr := H2.out.2.trans (hbw.mono H2.out.2.size)
      have HB := hide (And.intro hT (And.intro hTa (And.intro hBa (And.intro hG2 hbw.size))))
      clear hT hbw hG2 hTa hBa
      by_cases hl1 : k < len1
      · have hl2 : ¬ ((k : Int) < 20) := by omega
        go_wp2_with (first
          | (go_at_call 11; refine (same_any w.heap.size p bm q L u ⟨#[]⟩ wr HB.out.2.1 HG.out).mono ?_; rintro e w6 ⟨rfl, b6⟩; have H6 := hide b6; clear b6; refine stopHere ?_))
        unfold Hid
        go_wp2_with (first
          | (go_at_call 11; refine (same_any w2.heap.size p' b' q' _ v ⟨#[]⟩ w6 (HB.out.1.below H6.out) HB.out.2.2.2.1).mono ?_; rintro e w7 ⟨rfl, b7⟩; have H7 := hide b7; clear b7; refine stopHere ?_))
        unfold Hid
        go_wp2_with fail
        go_ret
        exact ⟨rfl, HB.out.2.2.1.trans ((H6.out.trans (H7.out.mono H6.out.size)).mono HB.out.2.2.1.size)⟩
      · have hl2 : ¬ ((k : Int) < len1) := by omega
        go_wp2_with (first
          | (go_at_call 11; refine (same_any w.heap.size p bm q L u ⟨#[]⟩ wr HB.out.2.1 HG.out).mono ?_; rintro e w6 ⟨rfl, b6⟩; have H6 := hide b6; clear b6; refine stopHere ?_))
        unfold Hid
        go_wp2_with (first
          | (go_at_call 11; refine (same_any w2.heap.size p' b' q' _ v ⟨#[]⟩ w6 (HB.out.1.below H6.out) HB.out.2.2.2.1).mono ?_; rintro e w7 ⟨rfl, b7⟩; have H7 := hide b7; clear b7; refine stopHere ?_))
        unfold Hid
        go_wp2_with fail
        go_ret
        exact ⟨rfl, HB.out.2.2.1.trans ((H6.out.trans (H7.out.mono H6.out.size)).mono HB.out.2.2.1.size)⟩
end Go.Proofs.Ytjdcgndcljmieaa
