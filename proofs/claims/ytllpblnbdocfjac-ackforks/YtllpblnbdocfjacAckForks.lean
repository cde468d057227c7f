/- AckForks. -/
import Derived.Test.YtllpblnbdocfjacA6
namespace Go.Proofs.Ytllpblnbdocfjac
open Go.RowKit

theorem Two.old {base p q n₁ : Nat} {Q : Qs} {v u : Value} {w w1 : World} {M : Blk} (h : Two base p q Q v u w) (hf : Frees base M w w1) (ho : ∀ j, foot2 p v q u j → j < n₁) (hM : ∀ j, M j → n₁ ≤ j) : Two base p q Q v u w1 :=
  ⟨h.dev.apart hf (fun j hj hm => by have := ho j (.inl hj); have := hM j hm; omega), h.ref.apart hf (fun j hj hm => by have := ho j (.inr hj); have := hM j hm; omega), h.apart⟩
set_option maxRecDepth 100000 in
set_option maxHeartbeats 2000000 in
theorem ackForks_any (ao : Option Addr) (cap : Nat) (ds : List Dd) (bo : Option Addr) (bc : Nat) (es : List Dd) (w : World) (hm : DdMem w.heap.size w ao ds) (hm2 : DdMem w.heap.size w bo es) :
    Calls Try.prog 6 #[.slice ao ds.length cap, .slice bo es.length bc] w fun e w' => e = .returned (.bool true) ∧ Below w.heap.size w w' := by
  have H0 := hide (play_any ao cap ds w hm)
  have hall := playQ_ok (ds := ds) q0_ok (fun k x hk => (hm.2 k x hk).1) (min ds.length 80)
  obtain ⟨D, hD⟩ : ∃ D, playQ q0 ds (min ds.length 80) = D := ⟨_, rfl⟩
  rw [hD] at H0 hall
  have HO := hide hall
  have HE := hide (playQ_ok (ds := es) hall (fun k x hk => (hm2.2 k x hk).1))
  have HM := hide hm2
  have hlen := hm2.1
  clear hm hall hm2 hD
  go_enter Try.func6, Try.ntmps6
  go_wp2_with (first
    | (go_at_call 9; refine H0.out.mono ?_; rintro e w1 ⟨p, q, v, u, rfl, t1, b1⟩; have s1 := b1.size; have H1 := hide (And.intro t1 b1); clear t1 b1)
    | (go_at_call 10; refine (live_any w1).mono ?_; rintro e w2 ⟨rfl, b2⟩; have s2 := b2.size; have H2 := hide (And.intro (H1.out.1.below b2) (H1.out.2.trans (b2.mono s1))); clear b2)
    | (go_at_call 13; refine (fork_any w.heap.size p D v w2 H2.out.1.dev HO.out (by omega)).mono ?_; rintro e w3 ⟨p', v', rfl, d3, b3, g3⟩; have s3 := b3.size; have H3 := hide (And.intro (H2.out.1.below b3) (And.intro d3 (And.intro (H2.out.2.trans (b3.mono (by omega))) g3))); clear d3 b3 g3)
    | (go_at_call 22; refine (rfork_any w.heap.size q D u w3 H3.out.1.ref HO.out (by omega)).mono ?_; rintro e w4 ⟨q', u', rfl, r4, b4, g4⟩; have s4 := b4.size; have H4 := hide (And.intro (H3.out.1.below b4) (And.intro (Two.mk (H3.out.2.1.below b4) r4 (fun j hj hk => by have := (H3.out.2.1.lt hj).2; have := g4 j hk; omega)) (And.intro (H3.out.2.2.1.trans (b4.mono (by omega))) g4))); clear r4 b4 g4))
  have hold : ∀ j, foot2 p v q u j → j < w2.heap.size := by
    rintro j (hj | hj)
    · exact (H2.out.1.dev.lt hj).2
    · exact (H2.out.1.ref.lt hj).2
  have hnew : ∀ j, foot2 p' v' q' u' j → w2.heap.size ≤ j := by
    rintro j (hj | hj)
    · exact H3.out.2.2.2 j hj
    · have := H4.out.2.2.2 j hj
      omega
  have HD := hide hold
  have HN := hide hnew
  clear hold hnew
  go_loopw [10] (fun j wr => ∃ k : Nat, k ≤ min es.length 20 ∧ j = .int .i64 k ∧ (∃ a c, Two w.heap.size p' q' (playQ D es k) a c wr ∧ ∀ j, foot2 p' a q' c j → w2.heap.size ≤ j) ∧ Two w.heap.size p q D v u wr ∧ Below w.heap.size w wr ∧ w2.heap.size ≤ wr.heap.size) (fun j _ => min es.length 20 - (intOf j).toNat)
  case atStart => exact ⟨0, Nat.zero_le _, rfl, ⟨_, _, H4.out.2.1, HN.out⟩, H4.out.1, H4.out.2.2.1, by omega⟩
  case round =>
    obtain ⟨k, hk, rfl, ⟨a, c, hT, hfo⟩, hT0, hbw, hsz⟩ := hrel
    have hw1 : IntKind.i64.wrap ((k : Int) + 1) = k + 1 := by rw [IntKind.wrap_i64]; omega
    have hok := HE.out k
    by_cases hlt : k < min es.length 20
    · have hl1 : k < es.length := by omega
      have hl2 : k < 20 := by omega
      obtain ⟨x, hx⟩ : ∃ x, es[k]? = some x := ⟨es[k], by simp [hl1]⟩
      obtain ⟨hxh, bb, off, rfl, hb0, c0, c1, c2, c3⟩ := (HM.out.below hbw).2 k x hx
      have hdo := do_any w.heap.size p' q' (playQ D es k) a c x wr hT hok hbw.size hxh
      unfold ddC at hdo
      have HDO := hide hdo
      have hps := playQ_succ (Q := D) hx
      have HB := hide (And.intro hbw (And.intro hT0 hfo))
      clear hdo hT hbw hT0 hfo
      go_wp2_with (go_at_call 23; refine HDO.out.mono ?_; rintro e' w5 ⟨rfl, t5⟩; have T5 := hide t5; clear t5)
      obtain ⟨a', c', t5, f5, g5⟩ := T5.out
      go_roundw
      case rel => exact ⟨k + 1, by omega, by simp, ⟨a', c', by rw [hps]; exact t5, fun j hj => (g5 j hj).elim (fun h => HB.out.2.2 j h) (fun h => by omega)⟩, HB.out.2.1.old f5 HD.out HB.out.2.2, HB.out.1.trans f5.below, by have := f5.below.size; omega⟩
      case measure => simp [intOf]; omega
    · have hke : k = min es.length 20 := by omega
      have HB := hide (And.intro hT (And.intro hT0 hbw))
      have HK := hide hok
      clear hT hT0 hbw hok hfo
      have hl2 : (¬ ((k : Int) < es.length)) ∨ ((k : Int) < es.length ∧ ¬ ((k : Int) < 20)) := by omega
      have h1 := hide (same_any w.heap.size p q D v u wr HB.out.2.1 HO.out)
      rcases hl2 with h2 | ⟨h2, h3⟩
      · go_wp2_with (first
          | (go_at_call 16; refine h1.out.mono ?_; rintro e' w6 ⟨rfl, b6⟩; have s6 := b6.size; have H6 := hide b6; clear b6 h1)
          | (go_at_call 16; refine (same_any w.heap.size p' q' _ a c w6 (HB.out.1.below H6.out) HK.out).mono ?_; rintro e' w7 ⟨rfl, b7⟩; have H7 := hide b7; clear b7))
        go_ret
        exact ⟨rfl, HB.out.2.2.trans ((H6.out.mono (by omega)).trans (H7.out.mono (by omega)))⟩
      · go_wp2_with (first
          | (go_at_call 16; refine h1.out.mono ?_; rintro e' w6 ⟨rfl, b6⟩; have s6 := b6.size; have H6 := hide b6; clear b6 h1)
          | (go_at_call 16; refine (same_any w.heap.size p' q' _ a c w6 (HB.out.1.below H6.out) HK.out).mono ?_; rintro e' w7 ⟨rfl, b7⟩; have H7 := hide b7; clear b7))
        go_ret
        exact ⟨rfl, HB.out.2.2.trans ((H6.out.mono (by omega)).trans (H7.out.mono (by omega)))⟩
end Go.Proofs.Ytllpblnbdocfjac
