/- DevForks. -/
import Derived.Test.YtdlejcdmjdljfaaD18
import Derived.Test.YtdlejcdmjdljfaaD19
namespace Go.Proofs.Ytdlejcdmjdljfaa
open Go.RowKit Go.Shelf

/-- Two devices whose blocks lie below n₁, where blocks from n₁ on alone turn. -/
theorem Two.old {base p q n₁ : Nat} {d : Dv} {vl vw ul uw : Value} {w w1 : World} {M : Blk} (h : Two base p q d vl vw ul uw w) (hf : Frees base M w w1) (ho : ∀ j, foot2 p vl vw q ul uw j → j < n₁) (hM : ∀ j, M j → n₁ ≤ j) : Two base p q d vl vw ul uw w1 :=
  ⟨h.dev.apart hf (fun j hj hm => by have := ho j (.inl hj); have := hM j hm; omega), h.ref.apart hf (fun j hj hm => by have := ho j (.inr hj); have := hM j hm; omega)⟩

set_option maxRecDepth 100000 in
set_option maxHeartbeats 2000000 in
theorem devForks_any (ao : Option Addr) (cap : Nat) (ds : List Dd) (bo : Option Addr) (bc : Nat) (es : List Dd) (w : World) (hm : DdMem w.heap.size w ao ds) (hm2 : DdMem w.heap.size w bo es) :
    Calls Try.prog 7 #[.slice ao ds.length cap, .slice bo es.length bc] w fun e w' => e = .returned (.bool true) ∧ Below w.heap.size w w' := by
  have H0 := hide (play_any 5 (by omega) ao cap ds w hm)
  obtain ⟨D, hD⟩ : ∃ D, playD (dvNew (5 % 8 + 1)) ds (min ds.length 60) = D := ⟨_, rfl⟩
  have hall := playD_all (ds := ds) (new_ok (5 % 8 + 1) (by omega) (by omega)) (min ds.length 60) (by simp [dvNew]; omega)
  rw [hD] at H0 hall
  have hwr : D.wr.length ≤ 60 := by have := hall.2.1; simp [dvNew] at this; omega
  have HO := hide hall.1
  have HM := hide hm2
  have hlen := hm2.1
  clear hm hall hm2 hD
  go_enter Try.func7, Try.ntmps7
  go_wp2_with (first
    | (go_at_call 9; refine H0.out.mono ?_; rintro e w1 ⟨p, q, vl, vw, ul, uw, rfl, t1, b1⟩; have s1 := b1.size; have H1 := hide (And.intro t1 b1); clear t1 b1)
    | (go_at_call 10; refine (live_any w1).mono ?_; rintro e w2 ⟨rfl, b2⟩; have s2 := b2.size; have H2 := hide (And.intro (H1.out.1.below b2) (H1.out.2.trans (b2.mono s1))); clear b2)
    | (go_at_call 13; refine (fork_any w.heap.size p D vl vw w2 H2.out.1.dev HO.out (by omega)).mono ?_; rintro e w3 ⟨p', vl', vw', rfl, d3, b3, g3⟩; have s3 := b3.size; have H3 := hide (And.intro (H2.out.1.below b3) (And.intro d3 (And.intro (H2.out.2.trans (b3.mono (by omega))) g3))); clear d3 b3 g3)
    | (go_at_call 20; refine (rfork_any w.heap.size q D ul uw w3 H3.out.1.ref HO.out (by omega)).mono ?_; rintro e w4 ⟨q', ul', uw', rfl, r4, b4, g4⟩; have s4 := b4.size; have H4 := hide (And.intro (H3.out.1.below b4) (And.intro (Two.mk (H3.out.2.1.below b4) r4) (And.intro (H3.out.2.2.1.trans (b4.mono (by omega))) g4))); clear r4 b4 g4))
  have hold : ∀ j, foot2 p vl vw q ul uw j → j < w2.heap.size := by
    rintro j (hj | hj)
    · exact (H2.out.1.dev.lt hj).2
    · exact (H2.out.1.ref.lt hj).2
  have hnew : ∀ j, foot2 p' vl' vw' q' ul' uw' j → w2.heap.size ≤ j := by
    rintro j (hj | hj)
    · exact H3.out.2.2.2 j hj
    · have := H4.out.2.2.2 j hj
      omega
  have HD := hide hold
  have HN := hide hnew
  clear hold hnew
  go_loopw [10] (fun j wr => ∃ k : Nat, k ≤ min es.length 20 ∧ j = .int .i64 k ∧ (∃ a b c e, Two w.heap.size p' q' (playD D es k) a b c e wr ∧ ∀ j, foot2 p' a b q' c e j → w2.heap.size ≤ j) ∧ Two w.heap.size p q D vl vw ul uw wr ∧ Below w.heap.size w wr ∧ w2.heap.size ≤ wr.heap.size) (fun j _ => min es.length 20 - (intOf j).toNat)
  case atStart => exact ⟨0, Nat.zero_le _, rfl, ⟨_, _, _, _, H4.out.2.1, HN.out⟩, H4.out.1, H4.out.2.2.1, by omega⟩
  case round =>
    obtain ⟨k, hk, rfl, ⟨a, b, c, e, hT, hfo⟩, hT0, hbw, hsz⟩ := hrel
    have hw1 : IntKind.i64.wrap ((k : Int) + 1) = k + 1 := by rw [IntKind.wrap_i64]; omega
    obtain ⟨hok, hfew, _⟩ := playD_all (ds := es) HO.out k (by omega)
    by_cases hlt : k < min es.length 20
    · have hl1 : k < es.length := by omega
      have hl2 : k < 20 := by omega
      obtain ⟨x, hx⟩ : ∃ x, es[k]? = some x := ⟨es[k], by simp [hl1]⟩
      obtain ⟨hbm, bb, off, rfl, hb0, c0, c1, c2, c3⟩ := (HM.out.below hbw).2 k x hx
      have hdo := do_any w.heap.size p' q' (playD D es k) a b c e x wr hT hok hbw.size (by omega) hbm
      unfold ddV at hdo
      have HDO := hide hdo
      have hps := playD_succ (d := D) hx
      have HB := hide (And.intro hbw (And.intro hT0 hfo))
      clear hdo hT hbw hbm hT0 hfo
      go_wp2_with (go_at_call 22; refine HDO.out.mono ?_; rintro e' w5 ⟨rfl, t5⟩; have T5 := hide t5; clear t5)
      obtain ⟨a', b', c', e', t5, f5, g5⟩ := T5.out
      go_roundw
      case rel => exact ⟨k + 1, by omega, by simp, ⟨a', b', c', e', by rw [hps]; exact t5, fun j hj => (g5 j hj).elim (fun h => HB.out.2.2 j h) (fun h => by omega)⟩, HB.out.2.1.old f5 HD.out HB.out.2.2, HB.out.1.trans f5.below, by have := f5.below.size; omega⟩
      case measure => simp [intOf]; omega
    · have hke : k = min es.length 20 := by omega
      have HB := hide (And.intro hT (And.intro hT0 hbw))
      have HK := hide hok
      clear hT hT0 hbw hok hfo
      have hl2 : (¬ ((k : Int) < es.length)) ∨ ((k : Int) < es.length ∧ ¬ ((k : Int) < 20)) := by omega
      have h1 := hide (same_any w.heap.size p q D vl vw ul uw wr HB.out.2.1 HO.out)
      rcases hl2 with h2 | ⟨h2, h3⟩
      · go_wp2_with (first
          | (go_at_call 11; refine h1.out.mono ?_; rintro e' w6 ⟨rfl, b6⟩; have s6 := b6.size; have H6 := hide b6; clear b6 h1)
          | (go_at_call 11; refine (same_any w.heap.size p' q' _ a b c e w6 (HB.out.1.below H6.out) HK.out).mono ?_; rintro e' w7 ⟨rfl, b7⟩; have H7 := hide b7; clear b7))
        go_ret
        exact ⟨rfl, HB.out.2.2.trans ((H6.out.mono (by omega)).trans (H7.out.mono (by omega)))⟩
      · go_wp2_with (first
          | (go_at_call 11; refine h1.out.mono ?_; rintro e' w6 ⟨rfl, b6⟩; have s6 := b6.size; have H6 := hide b6; clear b6 h1)
          | (go_at_call 11; refine (same_any w.heap.size p' q' _ a b c e w6 (HB.out.1.below H6.out) HK.out).mono ?_; rintro e' w7 ⟨rfl, b7⟩; have H7 := hide b7; clear b7))
        go_ret
        exact ⟨rfl, HB.out.2.2.trans ((H6.out.mono (by omega)).trans (H7.out.mono (by omega)))⟩
end Go.Proofs.Ytdlejcdmjdljfaa
