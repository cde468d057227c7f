/- WriteSame, whatever its arguments. -/
import Derived.Test.YtaglbikjnaahnacDoorLive4
import Derived.Test.YtaglbikjnaahnacDoorSame
namespace Go.Proofs.YtaglbikjnaahnacDoor
open Go.RowKit

set_option maxRecDepth 100000 in
set_option maxHeartbeats 4000000 in
theorem writeSame_any (a1 a2 : Option Addr) (c1 c2 : Nat) (ts us : List Tok) (av1 av2 : Nat → Option Addr × Nat) (w : World) (hc1 : ts.length ≤ c1) (hc2 : us.length ≤ c2) (h1 : TokMem w.heap.size w a1 ts av1) (h2 : TokMem w.heap.size w a2 us av2) (hU : Tabs w) (hl : EntLaid w) :
    Calls Tryd.prog 3 #[.slice a1 ts.length c1, .slice a2 us.length c2] w fun e w' => e = .returned (.bool true) ∧ Below w.heap.size w w' := by
  have f1 := few_any a1 c1 ts w hc1 h1.1
  have f2 := few_any a2 c2 us w hc2 h2.1
  have g1 := h1.take 70
  have g2 := h2.take 70
  obtain ⟨xs, hxs⟩ : ∃ xs, ts.take 70 = xs := ⟨_, rfl⟩
  obtain ⟨ys, hys⟩ : ∃ ys, us.take 70 = ys := ⟨_, rfl⟩
  rw [hxs] at f1 g1
  rw [hys] at f2 g2
  have HF := hide (And.intro f1 f2)
  have HG := hide (And.intro g1 g2)
  have HU := hide hU
  have HL := hide hl
  clear hU hl h1 h2 hc1 hc2 f1 f2 g1 g2 hxs hys
  go_enter Tryd.func3, Tryd.ntmps3
  go_wp2_with fail
  refine HF.out.1.mono ?_
  rintro e w1 ⟨rfl, rfl⟩
  go_wp2_with fail
  refine HF.out.2.mono ?_
  rintro e w2 ⟨rfl, rfl⟩
  obtain ⟨bv, hbv, hbv'⟩ : ∃ bv : Bool, (∀ e, Tells (xs = ys) e → e = .returned (.bool bv)) ∧ (∀ e, Tells (ys = xs) e → e = .returned (.bool bv)) := by
    by_cases h : xs = ys
    · exact ⟨true, fun e he => by rcases he with ⟨_, he⟩ | ⟨hn, _⟩; exact he; exact absurd h hn, fun e he => by rcases he with ⟨_, he⟩ | ⟨hn, _⟩; exact he; exact absurd h.symm hn⟩
    · exact ⟨false, fun e he => by rcases he with ⟨hn, _⟩ | ⟨_, he⟩; exact absurd hn h; exact he, fun e he => by rcases he with ⟨hn, _⟩ | ⟨_, he⟩; exact absurd hn.symm h; exact he⟩
  have HV := hide (And.intro hbv hbv')
  clear hbv hbv'
  have H1 := hide (live4_any w2 HU.out HL.out)
  go_wp2_with fail
  refine H1.out.mono ?_
  rintro e w3 ⟨rfl, hb3⟩
  have H3 := hide hb3
  clear hb3
  go_wp2_with fail
  refine (same_any a1 a2 c1 c2 xs ys av1 av2 w3 ((HG.out.1.below H3.out).mono H3.out.size) ((HG.out.2.below H3.out).mono H3.out.size)).mono ?_
  rintro e w4 ⟨he, hb4⟩
  have H4 := hide (H3.out.trans (hb4.mono H3.out.size))
  obtain rfl := HV.out.1 _ he
  clear he hb4
  go_wp2_with fail
  refine (refSame_any a1 a2 c1 c2 xs ys av1 av2 w4 ((HG.out.1.below H4.out).mono H4.out.size) ((HG.out.2.below H4.out).mono H4.out.size)).mono ?_
  rintro e w5 ⟨he, hb5⟩
  have H5 := hide (H4.out.trans (hb5.mono H4.out.size))
  obtain rfl := HV.out.1 _ he
  clear he hb5
  have hbb : (bv == bv) = true := by simp
  go_wp2_with fail
  refine (same_any a2 a1 c2 c1 ys xs av2 av1 w5 ((HG.out.2.below H5.out).mono H5.out.size) ((HG.out.1.below H5.out).mono H5.out.size)).mono ?_
  rintro e w6 ⟨he, hb6⟩
  have H6 := hide (H5.out.trans (hb6.mono H5.out.size))
  obtain rfl := HV.out.2 _ he
  clear he hb6
  go_wp2_with fail
  refine (same_any a1 a2 c1 c2 xs ys av1 av2 w6 ((HG.out.1.below H6.out).mono H6.out.size) ((HG.out.2.below H6.out).mono H6.out.size)).mono ?_
  rintro e w7 ⟨he, hb7⟩
  have H7 := hide (H6.out.trans (hb7.mono H6.out.size))
  obtain rfl := HV.out.1 _ he
  clear he hb7
  go_wp2_with fail
  refine (same_any a1 a1 c1 c1 xs xs av1 av1 w7 ((HG.out.1.below H7.out).mono H7.out.size) ((HG.out.1.below H7.out).mono H7.out.size)).mono ?_
  rintro e w8 ⟨⟨_, rfl⟩ | ⟨h, _⟩, hb8⟩
  · have H8 := hide (H7.out.trans (hb8.mono H7.out.size))
    clear hb8
    go_wp2_with fail
    go_ret
    exact ⟨rfl, H8.out⟩
  · exact absurd rfl h
end Go.Proofs.YtaglbikjnaahnacDoor
