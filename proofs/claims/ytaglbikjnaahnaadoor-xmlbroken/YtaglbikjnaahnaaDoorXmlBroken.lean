/- XmlBroken: a broken parser stays so: whatever the bytes. -/
import Derived.Test.YtaglbikjnaahnaaDoorXl3
namespace Go.Proofs.YtaglbikjnaahnaaDoor
open Go.RowKit

set_option maxRecDepth 100000 in
set_option maxHeartbeats 2000000 in
theorem xmlBroken_any (a1 a2 : Option Addr) (c1 c2 : Nat) (l1 l2 : List UInt8) (w : World) (h1 : l1.length ≤ c1) (h2 : l2.length ≤ c2) (hm1 : ByteMem w.heap.size w a1 l1) (hm2 : ByteMem w.heap.size w a2 l2) (hE : Env w) (h4 : 4 ≤ w.heap.size) :
    Calls Tryd.prog 7 #[.slice a1 l1.length c1, .slice a2 l2.length c2] w fun e w' => e = .returned (.bool true) ∧ Below w.heap.size w w' := by
  have HM := hide (And.intro hm1 (And.intro hm2 hE))
  clear hm1 hm2 hE
  go_enter Tryd.func7, Tryd.ntmps7
  go_wp2_with fail
  refine (new_any w).mono ?_
  rintro e w1 ⟨rfl, hP1, hz1, hb1⟩
  have hM1 := HM.out.1.below hb1
  have hE1 := HM.out.2.2.below hb1 h4
  have hfw := xfew_any w.heap.size a1 c1 l1 w1 hM1 h1
  have hfe := Feed_any w.heap.size w.heap.size st0 _ _ a1 c1 (l1.take 3000) w1 hP1 inv0 hE1 h4 h4 ((hM1.take 3000).bytes hP1 (Nat.le_refl _)) (by rw [List.length_take]; omega)
  have hI2 := FeedF_inv (l1.take 3000) inv0
  obtain ⟨n1, hn1⟩ : ∃ n1, (l1.take 3000).length = n1 := ⟨_, rfl⟩
  rw [hn1] at hfw hfe
  clear hn1
  have H1 := hide (And.intro hfw (And.intro hfe (And.intro hI2 (And.intro hP1 (And.intro hb1 hE1)))))
  clear hM1 hE1 hfw hfe hI2 hP1 hb1 hz1
  go_wp2_with fail
  refine H1.out.1.mono ?_
  rintro e w2 ⟨rfl, hw⟩
  subst hw
  go_wp2_with fail
  refine H1.out.2.1.mono ?_
  rintro e w3 ⟨st3, v3, l3, vw3, vo3, rfl, q1, q2, q3, q4⟩
  have hI3 := q4.inv H1.out.2.2.1
  have hb3 := Run.under H1.out.2.2.2.1 q3
  have hbw3 := H1.out.2.2.2.2.1.trans hb3
  have hE3 := H1.out.2.2.2.2.2.below hb3 h4
  have hs3 := hbw3.size
  obtain ⟨br, hbr⟩ : ∃ br, st3.broken = br := ⟨_, rfl⟩
  rw [hbr]
  have H3 := hide (And.intro hI3 (And.intro hbw3 (And.intro hE3 (And.intro q3 hbr))))
  clear hI3 hb3 hbw3 hE3 q1 q2 q3 q4 hbr
  by_cases h0 : br = 0
  · subst h0
    go_wp2_with fail
    refine (live_any w3 H3.out.2.2.1 (by omega)).mono ?_
    rintro e w4 ⟨rfl, hb4⟩
    have hbk := broken_any _ _ _ _ _ w4 (H3.out.2.2.2.1.isP.below hb4)
    rw [H3.out.2.2.2.2] at hbk
    have H4 := hide (And.intro hbk (H3.out.2.1.trans (hb4.mono hs3)))
    clear hbk hb4
    go_wp2_with fail
    refine H4.out.1.mono ?_
    rintro e w5 ⟨rfl, hw⟩
    subst hw
    go_wp2_with fail
    go_ret
    exact ⟨rfl, H4.out.2⟩
  · have h0' : (br == 0) = false := by rw [beq_eq_false_iff_ne]; exact h0
    have hM3 := HM.out.2.1.below H3.out.2.1
    have hfw := xfew_any w.heap.size a2 c2 l2 w3 hM3 h2
    have hfe := Feed_any w.heap.size w.heap.size st3 _ _ a2 c2 (l2.take 3000) w3 H3.out.2.2.2.1.isP H3.out.1 H3.out.2.2.1 h4 h4 ((hM3.take 3000).bytes H3.out.2.2.2.1.isP (Nat.le_refl _)) (by rw [List.length_take]; omega)
    rw [FeedF_broken (by rw [H3.out.2.2.2.2]; exact h0)] at hfe
    obtain ⟨n2, hn2⟩ : ∃ n2, (l2.take 3000).length = n2 := ⟨_, rfl⟩
    rw [hn2] at hfw hfe
    clear hn2
    have H4 := hide (And.intro hfw hfe)
    clear hM3 hfw hfe
    go_wp2_with fail
    refine H4.out.1.mono ?_
    rintro e w4 ⟨rfl, hw⟩
    subst hw
    go_wp2_with fail
    refine H4.out.2.mono ?_
    rintro e w5 ⟨st5, v5, l5, vw5, vo5, rfl, q1, q2, q3, q4⟩
    obtain rfl : l5 = [] := by simpa using q1
    have hbr5 : st5.broken = br := q4.broken.trans H3.out.2.2.2.2
    rw [hbr5]
    obtain ⟨g5, k5, rfl⟩ := own_shape q2.1
    have hb5 := Run.under H3.out.2.2.2.1.isP q3
    have hbw5 := H3.out.2.1.trans hb5
    have hE5 := H3.out.2.2.1.below hb5 h4
    have hs5 := hbw5.size
    have H5 := hide (And.intro hbr5 (And.intro q3 (And.intro hbw5 hE5)))
    clear hbr5 q1 q2 q3 q4 hb5 hbw5 hE5
    go_wp2_with fail
    refine (live_any w5 H5.out.2.2.2 (by omega)).mono ?_
    rintro e w6 ⟨rfl, hb6⟩
    have hbk := broken_any _ _ _ _ _ w6 (H5.out.2.1.isP.below hb6)
    rw [H5.out.1] at hbk
    have H6 := hide (And.intro hbk (H5.out.2.2.1.trans (hb6.mono hs5)))
    clear hbk hb6
    go_wp2_with fail
    refine H6.out.1.mono ?_
    rintro e w7 ⟨rfl, hw⟩
    subst hw
    go_wp2_with fail
    go_ret
    exact ⟨by simp, H6.out.2⟩
end Go.Proofs.YtaglbikjnaahnaaDoor
