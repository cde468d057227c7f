/- XmlLimits: depth and what waits stay within their limits: whatever the pieces. -/
import Derived.Test.YtaglbikjnaahnaaDoorXl3
namespace Go.Proofs.YtaglbikjnaahnaaDoor
open Go.RowKit

/-- Pieces of bytes that were there: each where it lies, what it says, how much room it has. -/
def PieceMem (n₀ : Nat) (w : World) (ba : Option Addr) (l : List (Option Addr × List UInt8 × Nat)) : Prop := ∀ (k : Nat) (x : Option Addr × List UInt8 × Nat), l[k]? = some x → ∃ b o, ba = some ⟨b, o, none⟩ ∧ b < n₀ ∧ w.cell? ⟨b, o + k, none⟩ = some (.slice x.1 x.2.1.length x.2.2) ∧ x.2.1.length ≤ x.2.2 ∧ ByteMem n₀ w x.1 x.2.1

set_option maxRecDepth 100000 in
set_option maxHeartbeats 4000000 in
theorem xmlLimits_any (a1 : Option Addr) (c1 : Nat) (l1 : List (Option Addr × List UInt8 × Nat)) (w : World) (hM : PieceMem w.heap.size w a1 l1) (hE : Env w) (h4 : 4 ≤ w.heap.size) :
    Calls Tryd.prog 6 #[.slice a1 l1.length c1] w fun e w' => e = .returned (.bool true) ∧ Below w.heap.size w w' := by
  have HE := hide (And.intro hE hM)
  clear hE hM
  go_enter Tryd.func6, Tryd.ntmps6
  go_wp2_with fail
  refine (new_any w).mono ?_
  rintro e w1 ⟨rfl, hP1, hz1, hb1⟩
  have H1 := hide (And.intro hP1 (And.intro hb1 (HE.out.1.below hb1 h4)))
  clear hP1 hz1 hb1
  go_wp2_with fail
  go_loopw [4] (fun i wr => ∃ (k : Nat) (st : PS) (vw vo : Value), k ≤ l1.length ∧ i = .int .i64 k ∧ Inv st ∧ IsP w.heap.size w.heap.size st vw vo wr ∧ Below w.heap.size w wr ∧ Env wr) (fun i _ => l1.length - (intOf i).toNat)
  case atStart => exact ⟨0, st0, _, _, Nat.zero_le _, rfl, inv0, H1.out.1, H1.out.2.1, H1.out.2.2⟩
  case round =>
    obtain ⟨k, st, vw, vo, hk, rfl, hI, hP, hbw, hEv⟩ := hrel
    have hsw := hbw.size
    have hgo : ((k : Int) < l1.length ∧ (k : Int) < 20) ∨ ((k : Int) < l1.length ∧ ¬ ((k : Int) < 20)) ∨ ¬ ((k : Int) < l1.length) := by omega
    rcases hgo with ⟨hlt, h20⟩ | hout
    · obtain ⟨x, hx⟩ : ∃ x, l1[k]? = some x := ⟨_, List.getElem?_eq_getElem (by omega)⟩
      obtain ⟨b, o, hbe, hbl, hcell, hcap, hBM⟩ := HE.out.2 k x hx
      have hcell' := (hbw.cell (p := ⟨b, o + k, none⟩) hbl).trans hcell
      have hBM' := hBM.below hbw
      have hfw := xfew_any w.heap.size x.1 x.2.2 x.2.1 wr hBM' hcap
      have hfe := Feed_any w.heap.size w.heap.size st _ _ x.1 x.2.2 (x.2.1.take 3000) wr hP hI hEv h4 h4 ((hBM'.take 3000).bytes hP (Nat.le_refl _)) (by rw [List.length_take]; omega)
      have hI2 := FeedF_inv (x.2.1.take 3000) hI
      obtain ⟨n1, hn1⟩ : ∃ n1, (x.2.1.take 3000).length = n1 := ⟨_, rfl⟩
      rw [hn1] at hfw hfe
      obtain ⟨n0, hn0⟩ : ∃ n0, x.2.1.length = n0 := ⟨_, rfl⟩
      rw [hn0] at hfw hcell'
      have H2 := hide (And.intro hfw (And.intro hfe (And.intro hI2 (And.intro hP (And.intro hbw hEv)))))
      clear hfw hfe hI2 hP hbw hEv hcell hBM hBM' hn1 hn0 hI hcap hx
      subst hbe
      go_wp2_with fail
      refine H2.out.1.mono ?_
      rintro e w2 ⟨rfl, hw⟩
      subst hw
      go_wp2_with fail
      refine H2.out.2.1.mono ?_
      rintro e w3 ⟨st3, v3, l3, vw3, vo3, rfl, q1, q2, q3, q4⟩
      have hI3 := q4.inv H2.out.2.2.1
      have hb3 := Run.under H2.out.2.2.2.1 q3
      have hde := depth_any _ _ _ _ _ w3 q3.isP
      have hle := left_any _ _ _ _ _ w3 q3.isP
      obtain ⟨d, hd⟩ : ∃ d, st3.op.length = d := ⟨_, rfl⟩
      obtain ⟨lw, hlw⟩ : ∃ lw, st3.wait.length = lw := ⟨_, rfl⟩
      rw [hd] at hde
      rw [hlw] at hle
      have hd8 : ¬ (8 < (d : Int)) := by have := hI3.op; omega
      have hl8 : ¬ (2048 < (lw : Int)) := by have := hI3.wait; omega
      have H3 := hide (And.intro hI3 (And.intro q3.isP (And.intro (H2.out.2.2.2.2.1.trans hb3) (And.intro (H2.out.2.2.2.2.2.below hb3 h4) (And.intro hde hle)))))
      obtain ⟨br, hbr⟩ : ∃ br, st3.broken = br := ⟨_, rfl⟩
      rw [hbr]
      clear hI3 hb3 hde hle hd hlw q1 q2 q3 q4 hbr
      go_wp2_with fail
      refine H3.out.2.2.2.2.1.mono ?_
      rintro e w4 ⟨rfl, hw⟩
      subst hw
      by_cases h0 : br = 0
      · subst h0
        go_wp2_with fail
        refine H3.out.2.2.2.2.2.mono ?_
        rintro e w5 ⟨rfl, hw⟩
        subst hw
        go_wp2_with fail
        go_roundw
        case rel => exact ⟨k + 1, st3, vw3, vo3, by omega, by simp, H3.out.1, H3.out.2.1, H3.out.2.2.1, H3.out.2.2.2.1⟩
        case measure => simp [intOf]; omega
      · have h0' : (br == 0) = false := by rw [beq_eq_false_iff_ne]; exact h0
        go_wp2_with fail
        go_roundw
        case rel => exact ⟨k + 1, st3, vw3, vo3, by omega, by simp, H3.out.1, H3.out.2.1, H3.out.2.2.1, H3.out.2.2.2.1⟩
        case measure => simp [intOf]; omega
    · have H2 := hide (And.intro hbw hEv)
      clear hbw hEv hP hI
      rcases hout with ⟨hlt, h20⟩ | hlt
      all_goals
        go_wp2_with fail
        refine (live_any wr H2.out.2 (by omega)).mono ?_
        rintro e w3 ⟨rfl, hb3⟩
        have H3 := hide (H2.out.1.trans (hb3.mono hsw))
        clear hb3
        go_wp2_with fail
        go_ret
        exact ⟨rfl, H3.out⟩
end Go.Proofs.YtaglbikjnaahnaaDoor
