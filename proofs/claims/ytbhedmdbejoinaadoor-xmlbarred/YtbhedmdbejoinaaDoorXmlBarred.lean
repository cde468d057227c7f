/- XmlBarred: comments, instructions and other declarations are barred: whatever the letters. -/
import Derived.Test.YtbhedmdbejoinaaDoorStrM
namespace Go.Proofs.YtbhedmdbejoinaaDoor
open Go.RowKit

set_option maxRecDepth 100000 in
set_option maxHeartbeats 1000000 in
theorem xmlBarred_any (x : Int) (a2 : Option Addr) (c2 : Nat) (l2 : List UInt8) (w : World) (hx0 : 0 ≤ x) (hx1 : x ≤ 255) (_h2 : l2.length ≤ c2) (hm2 : ByteMem w.heap.size w a2 l2) (hE : Env w) (h4 : 4 ≤ w.heap.size) :
    Calls Tryd.prog 5 #[.int .u8 x, .slice a2 l2.length c2] w fun e w' => e = .returned (.bool true) ∧ Below w.heap.size w w' := by
  have HM := hide (And.intro hm2 hE)
  clear hm2 hE
  obtain ⟨m, hm, hmx⟩ : ∃ m : UInt8, (m = 33 ∨ m = 63) ∧ ((x % 2 = 1 ∧ m = 63) ∨ (¬ x % 2 = 1 ∧ m = 33)) := by
    by_cases h : x % 2 = 1
    · exact ⟨63, .inr rfl, .inl ⟨h, rfl⟩⟩
    · exact ⟨33, .inl rfl, .inr ⟨h, rfl⟩⟩
  go_enter Tryd.func5, Tryd.ntmps5
  rcases hmx with ⟨hx, rfl⟩ | ⟨hx, rfl⟩
  · go_wp2_with fail
    go_loopw [5, 6] (fun s i wr => ∃ (k : Nat) (acc : List UInt8), k ≤ 100 ∧ k ≤ l2.length ∧ acc.length = k ∧ Small acc ∧ s = .string ⟨(60 :: 63 :: acc).toArray⟩ ∧ i = .int .i64 k ∧ Below w.heap.size w wr) (fun _ i _ => 100 - (intOf i).toNat)
    case atStart => exact ⟨0, [], Nat.zero_le _, Nat.zero_le _, rfl, fun b hb => by simp at hb, rfl, rfl, Below.refl _ _⟩
    case round =>
      obtain ⟨k, acc, hk, hkl, hal, hsm, rfl, rfl, hbw⟩ := hrel
      have hsw := hbw.size
      by_cases hgo : (k : Int) < l2.length ∧ (k : Int) < 100
      · obtain ⟨c, hc⟩ : ∃ c, l2[k]? = some c := ⟨_, List.getElem?_eq_getElem (by omega)⟩
        obtain ⟨b, o, hbe, hbl, hcell⟩ := HM.out.1 k c hc
        subst hbe
        have hcell' : wr.cell? ⟨b, o + k, none⟩ = _ := (hbw.cell (p := ⟨b, _, none⟩) hbl).trans hcell
        have g1 := hgo.1
        have g2 := hgo.2
        have cv := conv_one c wr
        have ad := add_one (60 :: 63 :: acc) (letB c) (by simp; omega)
        have HR := hide (And.intro hbw (And.intro hsm hal))
        clear hbw hsm hcell hc hgo hal
        go_wp2_with fail
        refine ⟨⟨k + 1, acc ++ [letB c], by omega, by omega, by rw [List.length_append, HR.out.2.2]; rfl, small_more HR.out.2.1 c, by simp, by simp, HR.out.1.alloc hsw _⟩, by simp [intOf]; omega⟩
      · obtain ⟨sl, hsl⟩ : ∃ sl : List UInt8, 60 :: 63 :: acc = sl := ⟨_, rfl⟩
        have hfd := feed_barred (m := 63) (by decide) hsm (by omega)
        have hln : sl.length ≤ 102 := by rw [← hsl]; simp; omega
        rw [hsl] at hfd ⊢
        have hbl2 : ([60, 97, 62] ++ sl ++ [62]).length ≤ 200 := by simp; omega
        have a1 := add_two [60, 97, 62] sl (by simp; omega)
        have a2 := add_two ([60, 97, 62] ++ sl) [62] (by simp; omega)
        obtain ⟨s1, hs1⟩ : ∃ s1 : List UInt8, [60, 97, 62] ++ sl = s1 := ⟨_, rfl⟩
        rw [hs1] at hfd a1 a2 hbl2
        obtain ⟨bl, hbl⟩ : ∃ bl, s1 ++ [62] = bl := ⟨_, rfl⟩
        rw [hbl] at hfd a2 hbl2
        have hstop : ¬ ((k : Int) < l2.length) ∨ ((k : Int) < l2.length ∧ ¬ ((k : Int) < 100)) := by omega
        have HB := hide (And.intro hbw hfd)
        clear hbw hfd hsm hal hsl hgo hbl hs1
        rcases hstop with g1 | ⟨g1, g2⟩
        all_goals
          go_wp2_with fail
          refine (new_any wr).mono ?_
          rintro e w1 ⟨rfl, hP1, hz1, hb1⟩
          obtain ⟨W2, cap, cv, hW2, z2, hb2⟩ := to_bytes ⟨bl.toArray⟩ w1
          have hP2 := hP1.below hb2
          have hbw1 := HB.out.1.trans (hb1.mono hsw)
          have hbw2 := hbw1.trans (hb2.mono (by omega))
          have hE2 : Env W2 := HM.out.2.below hbw2 h4
          have hB2 : Bytes W2 wr.heap.size (.slice none 0 0) (.slice none 0 0) (some ⟨w1.heap.size, 0, none⟩) bl := bytes_block hP2 hW2.choose_spec.choose_spec.1 (by intro h; cases h) hW2.choose_spec.choose_spec.2
          have hfe := Feed_any wr.heap.size wr.heap.size st0 _ _ _ cap bl W2 hP2 inv0 hE2 (by omega) (by omega) hB2 (by omega)
          rw [FeedF_of (st := st0) rfl] at hfe
          have hcz : (⟨bl.toArray⟩ : ByteArray).size = bl.length := by rw [← size_list]
          rw [hcz] at cv
          have H2 := hide (And.intro hfe (And.intro hbw2 (And.intro hE2 hP2)))
          have HZ1 := hide hz1
          clear hP1 hb1 hb2 hP2 hbw1 hbw2 hE2 hB2 hfe hW2 hcz hz1
          go_wp2_with fail
          refine H2.out.1.mono ?_
          rintro e w3 ⟨st3, v3, l3, vw3, vo3, rfl, q1, q2, q3, q4⟩
          rw [HB.out.2.1] at q1
          obtain ⟨x3, rfl, hx3⟩ : ∃ x3, l3 = [x3] ∧ x3.1 = ⟨1, ⟨#[97]⟩, [], ⟨#[]⟩⟩ := by
            have hl : l3.length = 1 := by simpa using congrArg List.length q1
            obtain ⟨x, hx⟩ := List.length_eq_one_iff.1 hl
            rw [hx] at q1
            exact ⟨x, hx, by simpa using q1⟩
          have hbr : st3.broken = 7 := q4.broken.trans HB.out.2.2
          rw [hbr]
          have hb3 := Run.under H2.out.2.2.2 q3
          have hz3 := q3.below.size
          have hz1 := HZ1.out
          have hbw3 := H2.out.2.1.trans (hb3.mono hsw)
          have hE3 := H2.out.2.2.1.below hb3 (by omega)
          have hlv := hide (live_any w3 hE3 (by omega))
          have H3 := hide (And.intro q2 (And.intro q3.isP (And.intro hbw3 (And.intro hbr hx3))))
          obtain ⟨g3, cap3, hv3, hcap3, _⟩ := row_cells q2 (k := 0) rfl
          subst hv3
          clear q1 q2 q3 q4 hb3 hbw3 hE3 hbr hx3
          go_wp2_with fail
          refine hlv.out.mono ?_
          rintro e w4 ⟨rfl, hb4⟩
          obtain ⟨g4, cap4, e4, _, _, d1, _⟩ := row_cells (H3.out.1.below hb4) (k := 0) rfl
          cases e4
          rw [H3.out.2.2.2.2] at d1
          have hbk := broken_any _ _ _ _ _ w4 (H3.out.2.1.below hb4)
          rw [H3.out.2.2.2.1] at hbk
          have H4 := hide (And.intro hbk (H3.out.2.2.1.trans (hb4.mono (by omega))))
          clear hb4 hbk
          go_wp2_with fail
          refine H4.out.1.mono ?_
          rintro e w5 ⟨rfl, hw⟩
          subst hw
          go_wp2_with fail
          go_ret
          exact ⟨rfl, H4.out.2⟩
  · go_wp2_with fail
    go_loopw [5, 6] (fun s i wr => ∃ (k : Nat) (acc : List UInt8), k ≤ 100 ∧ k ≤ l2.length ∧ acc.length = k ∧ Small acc ∧ s = .string ⟨(60 :: 33 :: acc).toArray⟩ ∧ i = .int .i64 k ∧ Below w.heap.size w wr) (fun _ i _ => 100 - (intOf i).toNat)
    case atStart => exact ⟨0, [], Nat.zero_le _, Nat.zero_le _, rfl, fun b hb => by simp at hb, rfl, rfl, Below.refl _ _⟩
    case round =>
      obtain ⟨k, acc, hk, hkl, hal, hsm, rfl, rfl, hbw⟩ := hrel
      have hsw := hbw.size
      by_cases hgo : (k : Int) < l2.length ∧ (k : Int) < 100
      · obtain ⟨c, hc⟩ : ∃ c, l2[k]? = some c := ⟨_, List.getElem?_eq_getElem (by omega)⟩
        obtain ⟨b, o, hbe, hbl, hcell⟩ := HM.out.1 k c hc
        subst hbe
        have hcell' : wr.cell? ⟨b, o + k, none⟩ = _ := (hbw.cell (p := ⟨b, _, none⟩) hbl).trans hcell
        have g1 := hgo.1
        have g2 := hgo.2
        have cv := conv_one c wr
        have ad := add_one (60 :: 33 :: acc) (letB c) (by simp; omega)
        have HR := hide (And.intro hbw (And.intro hsm hal))
        clear hbw hsm hcell hc hgo hal
        go_wp2_with fail
        refine ⟨⟨k + 1, acc ++ [letB c], by omega, by omega, by rw [List.length_append, HR.out.2.2]; rfl, small_more HR.out.2.1 c, by simp, by simp, HR.out.1.alloc hsw _⟩, by simp [intOf]; omega⟩
      · obtain ⟨sl, hsl⟩ : ∃ sl : List UInt8, 60 :: 33 :: acc = sl := ⟨_, rfl⟩
        have hfd := feed_barred (m := 33) (by decide) hsm (by omega)
        have hln : sl.length ≤ 102 := by rw [← hsl]; simp; omega
        rw [hsl] at hfd ⊢
        have hbl2 : ([60, 97, 62] ++ sl ++ [62]).length ≤ 200 := by simp; omega
        have a1 := add_two [60, 97, 62] sl (by simp; omega)
        have a2 := add_two ([60, 97, 62] ++ sl) [62] (by simp; omega)
        obtain ⟨s1, hs1⟩ : ∃ s1 : List UInt8, [60, 97, 62] ++ sl = s1 := ⟨_, rfl⟩
        rw [hs1] at hfd a1 a2 hbl2
        obtain ⟨bl, hbl⟩ : ∃ bl, s1 ++ [62] = bl := ⟨_, rfl⟩
        rw [hbl] at hfd a2 hbl2
        have hstop : ¬ ((k : Int) < l2.length) ∨ ((k : Int) < l2.length ∧ ¬ ((k : Int) < 100)) := by omega
        have HB := hide (And.intro hbw hfd)
        clear hbw hfd hsm hal hsl hgo hbl hs1
        rcases hstop with g1 | ⟨g1, g2⟩
        all_goals
          go_wp2_with fail
          refine (new_any wr).mono ?_
          rintro e w1 ⟨rfl, hP1, hz1, hb1⟩
          obtain ⟨W2, cap, cv, hW2, z2, hb2⟩ := to_bytes ⟨bl.toArray⟩ w1
          have hP2 := hP1.below hb2
          have hbw1 := HB.out.1.trans (hb1.mono hsw)
          have hbw2 := hbw1.trans (hb2.mono (by omega))
          have hE2 : Env W2 := HM.out.2.below hbw2 h4
          have hB2 : Bytes W2 wr.heap.size (.slice none 0 0) (.slice none 0 0) (some ⟨w1.heap.size, 0, none⟩) bl := bytes_block hP2 hW2.choose_spec.choose_spec.1 (by intro h; cases h) hW2.choose_spec.choose_spec.2
          have hfe := Feed_any wr.heap.size wr.heap.size st0 _ _ _ cap bl W2 hP2 inv0 hE2 (by omega) (by omega) hB2 (by omega)
          rw [FeedF_of (st := st0) rfl] at hfe
          have hcz : (⟨bl.toArray⟩ : ByteArray).size = bl.length := by rw [← size_list]
          rw [hcz] at cv
          have H2 := hide (And.intro hfe (And.intro hbw2 (And.intro hE2 hP2)))
          have HZ1 := hide hz1
          clear hP1 hb1 hb2 hP2 hbw1 hbw2 hE2 hB2 hfe hW2 hcz hz1
          go_wp2_with fail
          refine H2.out.1.mono ?_
          rintro e w3 ⟨st3, v3, l3, vw3, vo3, rfl, q1, q2, q3, q4⟩
          rw [HB.out.2.1] at q1
          obtain ⟨x3, rfl, hx3⟩ : ∃ x3, l3 = [x3] ∧ x3.1 = ⟨1, ⟨#[97]⟩, [], ⟨#[]⟩⟩ := by
            have hl : l3.length = 1 := by simpa using congrArg List.length q1
            obtain ⟨x, hx⟩ := List.length_eq_one_iff.1 hl
            rw [hx] at q1
            exact ⟨x, hx, by simpa using q1⟩
          have hbr : st3.broken = 7 := q4.broken.trans HB.out.2.2
          rw [hbr]
          have hb3 := Run.under H2.out.2.2.2 q3
          have hz3 := q3.below.size
          have hz1 := HZ1.out
          have hbw3 := H2.out.2.1.trans (hb3.mono hsw)
          have hE3 := H2.out.2.2.1.below hb3 (by omega)
          have hlv := hide (live_any w3 hE3 (by omega))
          have H3 := hide (And.intro q2 (And.intro q3.isP (And.intro hbw3 (And.intro hbr hx3))))
          obtain ⟨g3, cap3, hv3, hcap3, _⟩ := row_cells q2 (k := 0) rfl
          subst hv3
          clear q1 q2 q3 q4 hb3 hbw3 hE3 hbr hx3
          go_wp2_with fail
          refine hlv.out.mono ?_
          rintro e w4 ⟨rfl, hb4⟩
          obtain ⟨g4, cap4, e4, _, _, d1, _⟩ := row_cells (H3.out.1.below hb4) (k := 0) rfl
          cases e4
          rw [H3.out.2.2.2.2] at d1
          have hbk := broken_any _ _ _ _ _ w4 (H3.out.2.1.below hb4)
          rw [H3.out.2.2.2.1] at hbk
          have H4 := hide (And.intro hbk (H3.out.2.2.1.trans (hb4.mono (by omega))))
          clear hb4 hbk
          go_wp2_with fail
          refine H4.out.1.mono ?_
          rintro e w5 ⟨rfl, hw⟩
          subst hw
          go_wp2_with fail
          go_ret
          exact ⟨rfl, H4.out.2⟩
end Go.Proofs.YtbhedmdbejoinaaDoor
