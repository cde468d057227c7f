/- Stanzas: what one may be. -/
import Derived.Test.YtpknifioflagaaaDoorSt0
import Derived.Test.YtpknifioflagaaaDoorJ4
namespace Go.Proofs.YtpknifioflagaaaDoor
open Go.RowKit

def addrB (s : ByteArray) : Bool := decide (s = ty_none) || (Jd.parseL s.data.toList).isSome
theorem newV (w : World) (T : TypeId) (cs : Array Value) : ∃ W, w.alloc (.cells cs T) = W ∧ W.heap[w.heap.size]? = some (.cells cs T) ∧ Below w.heap.size w W ∧ W.heap.size = w.heap.size + 1 :=
  ⟨_, rfl, World.alloc_heap_new _ _, (Below.refl _ _).alloc (Nat.le_refl _) _, by simp⟩
theorem ty_emp {s : ByteArray} (h : s = ty_none) : s.toList.isEmpty = true := by
  subst h
  rw [ByteArray.toList_eq]
  rfl
set_option maxRecDepth 100000 in
theorem address_any (s : ByteArray) (w : World) (hs : s.size ≤ 9223372036854775807) (hm : Jd.MaxG w) (h1 : 3 < w.heap.size) : Calls Tryd.prog 51 #[.string s] w fun e w' => e = .returned (.bool (addrB s)) ∧ Below w.heap.size w w' := by
  have hp := hide (Jd.parse_any s w hs hm h1)
  clear hm
  unfold addrB
  by_cases he : s = ty_none
  · rw [decide_eq_true he, Bool.true_or]
    have hie := ty_emp he
    clear he
    go_enter Tryd.func51, Tryd.ntmps51
    go_wp2_with fail
    refine hp.out.mono ?_
    rintro e w2 ⟨⟨j, hj, rfl⟩ | ⟨hj, rfl⟩, hb2⟩
    all_goals
      have H2 := hide (And.intro hb2 hb2.size)
      clear hb2 hj
      unfold Jd.jv
      go_wp2_with fail
      go_ret
      exact ⟨rfl, H2.out.1.alloc H2.out.2 _⟩
  · rw [decide_eq_false he, Bool.false_or]
    have hie := ty_ne he
    clear he
    obtain ⟨pb, hpb⟩ : ∃ pb, (Jd.parseL s.data.toList).isSome = pb := ⟨_, rfl⟩
    rw [hpb]
    have HPB := hide hpb
    clear hpb
    go_enter Tryd.func51, Tryd.ntmps51
    go_wp2_with fail
    refine hp.out.mono ?_
    rintro e w2 ⟨⟨j, hj, rfl⟩ | ⟨hj, rfl⟩, hb2⟩
    · have hq : pb = true := by rw [← HPB.out, hj]; rfl
      subst hq
      have H2 := hide (And.intro hb2 hb2.size)
      clear hb2 hj
      unfold Jd.jv
      go_wp2_with fail
      go_ret
      exact ⟨rfl, H2.out.1.alloc H2.out.2 _⟩
    · have hq : pb = false := by rw [← HPB.out, hj]; rfl
      subst hq
      have H2 := hide (And.intro hb2 hb2.size)
      clear hb2 hj
      unfold Jd.jv
      go_wp2_with fail
      go_ret
      exact ⟨rfl, H2.out.1.alloc H2.out.2 _⟩
/-- What a stanza may be, but for its tokens. -/
def mayB (k : Int) (ty fr tt id : ByteArray) : Bool := ((k == 1 && !decide (id = ty_none)) || (k == 2 || k == 3)) && (tyB k ty && (addrB fr && addrB tt))
theorem cells6 {w : World} {b : Nat} {v0 v1 v2 v3 v4 v5 : Value} {ty : TypeId} (h : w.heap[b]? = some (.cells #[v0, v1, v2, v3, v4, v5] ty)) : w.cell? ⟨b, 0, none⟩ = some v0 ∧ w.cell? ⟨b, 1, none⟩ = some v1 ∧ w.cell? ⟨b, 2, none⟩ = some v2 ∧ w.cell? ⟨b, 3, none⟩ = some v3 ∧ w.cell? ⟨b, 4, none⟩ = some v4 ∧ w.cell? ⟨b, 5, none⟩ = some v5 := by
  refine ⟨by simp [World.cell?, h], by simp [World.cell?, h], by simp [World.cell?, h], by simp [World.cell?, h], by simp [World.cell?, h], by simp [World.cell?, h]⟩

set_option maxRecDepth 100000 in
set_option maxHeartbeats 2000000 in
theorem mayBe_any (k : Int) (ty fr tt id : ByteArray) (pa : Option Addr) (pn pc : Nat) (w : World) (hfr : fr.size ≤ 9223372036854775807) (htt : tt.size ≤ 9223372036854775807) (hm : Jd.MaxG w) (h1 : 3 < w.heap.size) :
    Calls Tryd.prog 29 #[.agg #[.int .u8 k, .string ty, .string fr, .string tt, .string id, .slice pa pn pc]] w fun e w' => e = .returned (.bool (mayB k ty fr tt id)) ∧ Below w.heap.size w w' := by
  obtain ⟨rb, hrb⟩ : ∃ rb, mayB k ty fr tt id = rb := ⟨_, rfl⟩
  rw [hrb]
  have HRB := hide hrb
  have HM := hide hm
  obtain ⟨Wa, hWa, aa, ba, za⟩ := newV w 25 #[.int .u8 k, .string ty, .string fr, .string tt, .string id, .slice pa pn pc]
  obtain ⟨c0, c1, c2, c3, c4, c5⟩ := cells6 aa
  have H0 := hide (And.intro aa ba)
  have HT := hide (typeOf_any k ty Wa)
  clear hrb hm aa ba
  go_enter Tryd.func29, Tryd.ntmps29
  by_cases k1 : k = 1
  · subst k1
    by_cases e4 : id = ty_none
    · have i4 := ty_emp e4
      have HV := hide (HRB.out.symm.trans (show mayB 1 ty fr tt id = false by unfold mayB; rw [decide_eq_true e4]; rfl))
      clear e4
      go_wp2_with fail
      go_ret
      rw [HV.out]
      exact ⟨rfl, H0.out.2⟩
    · have i4 := ty_ne e4
      go_wp2_with fail
      refine HT.out.mono ?_
      rintro e w1 ⟨rfl, hw⟩
      subst hw
      cases q1 : tyB 1 ty with
      | false =>
        have HV := hide (HRB.out.symm.trans (show mayB 1 ty fr tt id = false by unfold mayB; rw [q1]; simp))
        clear q1
        go_wp2_with fail
        go_ret
        rw [HV.out]
        exact ⟨rfl, H0.out.2⟩
      | true =>
        have hA := hide (address_any fr w1 hfr (HM.out.below H0.out.2 h1) (by omega))
        go_wp2_with fail
        refine hA.out.mono ?_
        rintro e w2 ⟨rfl, hb2⟩
        have hz2 := hb2.size
        have g2 := (hb2.block w.heap.size (by omega)).trans H0.out.1
        have hbw := H0.out.2.trans (hb2.mono (by omega))
        obtain ⟨c0, c1, c2, c3, c4, c5⟩ := cells6 g2
        have H2 := hide hbw
        have hB := hide (address_any tt w2 htt (HM.out.below hbw h1) (by omega))
        clear hb2 hbw g2
        cases q2 : addrB fr with
        | false =>
          have HV := hide (HRB.out.symm.trans (show mayB 1 ty fr tt id = false by unfold mayB; rw [q2]; simp))
          clear q1 q2
          go_wp2_with fail
          go_ret
          rw [HV.out]
          exact ⟨rfl, H2.out⟩
        | true =>
          have HV := hide (HRB.out.symm.trans (show mayB 1 ty fr tt id = addrB tt by unfold mayB; rw [q1, q2]; simp [e4]))
          clear q1 q2
          go_wp2_with fail
          refine hB.out.mono ?_
          rintro e w3 ⟨rfl, hb3⟩
          have H3 := hide (H2.out.trans (hb3.mono (by omega)))
          clear hb3
          go_wp2_with fail
          go_ret
          rw [HV.out]
          exact ⟨rfl, H3.out⟩
  · by_cases k2 : k = 2
    · subst k2
      go_wp2_with fail
      refine HT.out.mono ?_
      rintro e w1 ⟨rfl, hw⟩
      subst hw
      cases q1 : tyB 2 ty with
      | false =>
        have HV := hide (HRB.out.symm.trans (show mayB 2 ty fr tt id = false by unfold mayB; rw [q1]; simp))
        clear q1
        go_wp2_with fail
        go_ret
        rw [HV.out]
        exact ⟨rfl, H0.out.2⟩
      | true =>
        have hA := hide (address_any fr w1 hfr (HM.out.below H0.out.2 h1) (by omega))
        go_wp2_with fail
        refine hA.out.mono ?_
        rintro e w2 ⟨rfl, hb2⟩
        have hz2 := hb2.size
        have g2 := (hb2.block w.heap.size (by omega)).trans H0.out.1
        have hbw := H0.out.2.trans (hb2.mono (by omega))
        obtain ⟨c0, c1, c2, c3, c4, c5⟩ := cells6 g2
        have H2 := hide hbw
        have hB := hide (address_any tt w2 htt (HM.out.below hbw h1) (by omega))
        clear hb2 hbw g2
        cases q2 : addrB fr with
        | false =>
          have HV := hide (HRB.out.symm.trans (show mayB 2 ty fr tt id = false by unfold mayB; rw [q2]; simp))
          clear q1 q2
          go_wp2_with fail
          go_ret
          rw [HV.out]
          exact ⟨rfl, H2.out⟩
        | true =>
          have HV := hide (HRB.out.symm.trans (show mayB 2 ty fr tt id = addrB tt by unfold mayB; rw [q1, q2]; simp))
          clear q1 q2
          go_wp2_with fail
          refine hB.out.mono ?_
          rintro e w3 ⟨rfl, hb3⟩
          have H3 := hide (H2.out.trans (hb3.mono (by omega)))
          clear hb3
          go_wp2_with fail
          go_ret
          rw [HV.out]
          exact ⟨rfl, H3.out⟩
    · by_cases k3 : k = 3
      · subst k3
        go_wp2_with fail
        refine HT.out.mono ?_
        rintro e w1 ⟨rfl, hw⟩
        subst hw
        cases q1 : tyB 3 ty with
        | false =>
          have HV := hide (HRB.out.symm.trans (show mayB 3 ty fr tt id = false by unfold mayB; rw [q1]; simp))
          clear q1
          go_wp2_with fail
          go_ret
          rw [HV.out]
          exact ⟨rfl, H0.out.2⟩
        | true =>
          have hA := hide (address_any fr w1 hfr (HM.out.below H0.out.2 h1) (by omega))
          go_wp2_with fail
          refine hA.out.mono ?_
          rintro e w2 ⟨rfl, hb2⟩
          have hz2 := hb2.size
          have g2 := (hb2.block w.heap.size (by omega)).trans H0.out.1
          have hbw := H0.out.2.trans (hb2.mono (by omega))
          obtain ⟨c0, c1, c2, c3, c4, c5⟩ := cells6 g2
          have H2 := hide hbw
          have hB := hide (address_any tt w2 htt (HM.out.below hbw h1) (by omega))
          clear hb2 hbw g2
          cases q2 : addrB fr with
          | false =>
            have HV := hide (HRB.out.symm.trans (show mayB 3 ty fr tt id = false by unfold mayB; rw [q2]; simp))
            clear q1 q2
            go_wp2_with fail
            go_ret
            rw [HV.out]
            exact ⟨rfl, H2.out⟩
          | true =>
            have HV := hide (HRB.out.symm.trans (show mayB 3 ty fr tt id = addrB tt by unfold mayB; rw [q1, q2]; simp))
            clear q1 q2
            go_wp2_with fail
            refine hB.out.mono ?_
            rintro e w3 ⟨rfl, hb3⟩
            have H3 := hide (H2.out.trans (hb3.mono (by omega)))
            clear hb3
            go_wp2_with fail
            go_ret
            rw [HV.out]
            exact ⟨rfl, H3.out⟩
      · have n1 : (k == 1) = false := by rw [beq_eq_false_iff_ne]; exact k1
        have n2 : (k == 2) = false := by rw [beq_eq_false_iff_ne]; exact k2
        have n3 : (k == 3) = false := by rw [beq_eq_false_iff_ne]; exact k3
        have HV := hide (HRB.out.symm.trans (show mayB k ty fr tt id = false by unfold mayB; rw [n1, n2, n3]; rfl))
        clear k1 k2 k3
        go_wp2_with fail
        go_ret
        rw [HV.out]
        exact ⟨rfl, H0.out.2⟩
end Go.Proofs.YtpknifioflagaaaDoor
