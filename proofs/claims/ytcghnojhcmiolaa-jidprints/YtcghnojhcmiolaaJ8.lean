/- The document's own addresses: whether they are right, their texts. -/
import Derived.Test.YtcghnojhcmiolaaJ5
namespace Go.Proofs.Ytcghnojhcmiolaa
open Go.RowKit

theorem emp_empty {s : ByteArray} (h : s = emp) : s.toList.isEmpty = true := by
  subst h
  rw [ByteArray.toList_eq]
  rfl
theorem right_lo {lo dom res : ByteArray} (h : lo ≠ emp) (h2 : partL lo.data.toList = false) : decide (RightJ (jl lo dom res)) = false := decide_eq_false (fun hR => by
  rcases hR.1 with e | e
  · exact h ((emp_iff _).2 e)
  · exact absurd (e.symm.trans h2) (by decide))
theorem right_dom {lo dom res : ByteArray} (h2 : partL dom.data.toList = false) : decide (RightJ (jl lo dom res)) = false := decide_eq_false (fun hR => absurd (hR.2.1.symm.trans h2) (by decide))
theorem right_res {lo dom res : ByteArray} (h : res ≠ emp) (h2 : partL res.data.toList = false) : decide (RightJ (jl lo dom res)) = false := decide_eq_false (fun hR => by
  rcases hR.2.2.1 with e | e
  · exact h ((emp_iff _).2 e)
  · exact absurd (e.symm.trans h2) (by decide))
theorem right_big {lo dom res : ByteArray} (h : 64 < lo.size + dom.size + res.size) : decide (RightJ (jl lo dom res)) = false := decide_eq_false (fun hR => by
  have := right_sum hR
  omega)
theorem right_all {lo dom res : ByteArray} (h1 : lo = emp ∨ partL lo.data.toList = true) (h2 : partL dom.data.toList = true) (h3 : res = emp ∨ partL res.data.toList = true) : decide (RightJ (jl lo dom res)) = decide (((joinB lo dom res).size : Int) ≤ 64) := by
  refine decide_eq_decide.2 ⟨fun h => ?_, fun h => ⟨?_, h2, ?_, ?_⟩⟩
  · have := h.2.2.2
    rw [← joinB_list, size_list] at this
    omega
  · exact h1.imp (emp_iff _).1 id
  · exact h3.imp (emp_iff _).1 id
  · rw [← joinB_list, size_list]
    omega
set_option maxRecDepth 100000 in
set_option maxHeartbeats 4000000 in
theorem refright_any (lo dom res : ByteArray) (w : World) (hs : lo.size + dom.size + res.size + 2 ≤ 9223372036854775807) : Calls Try.prog 15 #[.agg #[.string lo, .string dom, .string res]] w fun e w' => e = .returned (.bool (decide (RightJ (jl lo dom res)))) ∧ Below w.heap.size w w' := by
  obtain ⟨rb, hrb⟩ : ∃ rb, decide (RightJ (jl lo dom res)) = rb := ⟨_, rfl⟩
  rw [hrb]
  have HRB := hide hrb
  clear hrb
  obtain ⟨Wa, hWa, aa, ba, za⟩ := newJ w (.string lo) (.string dom) (.string res)
  obtain ⟨c0, c1, c2, _⟩ := cells3 aa
  have H0 := hide ba
  clear aa ba
  have p1 := hide (refpart_any lo Wa (by omega))
  have p2 := hide (refpart_any dom Wa (by omega))
  have p3 := hide (refpart_any res Wa (by omega))
  have p4 := hide (reftext_any lo dom res Wa hs)
  go_enter Try.func15, Try.ntmps15
  by_cases e1 : lo = emp
  · have n1 : lo.toList.isEmpty = true := emp_empty e1
    have E1 := hide e1
    clear e1
    go_wp2_with fail
    refine p2.out.mono ?_
    rintro e w2 ⟨rfl, hw⟩
    subst hw
    cases q2 : partL dom.data.toList with
    | false =>
      have HF := hide (HRB.out.symm.trans (right_dom q2))
      go_wp2_with fail
      go_ret
      rw [HF.out]
      exact ⟨rfl, H0.out⟩
    | true =>
      by_cases e3 : res = emp
      · have n3 : res.toList.isEmpty = true := emp_empty e3
        have E3 := hide e3
        clear e3
        have HP := hide (And.intro ((Or.inl E1.out : lo = emp ∨ partL lo.data.toList = true)) (And.intro q2 (Or.inl E3.out : res = emp ∨ partL res.data.toList = true)))
        clear q2
        by_cases s1 : (lo.size : Int) ≤ 64
        · have t1 : decide ((lo.size : Int) ≤ 64) = true := decide_eq_true s1
          by_cases s2 : (dom.size : Int) ≤ 64
          · have t2 : decide ((dom.size : Int) ≤ 64) = true := decide_eq_true s2
            by_cases s3 : (res.size : Int) ≤ 64
            · have t3 : decide ((res.size : Int) ≤ 64) = true := decide_eq_true s3
              go_wp2_with fail
              refine p4.out.mono ?_
              rintro e w4 ⟨rfl, hb4⟩
              have HB4 := hide (H0.out.trans (hb4.mono (by omega)))
              have hjz := joinB_size lo dom res
              have HF := hide (HRB.out.symm.trans (right_all HP.out.1 HP.out.2.1 HP.out.2.2))
              clear hb4
              go_wp2_with fail
              go_ret
              rw [HF.out]
              exact ⟨rfl, HB4.out⟩
            · have t3 : decide ((res.size : Int) ≤ 64) = false := decide_eq_false s3
              have HF := hide (HRB.out.symm.trans (right_big (by omega)))
              go_wp2_with fail
              go_ret
              rw [HF.out]
              exact ⟨rfl, H0.out⟩
          · have t2 : decide ((dom.size : Int) ≤ 64) = false := decide_eq_false s2
            have HF := hide (HRB.out.symm.trans (right_big (by omega)))
            go_wp2_with fail
            go_ret
            rw [HF.out]
            exact ⟨rfl, H0.out⟩
        · have t1 : decide ((lo.size : Int) ≤ 64) = false := decide_eq_false s1
          have HF := hide (HRB.out.symm.trans (right_big (by omega)))
          go_wp2_with fail
          go_ret
          rw [HF.out]
          exact ⟨rfl, H0.out⟩
      · have n3 := ne_empty e3
        go_wp2_with fail
        refine p3.out.mono ?_
        rintro e w3 ⟨rfl, hw⟩
        subst hw
        cases q3 : partL res.data.toList with
        | false =>
          have HF := hide (HRB.out.symm.trans (right_res e3 q3))
          go_wp2_with fail
          go_ret
          rw [HF.out]
          exact ⟨rfl, H0.out⟩
        | true =>
          have HP := hide (And.intro ((Or.inl E1.out : lo = emp ∨ partL lo.data.toList = true)) (And.intro q2 (Or.inr q3 : res = emp ∨ partL res.data.toList = true)))
          clear q2 q3 e3
          by_cases s1 : (lo.size : Int) ≤ 64
          · have t1 : decide ((lo.size : Int) ≤ 64) = true := decide_eq_true s1
            by_cases s2 : (dom.size : Int) ≤ 64
            · have t2 : decide ((dom.size : Int) ≤ 64) = true := decide_eq_true s2
              by_cases s3 : (res.size : Int) ≤ 64
              · have t3 : decide ((res.size : Int) ≤ 64) = true := decide_eq_true s3
                go_wp2_with fail
                refine p4.out.mono ?_
                rintro e w4 ⟨rfl, hb4⟩
                have HB4 := hide (H0.out.trans (hb4.mono (by omega)))
                have hjz := joinB_size lo dom res
                have HF := hide (HRB.out.symm.trans (right_all HP.out.1 HP.out.2.1 HP.out.2.2))
                clear hb4
                go_wp2_with fail
                go_ret
                rw [HF.out]
                exact ⟨rfl, HB4.out⟩
              · have t3 : decide ((res.size : Int) ≤ 64) = false := decide_eq_false s3
                have HF := hide (HRB.out.symm.trans (right_big (by omega)))
                go_wp2_with fail
                go_ret
                rw [HF.out]
                exact ⟨rfl, H0.out⟩
            · have t2 : decide ((dom.size : Int) ≤ 64) = false := decide_eq_false s2
              have HF := hide (HRB.out.symm.trans (right_big (by omega)))
              go_wp2_with fail
              go_ret
              rw [HF.out]
              exact ⟨rfl, H0.out⟩
          · have t1 : decide ((lo.size : Int) ≤ 64) = false := decide_eq_false s1
            have HF := hide (HRB.out.symm.trans (right_big (by omega)))
            go_wp2_with fail
            go_ret
            rw [HF.out]
            exact ⟨rfl, H0.out⟩
  · have n1 := ne_empty e1
    go_wp2_with fail
    refine p1.out.mono ?_
    rintro e w1 ⟨rfl, hw⟩
    subst hw
    cases q1 : partL lo.data.toList with
    | false =>
      have HF := hide (HRB.out.symm.trans (right_lo e1 q1))
      go_wp2_with fail
      go_ret
      rw [HF.out]
      exact ⟨rfl, H0.out⟩
    | true =>
      go_wp2_with fail
      refine p2.out.mono ?_
      rintro e w2 ⟨rfl, hw⟩
      subst hw
      cases q2 : partL dom.data.toList with
      | false =>
        have HF := hide (HRB.out.symm.trans (right_dom q2))
        go_wp2_with fail
        go_ret
        rw [HF.out]
        exact ⟨rfl, H0.out⟩
      | true =>
        by_cases e3 : res = emp
        · have n3 : res.toList.isEmpty = true := emp_empty e3
          have E3 := hide e3
          clear e3
          have HP := hide (And.intro ((Or.inr q1 : lo = emp ∨ partL lo.data.toList = true)) (And.intro q2 (Or.inl E3.out : res = emp ∨ partL res.data.toList = true)))
          clear q2
          by_cases s1 : (lo.size : Int) ≤ 64
          · have t1 : decide ((lo.size : Int) ≤ 64) = true := decide_eq_true s1
            by_cases s2 : (dom.size : Int) ≤ 64
            · have t2 : decide ((dom.size : Int) ≤ 64) = true := decide_eq_true s2
              by_cases s3 : (res.size : Int) ≤ 64
              · have t3 : decide ((res.size : Int) ≤ 64) = true := decide_eq_true s3
                go_wp2_with fail
                refine p4.out.mono ?_
                rintro e w4 ⟨rfl, hb4⟩
                have HB4 := hide (H0.out.trans (hb4.mono (by omega)))
                have hjz := joinB_size lo dom res
                have HF := hide (HRB.out.symm.trans (right_all HP.out.1 HP.out.2.1 HP.out.2.2))
                clear hb4
                go_wp2_with fail
                go_ret
                rw [HF.out]
                exact ⟨rfl, HB4.out⟩
              · have t3 : decide ((res.size : Int) ≤ 64) = false := decide_eq_false s3
                have HF := hide (HRB.out.symm.trans (right_big (by omega)))
                go_wp2_with fail
                go_ret
                rw [HF.out]
                exact ⟨rfl, H0.out⟩
            · have t2 : decide ((dom.size : Int) ≤ 64) = false := decide_eq_false s2
              have HF := hide (HRB.out.symm.trans (right_big (by omega)))
              go_wp2_with fail
              go_ret
              rw [HF.out]
              exact ⟨rfl, H0.out⟩
          · have t1 : decide ((lo.size : Int) ≤ 64) = false := decide_eq_false s1
            have HF := hide (HRB.out.symm.trans (right_big (by omega)))
            go_wp2_with fail
            go_ret
            rw [HF.out]
            exact ⟨rfl, H0.out⟩
        · have n3 := ne_empty e3
          go_wp2_with fail
          refine p3.out.mono ?_
          rintro e w3 ⟨rfl, hw⟩
          subst hw
          cases q3 : partL res.data.toList with
          | false =>
            have HF := hide (HRB.out.symm.trans (right_res e3 q3))
            go_wp2_with fail
            go_ret
            rw [HF.out]
            exact ⟨rfl, H0.out⟩
          | true =>
            have HP := hide (And.intro ((Or.inr q1 : lo = emp ∨ partL lo.data.toList = true)) (And.intro q2 (Or.inr q3 : res = emp ∨ partL res.data.toList = true)))
            clear q2 q3 e3
            by_cases s1 : (lo.size : Int) ≤ 64
            · have t1 : decide ((lo.size : Int) ≤ 64) = true := decide_eq_true s1
              by_cases s2 : (dom.size : Int) ≤ 64
              · have t2 : decide ((dom.size : Int) ≤ 64) = true := decide_eq_true s2
                by_cases s3 : (res.size : Int) ≤ 64
                · have t3 : decide ((res.size : Int) ≤ 64) = true := decide_eq_true s3
                  go_wp2_with fail
                  refine p4.out.mono ?_
                  rintro e w4 ⟨rfl, hb4⟩
                  have HB4 := hide (H0.out.trans (hb4.mono (by omega)))
                  have hjz := joinB_size lo dom res
                  have HF := hide (HRB.out.symm.trans (right_all HP.out.1 HP.out.2.1 HP.out.2.2))
                  clear hb4
                  go_wp2_with fail
                  go_ret
                  rw [HF.out]
                  exact ⟨rfl, HB4.out⟩
                · have t3 : decide ((res.size : Int) ≤ 64) = false := decide_eq_false s3
                  have HF := hide (HRB.out.symm.trans (right_big (by omega)))
                  go_wp2_with fail
                  go_ret
                  rw [HF.out]
                  exact ⟨rfl, H0.out⟩
              · have t2 : decide ((dom.size : Int) ≤ 64) = false := decide_eq_false s2
                have HF := hide (HRB.out.symm.trans (right_big (by omega)))
                go_wp2_with fail
                go_ret
                rw [HF.out]
                exact ⟨rfl, H0.out⟩
            · have t1 : decide ((lo.size : Int) ≤ 64) = false := decide_eq_false s1
              have HF := hide (HRB.out.symm.trans (right_big (by omega)))
              go_wp2_with fail
              go_ret
              rw [HF.out]
              exact ⟨rfl, H0.out⟩
end Go.Proofs.Ytcghnojhcmiolaa
