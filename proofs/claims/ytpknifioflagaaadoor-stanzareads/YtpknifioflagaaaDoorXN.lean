/- Addresses: what must be whatever is asked. The document's own addresses: whether they are right, their texts. The document's own addresses: their texts, and what a text says. -/
import Derived.Test.YtpknifioflagaaaDoorXC
namespace Go.Proofs.YtpknifioflagaaaDoor.Jd
open Go.RowKit

theorem str_ext {a b : ByteArray} (h : a.data.toList = b.data.toList) : a = b := by
  rw [← arr_self a, ← arr_self b, h]
theorem right_sum {x y z : ByteArray} (h : RightJ (jl x y z)) : x.size + y.size + z.size ≤ 64 := by
  have h4 : ((if x.data.toList = [] then [] else x.data.toList ++ [64]) ++ (y.data.toList ++ (if z.data.toList = [] then [] else 47 :: z.data.toList))).length ≤ 64 := h.2.2.2
  rw [List.length_append, List.length_append] at h4
  have e1 : x.size ≤ (if x.data.toList = [] then [] else x.data.toList ++ [64]).length := by
    split
    · rename_i h; rw [← size_list, h]; simp
    · rw [List.length_append, size_list]; simp
  have e2 : z.size ≤ (if z.data.toList = [] then [] else 47 :: z.data.toList).length := by
    split
    · rename_i h; rw [← size_list, h]; simp
    · rw [List.length_cons, size_list]; omega
  have e3 : y.data.toList.length = y.size := size_list y
  omega
theorem newJ (w : World) (x y z : Value) : ∃ W, w.alloc (.cells #[x, y, z] 47) = W ∧ W.heap[w.heap.size]? = some (.cells #[x, y, z] 47) ∧ Below w.heap.size w W ∧ W.heap.size = w.heap.size + 1 :=
  ⟨_, rfl, World.alloc_heap_new _ _, (Below.refl _ _).alloc (Nat.le_refl _) _, by simp⟩
def romeo : ByteArray := ⟨#[114, 111, 109, 101, 111]⟩
def exNet : ByteArray := ⟨#[101, 120, 97, 109, 112, 108, 101, 46, 110, 101, 116]⟩
def orchard : ByteArray := ⟨#[111, 114, 99, 104, 97, 114, 100]⟩
theorem field2 (x y z : ByteArray) (w : World) : (Instr.field 47 (.agg #[.string x, .string y, .string z]) 2).run Tryd.prog w = .ok (.string z) w := by kernel_rfl
theorem live_right : RightJ (jl romeo exNet orchard) := by decide
set_option maxRecDepth 100000 in
theorem live_parse (w : World) (hm : MaxG w) (h1 : 3 < w.heap.size) : Calls Tryd.prog 49 #[.string ⟨#[114, 111, 109, 101, 111, 64, 101, 120, 97, 109, 112, 108, 101, 46, 110, 101, 116, 47, 111, 114, 99, 104, 97, 114, 100]⟩] w fun e w' => e = .returned (.tuple #[.agg #[.string romeo, .string exNet, .string orchard], .int .i64 0]) ∧ Below w.heap.size w w' := by
  refine (parse_any _ w (by decide) hm h1).mono ?_
  have ht : textJ (jl romeo exNet orchard) = [114, 111, 109, 101, 111, 64, 101, 120, 97, 109, 112, 108, 101, 46, 110, 101, 116, 47, 111, 114, 99, 104, 97, 114, 100] := by decide
  have hp := parse_text live_right
  rw [ht] at hp
  rintro e w' ⟨⟨j, hj, rfl⟩ | ⟨hj, rfl⟩, hb⟩
  · have : some (jl romeo exNet orchard) = some j := hp.symm.trans hj
    cases this
    exact ⟨rfl, hb⟩
  · have : some (jl romeo exNet orchard) = none := hp.symm.trans hj
    cases this
end Go.Proofs.YtpknifioflagaaaDoor.Jd
namespace Go.Proofs.YtpknifioflagaaaDoor.Jd
open Go.RowKit

theorem emp_empty {s : ByteArray} (h : s = emp) : s.toList.isEmpty = true := by
  subst h
  rw [ByteArray.toList_eq]
  rfl
theorem right_lo {lo dom res : ByteArray} (h : lo ≠ emp) (h2 : partL lo.data.toList = false) : decide (RightJ (jl lo dom res)) = false := decide_eq_false (fun hR => by
  rcases hR.1 with e | e
  · exact h ((emp_iff _).2 e)
  · exact absurd (e.symm.trans h2) (by decide))
theorem right_dom {lo dom res : ByteArray} (h2 : partL dom.data.toList = false) : decide (RightJ (jl lo dom res)) = false := decide_eq_false (fun hR => absurd (hR.2.1.symm.trans h2) (by decide))
theorem right_res {lo dom res : ByteArray} (h : res ≠ emp) (h2 : partL res.data.toList = false) : decide (RightJ (jl lo dom res)) = false := decide_eq_false (fun hR => by
  rcases hR.2.2.1 with e | e
  · exact h ((emp_iff _).2 e)
  · exact absurd (e.symm.trans h2) (by decide))
theorem right_big {lo dom res : ByteArray} (h : 64 < lo.size + dom.size + res.size) : decide (RightJ (jl lo dom res)) = false := decide_eq_false (fun hR => by
  have := right_sum hR
  omega)
theorem right_all {lo dom res : ByteArray} (h1 : lo = emp ∨ partL lo.data.toList = true) (h2 : partL dom.data.toList = true) (h3 : res = emp ∨ partL res.data.toList = true) : decide (RightJ (jl lo dom res)) = decide (((joinB lo dom res).size : Int) ≤ 64) := by
  refine decide_eq_decide.2 ⟨fun h => ?_, fun h => ⟨?_, h2, ?_, ?_⟩⟩
  · have := h.2.2.2
    rw [← joinB_list, size_list] at this
    omega
  · exact h1.imp (emp_iff _).1 id
  · exact h3.imp (emp_iff _).1 id
  · rw [← joinB_list, size_list]
    omega
set_option maxRecDepth 100000 in
set_option maxHeartbeats 4000000 in
theorem refright_any (lo dom res : ByteArray) (w : World) (hs : lo.size + dom.size + res.size + 2 ≤ 9223372036854775807) : Calls Tryd.prog 71 #[.agg #[.string lo, .string dom, .string res]] w fun e w' => e = .returned (.bool (decide (RightJ (jl lo dom res)))) ∧ Below w.heap.size w w' := by
  obtain ⟨rb, hrb⟩ : ∃ rb, decide (RightJ (jl lo dom res)) = rb := ⟨_, rfl⟩
  rw [hrb]
  have HRB := hide hrb
  clear hrb
  obtain ⟨Wa, hWa, aa, ba, za⟩ := newJ w (.string lo) (.string dom) (.string res)
  obtain ⟨c0, c1, c2, _⟩ := cells3 aa
  have H0 := hide ba
  clear aa ba
  have p1 := hide (refpart_any lo Wa (by omega))
  have p2 := hide (refpart_any dom Wa (by omega))
  have p3 := hide (refpart_any res Wa (by omega))
  have p4 := hide (reftext_any lo dom res Wa hs)
  go_enter Tryd.func71, Tryd.ntmps71
  by_cases e1 : lo = emp
  · have n1 : lo.toList.isEmpty = true := emp_empty e1
    have E1 := hide e1
    clear e1
    go_wp2_with fail
    refine p2.out.mono ?_
    rintro e w2 ⟨rfl, hw⟩
    subst hw
    cases q2 : partL dom.data.toList with
    | false =>
      have HF := hide (HRB.out.symm.trans (right_dom q2))
      go_wp2_with fail
      go_ret
      rw [HF.out]
      exact ⟨rfl, H0.out⟩
    | true =>
      by_cases e3 : res = emp
      · have n3 : res.toList.isEmpty = true := emp_empty e3
        have E3 := hide e3
        clear e3
        have HP := hide (And.intro ((Or.inl E1.out : lo = emp ∨ partL lo.data.toList = true)) (And.intro q2 (Or.inl E3.out : res = emp ∨ partL res.data.toList = true)))
        clear q2
        by_cases s1 : (lo.size : Int) ≤ 64
        · have t1 : decide ((lo.size : Int) ≤ 64) = true := decide_eq_true s1
          by_cases s2 : (dom.size : Int) ≤ 64
          · have t2 : decide ((dom.size : Int) ≤ 64) = true := decide_eq_true s2
            by_cases s3 : (res.size : Int) ≤ 64
            · have t3 : decide ((res.size : Int) ≤ 64) = true := decide_eq_true s3
              go_wp2_with fail
              refine p4.out.mono ?_
              rintro e w4 ⟨rfl, hb4⟩
              have HB4 := hide (H0.out.trans (hb4.mono (by omega)))
              have hjz := joinB_size lo dom res
              have HF := hide (HRB.out.symm.trans (right_all HP.out.1 HP.out.2.1 HP.out.2.2))
              clear hb4
              go_wp2_with fail
              go_ret
              rw [HF.out]
              exact ⟨rfl, HB4.out⟩
            · have t3 : decide ((res.size : Int) ≤ 64) = false := decide_eq_false s3
              have HF := hide (HRB.out.symm.trans (right_big (by omega)))
              go_wp2_with fail
              go_ret
              rw [HF.out]
              exact ⟨rfl, H0.out⟩
          · have t2 : decide ((dom.size : Int) ≤ 64) = false := decide_eq_false s2
            have HF := hide (HRB.out.symm.trans (right_big (by omega)))
            go_wp2_with fail
            go_ret
            rw [HF.out]
            exact ⟨rfl, H0.out⟩
        · have t1 : decide ((lo.size : Int) ≤ 64) = false := decide_eq_false s1
          have HF := hide (HRB.out.symm.trans (right_big (by omega)))
          go_wp2_with fail
          go_ret
          rw [HF.out]
          exact ⟨rfl, H0.out⟩
      · have n3 := ne_empty e3
        go_wp2_with fail
        refine p3.out.mono ?_
        rintro e w3 ⟨rfl, hw⟩
        subst hw
        cases q3 : partL res.data.toList with
        | false =>
          have HF := hide (HRB.out.symm.trans (right_res e3 q3))
          go_wp2_with fail
          go_ret
          rw [HF.out]
          exact ⟨rfl, H0.out⟩
        | true =>
          have HP := hide (And.intro ((Or.inl E1.out : lo = emp ∨ partL lo.data.toList = true)) (And.intro q2 (Or.inr q3 : res = emp ∨ partL res.data.toList = true)))
          clear q2 q3 e3
          by_cases s1 : (lo.size : Int) ≤ 64
          · have t1 : decide ((lo.size : Int) ≤ 64) = true := decide_eq_true s1
            by_cases s2 : (dom.size : Int) ≤ 64
            · have t2 : decide ((dom.size : Int) ≤ 64) = true := decide_eq_true s2
              by_cases s3 : (res.size : Int) ≤ 64
              · have t3 : decide ((res.size : Int) ≤ 64) = true := decide_eq_true s3
                go_wp2_with fail
                refine p4.out.mono ?_
                rintro e w4 ⟨rfl, hb4⟩
                have HB4 := hide (H0.out.trans (hb4.mono (by omega)))
                have hjz := joinB_size lo dom res
                have HF := hide (HRB.out.symm.trans (right_all HP.out.1 HP.out.2.1 HP.out.2.2))
                clear hb4
                go_wp2_with fail
                go_ret
                rw [HF.out]
                exact ⟨rfl, HB4.out⟩
              · have t3 : decide ((res.size : Int) ≤ 64) = false := decide_eq_false s3
                have HF := hide (HRB.out.symm.trans (right_big (by omega)))
                go_wp2_with fail
                go_ret
                rw [HF.out]
                exact ⟨rfl, H0.out⟩
            · have t2 : decide ((dom.size : Int) ≤ 64) = false := decide_eq_false s2
              have HF := hide (HRB.out.symm.trans (right_big (by omega)))
              go_wp2_with fail
              go_ret
              rw [HF.out]
              exact ⟨rfl, H0.out⟩
          · have t1 : decide ((lo.size : Int) ≤ 64) = false := decide_eq_false s1
            have HF := hide (HRB.out.symm.trans (right_big (by omega)))
            go_wp2_with fail
            go_ret
            rw [HF.out]
            exact ⟨rfl, H0.out⟩
  · have n1 := ne_empty e1
    go_wp2_with fail
    refine p1.out.mono ?_
    rintro e w1 ⟨rfl, hw⟩
    subst hw
    cases q1 : partL lo.data.toList with
    | false =>
      have HF := hide (HRB.out.symm.trans (right_lo e1 q1))
      go_wp2_with fail
      go_ret
      rw [HF.out]
      exact ⟨rfl, H0.out⟩
    | true =>
      go_wp2_with fail
      refine p2.out.mono ?_
      rintro e w2 ⟨rfl, hw⟩
      subst hw
      cases q2 : partL dom.data.toList with
      | false =>
        have HF := hide (HRB.out.symm.trans (right_dom q2))
        go_wp2_with fail
        go_ret
        rw [HF.out]
        exact ⟨rfl, H0.out⟩
      | true =>
        by_cases e3 : res = emp
        · have n3 : res.toList.isEmpty = true := emp_empty e3
          have E3 := hide e3
          clear e3
          have HP := hide (And.intro ((Or.inr q1 : lo = emp ∨ partL lo.data.toList = true)) (And.intro q2 (Or.inl E3.out : res = emp ∨ partL res.data.toList = true)))
          clear q2
          by_cases s1 : (lo.size : Int) ≤ 64
          · have t1 : decide ((lo.size : Int) ≤ 64) = true := decide_eq_true s1
            by_cases s2 : (dom.size : Int) ≤ 64
            · have t2 : decide ((dom.size : Int) ≤ 64) = true := decide_eq_true s2
              by_cases s3 : (res.size : Int) ≤ 64
              · have t3 : decide ((res.size : Int) ≤ 64) = true := decide_eq_true s3
                go_wp2_with fail
                refine p4.out.mono ?_
                rintro e w4 ⟨rfl, hb4⟩
                have HB4 := hide (H0.out.trans (hb4.mono (by omega)))
                have hjz := joinB_size lo dom res
                have HF := hide (HRB.out.symm.trans (right_all HP.out.1 HP.out.2.1 HP.out.2.2))
                clear hb4
                go_wp2_with fail
                go_ret
                rw [HF.out]
                exact ⟨rfl, HB4.out⟩
              · have t3 : decide ((res.size : Int) ≤ 64) = false := decide_eq_false s3
                have HF := hide (HRB.out.symm.trans (right_big (by omega)))
                go_wp2_with fail
                go_ret
                rw [HF.out]
                exact ⟨rfl, H0.out⟩
            · have t2 : decide ((dom.size : Int) ≤ 64) = false := decide_eq_false s2
              have HF := hide (HRB.out.symm.trans (right_big (by omega)))
              go_wp2_with fail
              go_ret
              rw [HF.out]
              exact ⟨rfl, H0.out⟩
          · have t1 : decide ((lo.size : Int) ≤ 64) = false := decide_eq_false s1
            have HF := hide (HRB.out.symm.trans (right_big (by omega)))
            go_wp2_with fail
            go_ret
            rw [HF.out]
            exact ⟨rfl, H0.out⟩
        · have n3 := ne_empty e3
          go_wp2_with fail
          refine p3.out.mono ?_
          rintro e w3 ⟨rfl, hw⟩
          subst hw
          cases q3 : partL res.data.toList with
          | false =>
            have HF := hide (HRB.out.symm.trans (right_res e3 q3))
            go_wp2_with fail
            go_ret
            rw [HF.out]
            exact ⟨rfl, H0.out⟩
          | true =>
            have HP := hide (And.intro ((Or.inr q1 : lo = emp ∨ partL lo.data.toList = true)) (And.intro q2 (Or.inr q3 : res = emp ∨ partL res.data.toList = true)))
            clear q2 q3 e3
            by_cases s1 : (lo.size : Int) ≤ 64
            · have t1 : decide ((lo.size : Int) ≤ 64) = true := decide_eq_true s1
              by_cases s2 : (dom.size : Int) ≤ 64
              · have t2 : decide ((dom.size : Int) ≤ 64) = true := decide_eq_true s2
                by_cases s3 : (res.size : Int) ≤ 64
                · have t3 : decide ((res.size : Int) ≤ 64) = true := decide_eq_true s3
                  go_wp2_with fail
                  refine p4.out.mono ?_
                  rintro e w4 ⟨rfl, hb4⟩
                  have HB4 := hide (H0.out.trans (hb4.mono (by omega)))
                  have hjz := joinB_size lo dom res
                  have HF := hide (HRB.out.symm.trans (right_all HP.out.1 HP.out.2.1 HP.out.2.2))
                  clear hb4
                  go_wp2_with fail
                  go_ret
                  rw [HF.out]
                  exact ⟨rfl, HB4.out⟩
                · have t3 : decide ((res.size : Int) ≤ 64) = false := decide_eq_false s3
                  have HF := hide (HRB.out.symm.trans (right_big (by omega)))
                  go_wp2_with fail
                  go_ret
                  rw [HF.out]
                  exact ⟨rfl, H0.out⟩
              · have t2 : decide ((dom.size : Int) ≤ 64) = false := decide_eq_false s2
                have HF := hide (HRB.out.symm.trans (right_big (by omega)))
                go_wp2_with fail
                go_ret
                rw [HF.out]
                exact ⟨rfl, H0.out⟩
            · have t1 : decide ((lo.size : Int) ≤ 64) = false := decide_eq_false s1
              have HF := hide (HRB.out.symm.trans (right_big (by omega)))
              go_wp2_with fail
              go_ret
              rw [HF.out]
              exact ⟨rfl, H0.out⟩
end Go.Proofs.YtpknifioflagaaaDoor.Jd
namespace Go.Proofs.YtpknifioflagaaaDoor.Jd
open Go.RowKit

theorem ext_list (s : ByteArray) (a b : Nat) : (s.extract a b).data.toList = (s.data.toList.drop a).take (b - a) := by
  rw [ByteArray.data_extract, Array.toList_extract, List.extract_eq_take_drop]
theorem ext_size (s : ByteArray) (a b : Nat) : (s.extract a b).size = min b s.size - a := by
  rw [ByteArray.size_extract]
theorem cut_found {s : ByteArray} {k : Nat} (hp : k < s.size) {q : UInt8} (hq : s[k] = q) (hpre : ∀ (j : Nat) (h : j < s.size), j < k → s[j] ≠ q) : Lib.cut s.data.toList [q] = ((s.extract 0 k).data.toList, (s.extract (k + 1) s.size).data.toList, true) := by
  have hl := size_list s
  have e1 : s.data.toList = s.data.toList.take k ++ q :: s.data.toList.drop (k + 1) := by
    have h1 := List.drop_eq_getElem_cons (l := s.data.toList) (i := k) (by omega)
    have h2 : s.data.toList[k]'(by omega) = q := by
      have h3 := bget s k hp
      rw [List.getElem?_eq_getElem (by omega), hq] at h3
      exact Option.some.inj h3
    rw [h2] at h1
    rw [← h1, List.take_append_drop]
  have hn : q ∉ s.data.toList.take k := by
    intro hm
    obtain ⟨j, hj⟩ := List.getElem?_of_mem hm
    have hjk : j < k := by
      have := (List.getElem?_eq_some_iff.1 hj).1
      rw [List.length_take] at this
      omega
    rw [List.getElem?_take_of_lt hjk, bget s j (by omega)] at hj
    exact hpre j (by omega) hjk (Option.some.inj hj)
  have h := cut_has (s.data.toList.drop (k + 1)) hn
  rw [← e1] at h
  rw [h, ext_list, ext_list]
  simp
  exact (List.take_of_length_le (by rw [List.length_drop, hl]; omega)).symm
theorem cut_missing {s : ByteArray} {q : UInt8} (hpre : ∀ (j : Nat) (h : j < s.size), s[j] ≠ q) : Lib.cut s.data.toList [q] = (s.data.toList, (⟨#[]⟩ : ByteArray).data.toList, false) := by
  refine cut_none (fun hm => ?_)
  obtain ⟨j, hj⟩ := List.getElem?_of_mem hm
  have hlt : j < s.size := by
    have := (List.getElem?_eq_some_iff.1 hj).1
    rw [size_list] at this
    exact this
  rw [bget s j hlt] at hj
  exact hpre j hlt (Option.some.inj hj)
theorem loc_cut_yes {d : List UInt8} {a b : List UInt8} (h : Lib.cut d [64] = (a, b, true)) : ∃ f, locL d = (a, b, f) := by
  unfold locL
  rw [h]
  exact ⟨true, rfl⟩
theorem loc_cut_no {d : List UInt8} {a b : List UInt8} (h : Lib.cut d [64] = (a, b, false)) : ∃ f, locL d = ((⟨#[]⟩ : ByteArray).data.toList, d, f) := by
  unfold locL
  rw [h]
  exact ⟨false, rfl⟩
theorem parse_uniq {s : List UInt8} {F R L M : ByteArray} (h1 : ∃ b, Lib.cut s [47] = (F.data.toList, R.data.toList, b)) (h2 : ∃ f, locL F.data.toList = (L.data.toList, M.data.toList, f)) : ∀ j, parseL s = some j → j = jl L M R := by
  intro j hj
  obtain ⟨b, h1⟩ := h1
  obtain ⟨f, h2⟩ := h2
  unfold parseL at hj
  rw [h1] at hj
  split at hj
  · cases hj
  · split at hj
    · cases hj
    · split at hj
      · cases hj
      · split at hj
        · cases hj
        · cases hj
          show (⟨(locL F.data.toList).1, (locL F.data.toList).2.1, R.data.toList⟩ : JL) = _
          rw [h2]
          rfl

set_option maxRecDepth 100000 in
set_option maxHeartbeats 4000000 in
theorem refparse_any (s : ByteArray) (w : World) (hs : s.size ≤ 4611686018427387903) :
    Calls Tryd.prog 55 #[.string s] w fun e w' => ((∃ j, parseL s.data.toList = some j ∧ e = .returned (.tuple #[jv j, .int .i64 0])) ∨ (parseL s.data.toList = none ∧ e = .returned (.tuple #[jv noJ, .int .i64 3]))) ∧ Below w.heap.size w w' := by
  obtain ⟨Wa, hWa, aa, ba, za⟩ := newJ w (.string ⟨#[]⟩) (.string ⟨#[]⟩) (.string ⟨#[]⟩)
  obtain ⟨Wb, hWb, ab, bb, zb⟩ := newJ Wa (.string ⟨#[]⟩) (.string ⟨#[]⟩) (.string ⟨#[]⟩)
  rw [za] at ab
  have ac := (bb.block w.heap.size (by omega)).trans aa
  have H0 := hide (And.intro ac (And.intro ab (ba.trans (bb.mono (by omega)))))
  obtain ⟨c0, c1, c2, f0, f1, f2⟩ := cells3 ab
  clear aa ba ab bb ac
  go_enter Tryd.func55, Tryd.ntmps55
  go_wp2_with fail
  go_loop [5, 6] (fun f i => ∃ k : Nat, k ≤ s.size ∧ f = .string s ∧ i = .int .i64 k ∧ ∀ (j : Nat) (h : j < s.size), j < k → s[j] ≠ 47) (fun _ i => s.size - (intOf i).toNat)
  case atStart => exact ⟨0, Nat.zero_le _, rfl, rfl, fun j h h' => by omega⟩
  case round =>
    obtain ⟨k, hk, rfl, rfl, hpre⟩ := hrel
    have Hpre := hide hpre
    clear hpre
    by_cases hp : k < s.size
    · by_cases hq : s[k] = 47
      · have hc := cut_found hp hq Hpre.out
        have hq' : ((s[k].toNat : Int) == 47) = true := by rw [hq]; rfl
        have HC := hide hc
        clear hq hc
        have hk1 : (k : Int) + 1 ≤ s.size := by omega
        go_wp2_with fail
        go_region
        all_goals
          obtain ⟨W1, hW1⟩ : ∃ W1, (Wb.setCell ⟨w.heap.size + 1, 2, none⟩ (.string (s.extract (k + 1) s.size))).drew = W1 := ⟨_, rfl⟩
          rw [hW1]
          have k0 : W1.heap[w.heap.size]? = some (.cells #[.string ⟨#[]⟩, .string ⟨#[]⟩, .string ⟨#[]⟩] 47) := by rw [← hW1]; exact (Below.heap_setCell _ _ _ _ (by show w.heap.size ≠ w.heap.size + 1; omega)).trans H0.out.1
          have k1 : W1.heap[w.heap.size + 1]? = some (.cells #[.string ⟨#[]⟩, .string ⟨#[]⟩, .string (s.extract (k + 1) s.size)] 47) := by rw [← hW1]; exact heap_setCell_same _ _ 2 _ _ _ H0.out.2.1
          have kb : Below w.heap.size w W1 := by rw [← hW1]; exact (H0.out.2.2.setCell (p := ⟨_, 2, none⟩) (by show w.heap.size ≤ w.heap.size + 1; omega) _).drew
          have HG := hide (And.intro k0 (And.intro k1 (And.intro kb (And.intro (show ∃ b, Lib.cut s.data.toList [47] = ((s.extract 0 k).data.toList, (s.extract (k + 1) s.size).data.toList, b) from ⟨true, HC.out⟩) (show (s.extract 0 k).size ≤ s.size ∧ (s.extract (k + 1) s.size).size ≤ s.size by rw [ext_size, ext_size]; omega)))))
          clear c0 c1 c2 f0 f1 f2
          obtain ⟨c0, c1, c2, f0, f1, f2⟩ := cells3 k1
          clear k0 k1 kb hW1
          go_wp2_with fail
          obtain ⟨W2, hW2⟩ : ∃ W2, W1.setCell ⟨w.heap.size + 1, 1, none⟩ (.string (s.extract 0 k)) = W2 := ⟨_, rfl⟩
          rw [hW2]
          have k0 : W2.heap[w.heap.size]? = some (.cells #[.string ⟨#[]⟩, .string ⟨#[]⟩, .string ⟨#[]⟩] 47) := by rw [← hW2]; exact (Below.heap_setCell _ _ _ _ (by show w.heap.size ≠ w.heap.size + 1; omega)).trans HG.out.1
          have k1 : W2.heap[w.heap.size + 1]? = some (.cells #[.string ⟨#[]⟩, .string (s.extract 0 k), .string (s.extract (k + 1) s.size)] 47) := by rw [← hW2]; exact heap_setCell_same _ _ 1 _ _ _ HG.out.2.1
          have kb : Below w.heap.size w W2 := by rw [← hW2]; exact HG.out.2.2.1.setCell (p := ⟨_, 1, none⟩) (by show w.heap.size ≤ w.heap.size + 1; omega) _
          have H2 := hide (And.intro k0 (And.intro k1 kb))
          clear c0 c1 c2 f0 f1 f2
          obtain ⟨c0, c1, c2, f0, f1, f2⟩ := cells3 k1
          clear k0 k1 kb hW2
          obtain ⟨F, hF⟩ : ∃ F, s.extract 0 k = F := ⟨_, rfl⟩
          obtain ⟨Rr, hRr⟩ : ∃ Rr, s.extract (k + 1) s.size = Rr := ⟨_, rfl⟩
          rw [hF, hRr] at H2
          rw [hF, hRr] at HG
          rw [hF] at c1
          rw [hRr] at c2
          rw [hF]
          clear hF hRr
          go_loop [7] (fun i => ∃ k : Nat, k ≤ F.size ∧ i = .int .i64 k ∧ ∀ (j : Nat) (h : j < F.size), j < k → F[j] ≠ 64) (fun i => F.size - (intOf i).toNat)
          case atStart => exact ⟨0, Nat.zero_le _, rfl, fun j h h' => by omega⟩
          case round =>
            obtain ⟨m, hm, rfl, hpre2⟩ := hrel
            have hFz := HG.out.2.2.2.2
            by_cases hp2 : m < F.size
            · by_cases hq2 : F[m] = 64
              · have hc2 := cut_found hp2 hq2 hpre2
                have hq2' : ((F[m].toNat : Int) == 64) = true := by rw [hq2]; rfl
                have HC2 := hide hc2
                clear hq2 hpre2 hc2
                have hm1 : (m : Int) + 1 ≤ F.size := by omega
                go_wp2_with fail
                go_region
                all_goals
                  obtain ⟨W3, hW3⟩ : ∃ W3, ((W2.setCell ⟨w.heap.size + 1, 0, none⟩ (.string (F.extract 0 m))).setCell ⟨w.heap.size + 1, 1, none⟩ (.string (F.extract (m + 1) F.size))).drew = W3 := ⟨_, rfl⟩
                  rw [hW3]
                  have k0 : W3.heap[w.heap.size]? = some (.cells #[.string ⟨#[]⟩, .string ⟨#[]⟩, .string ⟨#[]⟩] 47) := by rw [← hW3]; exact set01_off H2.out.1 (b := w.heap.size + 1) (by omega) _ _
                  have k1 : W3.heap[w.heap.size + 1]? = some (.cells #[.string (F.extract 0 m), .string (F.extract (m + 1) F.size), .string Rr] 47) := by rw [← hW3]; exact set01 H2.out.2.1 (.string (F.extract 0 m)) (.string (F.extract (m + 1) F.size))
                  have kb : Below w.heap.size w W3 := by rw [← hW3]; exact (below01 H2.out.2.2 (b := w.heap.size + 1) (by omega) _ _).drew
                  have hU := parse_uniq HG.out.2.2.2.1 (loc_cut_yes HC2.out)
                  have HT := hide (And.intro k0 (And.intro k1 (And.intro kb (And.intro hU (show (F.extract 0 m).size + (F.extract (m + 1) F.size).size + Rr.size ≤ 3 * s.size by rw [ext_size, ext_size]; omega)))))
                  clear k0 k1 kb hU hW3 c0 c1 c2 f0 f1 f2
                  obtain ⟨c0, c1, c2, f0, f1, f2⟩ := cells3 HT.out.2.1
                  obtain ⟨r0, r1, r2, s0, s1, s2⟩ := cells3 HT.out.1
                  by_cases h64 : 64 < (s.size : Int)
                  · have HE := hide (show parseL s.data.toList = none by unfold parseL; rw [if_pos (by rw [size_list]; omega)])
                    go_wp2_with fail
                    obtain ⟨d0, d1, d2, _⟩ := cells3 (set3 HT.out.1 (.string ⟨#[]⟩) (.string ⟨#[]⟩) (.string ⟨#[]⟩))
                    refine bodyPost_ret (results_jid2 rfl rfl rfl d0 d1 d2) rfl ⟨.inr ⟨HE.out, rfl⟩, ?_⟩
                    exact ((HT.out.2.2.1.setCell (p := ⟨_, 0, none⟩) (Nat.le_refl _) _).setCell (p := ⟨_, 1, none⟩) (Nat.le_refl _) _).setCell (p := ⟨_, 2, none⟩) (Nat.le_refl _) _
                  · have hsum : (F.extract 0 m).size + (F.extract (m + 1) F.size).size + (Rr).size + 2 ≤ 9223372036854775807 := by have := HT.out.2.2.2.2; omega
                    have hR := hide (refright_any (F.extract 0 m) (F.extract (m + 1) F.size) (Rr) W3 hsum)
                    have hzW := HT.out.2.2.1.size
                    have hlW : w.heap.size + 1 < W3.heap.size := (Array.getElem?_eq_some_iff.1 HT.out.2.1).1
                    go_wp2_with fail
                    refine hR.out.mono ?_
                    rintro e w4 ⟨rfl, hb4⟩
                    have q0 := (hb4.block w.heap.size (by omega)).trans HT.out.1
                    have q1 := (hb4.block (w.heap.size + 1) hlW).trans HT.out.2.1
                    have HQ4 := hide (And.intro q0 (And.intro q1 (HT.out.2.2.1.trans (hb4.mono hzW))))
                    clear c0 c1 c2 f0 f1 f2 r0 r1 r2 s0 s1 s2
                    obtain ⟨c0, c1, c2, f0, f1, f2⟩ := cells3 q1
                    obtain ⟨r0, r1, r2, s0, s1, s2⟩ := cells3 q0
                    have hz4 := hb4.size
                    clear hb4 q0 q1
                    by_cases hRj : RightJ (jl (F.extract 0 m) (F.extract (m + 1) F.size) (Rr))
                    · rw [decide_eq_true hRj]
                      have hX := hide (reftext_any (F.extract 0 m) (F.extract (m + 1) F.size) (Rr) w4 hsum)
                      have HRj := hide hRj
                      clear hRj
                      go_wp2_with fail
                      refine hX.out.mono ?_
                      rintro e w5 ⟨rfl, hb5⟩
                      have q0 := (hb5.block w.heap.size (by omega)).trans HQ4.out.1
                      have q1 := (hb5.block (w.heap.size + 1) (by omega)).trans HQ4.out.2.1
                      have HQ5 := hide (And.intro q0 (And.intro q1 (HQ4.out.2.2.trans (hb5.mono (by omega)))))
                      clear c0 c1 c2 f0 f1 f2 r0 r1 r2 s0 s1 s2
                      obtain ⟨c0, c1, c2, f0, f1, f2⟩ := cells3 q1
                      obtain ⟨r0, r1, r2, s0, s1, s2⟩ := cells3 q0
                      clear hb5 q0 q1
                      have hjl := joinB_list (F.extract 0 m) (F.extract (m + 1) F.size) (Rr)
                      have HJL := hide hjl
                      clear hjl
                      obtain ⟨jb, hjb⟩ : ∃ jb, joinB (F.extract 0 m) (F.extract (m + 1) F.size) (Rr) = jb := ⟨_, rfl⟩
                      have HJB := hide hjb
                      rw [hjb]
                      clear hjb
                      by_cases hjs : jb = s
                      · have HE := hide (show parseL s.data.toList = some (jl (F.extract 0 m) (F.extract (m + 1) F.size) (Rr)) from (parse_iff _ _).2 ⟨HRj.out, by rw [← HJL.out, HJB.out, hjs]⟩)
                        have hjs2 := hjs.symm
                        subst hjs2
                        go_wp2_with fail
                        obtain ⟨d0, d1, d2, _⟩ := cells3 (set3 HQ5.out.1 (.string (F.extract 0 m)) (.string (F.extract (m + 1) F.size)) (.string (Rr)))
                        refine bodyPost_ret (results_jid2 rfl rfl rfl d0 d1 d2) rfl ⟨.inl ⟨_, HE.out, by rw [jv_jl]; rfl⟩, ?_⟩
                        exact ((HQ5.out.2.2.setCell (p := ⟨_, 0, none⟩) (Nat.le_refl _) _).setCell (p := ⟨_, 1, none⟩) (Nat.le_refl _) _).setCell (p := ⟨_, 2, none⟩) (Nat.le_refl _) _
                      · have hne := str_ne hjs
                        have HE := hide (show parseL s.data.toList = none by
                          cases hp' : parseL s.data.toList with
                          | none => rfl
                          | some j' =>
                            have e1 := HT.out.2.2.2.1 j' hp'
                            subst e1
                            exact absurd (str_ext (by rw [← HJB.out, HJL.out]; exact (parse_right hp').2)) hjs)
                        clear hjs
                        go_wp2_with fail
                        obtain ⟨d0, d1, d2, _⟩ := cells3 (set3 HQ5.out.1 (.string ⟨#[]⟩) (.string ⟨#[]⟩) (.string ⟨#[]⟩))
                        refine bodyPost_ret (results_jid2 rfl rfl rfl d0 d1 d2) rfl ⟨.inr ⟨HE.out, rfl⟩, ?_⟩
                        exact ((HQ5.out.2.2.setCell (p := ⟨_, 0, none⟩) (Nat.le_refl _) _).setCell (p := ⟨_, 1, none⟩) (Nat.le_refl _) _).setCell (p := ⟨_, 2, none⟩) (Nat.le_refl _) _
                    · rw [decide_eq_false hRj]
                      have HE := hide (show parseL s.data.toList = none by
                        cases hp' : parseL s.data.toList with
                        | none => rfl
                        | some j' =>
                          have e1 := HT.out.2.2.2.1 j' hp'
                          subst e1
                          exact absurd (parse_right hp').1 hRj)
                      clear hRj
                      go_wp2_with fail
                      obtain ⟨d0, d1, d2, _⟩ := cells3 (set3 HQ4.out.1 (.string ⟨#[]⟩) (.string ⟨#[]⟩) (.string ⟨#[]⟩))
                      refine bodyPost_ret (results_jid2 rfl rfl rfl d0 d1 d2) rfl ⟨.inr ⟨HE.out, rfl⟩, ?_⟩
                      exact ((HQ4.out.2.2.setCell (p := ⟨_, 0, none⟩) (Nat.le_refl _) _).setCell (p := ⟨_, 1, none⟩) (Nat.le_refl _) _).setCell (p := ⟨_, 2, none⟩) (Nat.le_refl _) _
              · have HQ2 := hide hq2
                have Hpre2 := hide hpre2
                have hq2' : ((F[m].toNat : Int) == 64) = false := by
                  rw [beq_eq_false_iff_ne]
                  intro e
                  exact hq2 (UInt8.toNat_inj.1 (by show F[m].toNat = 64; omega))
                clear hq2 hpre2
                go_wp2_with fail
                refine ⟨⟨m + 1, by omega, by go_num, fun j h hj => ?_⟩, by simp [intOf]; omega⟩
                rcases Nat.lt_or_ge j m with h1 | h1
                · exact Hpre2.out j h h1
                · obtain rfl : j = m := by omega
                  exact HQ2.out
            · have hc2 := cut_missing (fun j h => hpre2 j h (by omega))
              have hU := parse_uniq HG.out.2.2.2.1 (loc_cut_no hc2)
              have HT := hide (And.intro H2.out.1 (And.intro H2.out.2.1 (And.intro H2.out.2.2 (And.intro hU (show (⟨#[]⟩ : ByteArray).size + F.size + Rr.size ≤ 3 * s.size by show 0 + _ + _ ≤ _; omega)))))
              clear hc2 hU hpre2 c0 c1 c2 f0 f1 f2
              obtain ⟨c0, c1, c2, f0, f1, f2⟩ := cells3 HT.out.2.1
              obtain ⟨r0, r1, r2, s0, s1, s2⟩ := cells3 HT.out.1
              by_cases h64 : 64 < (s.size : Int)
              · have HE := hide (show parseL s.data.toList = none by unfold parseL; rw [if_pos (by rw [size_list]; omega)])
                go_wp2_with fail
                obtain ⟨d0, d1, d2, _⟩ := cells3 (set3 HT.out.1 (.string ⟨#[]⟩) (.string ⟨#[]⟩) (.string ⟨#[]⟩))
                refine bodyPost_ret (results_jid2 rfl rfl rfl d0 d1 d2) rfl ⟨.inr ⟨HE.out, rfl⟩, ?_⟩
                exact ((HT.out.2.2.1.setCell (p := ⟨_, 0, none⟩) (Nat.le_refl _) _).setCell (p := ⟨_, 1, none⟩) (Nat.le_refl _) _).setCell (p := ⟨_, 2, none⟩) (Nat.le_refl _) _
              · have hsum : ((⟨#[]⟩ : ByteArray)).size + (F).size + (Rr).size + 2 ≤ 9223372036854775807 := by have := HT.out.2.2.2.2; omega
                have hR := hide (refright_any ((⟨#[]⟩ : ByteArray)) (F) (Rr) W2 hsum)
                have hzW := HT.out.2.2.1.size
                have hlW : w.heap.size + 1 < W2.heap.size := (Array.getElem?_eq_some_iff.1 HT.out.2.1).1
                go_wp2_with fail
                refine hR.out.mono ?_
                rintro e w4 ⟨rfl, hb4⟩
                have q0 := (hb4.block w.heap.size (by omega)).trans HT.out.1
                have q1 := (hb4.block (w.heap.size + 1) hlW).trans HT.out.2.1
                have HQ4 := hide (And.intro q0 (And.intro q1 (HT.out.2.2.1.trans (hb4.mono hzW))))
                clear c0 c1 c2 f0 f1 f2 r0 r1 r2 s0 s1 s2
                obtain ⟨c0, c1, c2, f0, f1, f2⟩ := cells3 q1
                obtain ⟨r0, r1, r2, s0, s1, s2⟩ := cells3 q0
                have hz4 := hb4.size
                clear hb4 q0 q1
                by_cases hRj : RightJ (jl ((⟨#[]⟩ : ByteArray)) (F) (Rr))
                · rw [decide_eq_true hRj]
                  have hX := hide (reftext_any ((⟨#[]⟩ : ByteArray)) (F) (Rr) w4 hsum)
                  have HRj := hide hRj
                  clear hRj
                  go_wp2_with fail
                  refine hX.out.mono ?_
                  rintro e w5 ⟨rfl, hb5⟩
                  have q0 := (hb5.block w.heap.size (by omega)).trans HQ4.out.1
                  have q1 := (hb5.block (w.heap.size + 1) (by omega)).trans HQ4.out.2.1
                  have HQ5 := hide (And.intro q0 (And.intro q1 (HQ4.out.2.2.trans (hb5.mono (by omega)))))
                  clear c0 c1 c2 f0 f1 f2 r0 r1 r2 s0 s1 s2
                  obtain ⟨c0, c1, c2, f0, f1, f2⟩ := cells3 q1
                  obtain ⟨r0, r1, r2, s0, s1, s2⟩ := cells3 q0
                  clear hb5 q0 q1
                  have hjl := joinB_list ((⟨#[]⟩ : ByteArray)) (F) (Rr)
                  have HJL := hide hjl
                  clear hjl
                  obtain ⟨jb, hjb⟩ : ∃ jb, joinB ((⟨#[]⟩ : ByteArray)) (F) (Rr) = jb := ⟨_, rfl⟩
                  have HJB := hide hjb
                  rw [hjb]
                  clear hjb
                  by_cases hjs : jb = s
                  · have HE := hide (show parseL s.data.toList = some (jl ((⟨#[]⟩ : ByteArray)) (F) (Rr)) from (parse_iff _ _).2 ⟨HRj.out, by rw [← HJL.out, HJB.out, hjs]⟩)
                    have hjs2 := hjs.symm
                    subst hjs2
                    go_wp2_with fail
                    obtain ⟨d0, d1, d2, _⟩ := cells3 (set3 HQ5.out.1 (.string ((⟨#[]⟩ : ByteArray))) (.string (F)) (.string (Rr)))
                    refine bodyPost_ret (results_jid2 rfl rfl rfl d0 d1 d2) rfl ⟨.inl ⟨_, HE.out, by rw [jv_jl]; rfl⟩, ?_⟩
                    exact ((HQ5.out.2.2.setCell (p := ⟨_, 0, none⟩) (Nat.le_refl _) _).setCell (p := ⟨_, 1, none⟩) (Nat.le_refl _) _).setCell (p := ⟨_, 2, none⟩) (Nat.le_refl _) _
                  · have hne := str_ne hjs
                    have HE := hide (show parseL s.data.toList = none by
                      cases hp' : parseL s.data.toList with
                      | none => rfl
                      | some j' =>
                        have e1 := HT.out.2.2.2.1 j' hp'
                        subst e1
                        exact absurd (str_ext (by rw [← HJB.out, HJL.out]; exact (parse_right hp').2)) hjs)
                    clear hjs
                    go_wp2_with fail
                    obtain ⟨d0, d1, d2, _⟩ := cells3 (set3 HQ5.out.1 (.string ⟨#[]⟩) (.string ⟨#[]⟩) (.string ⟨#[]⟩))
                    refine bodyPost_ret (results_jid2 rfl rfl rfl d0 d1 d2) rfl ⟨.inr ⟨HE.out, rfl⟩, ?_⟩
                    exact ((HQ5.out.2.2.setCell (p := ⟨_, 0, none⟩) (Nat.le_refl _) _).setCell (p := ⟨_, 1, none⟩) (Nat.le_refl _) _).setCell (p := ⟨_, 2, none⟩) (Nat.le_refl _) _
                · rw [decide_eq_false hRj]
                  have HE := hide (show parseL s.data.toList = none by
                    cases hp' : parseL s.data.toList with
                    | none => rfl
                    | some j' =>
                      have e1 := HT.out.2.2.2.1 j' hp'
                      subst e1
                      exact absurd (parse_right hp').1 hRj)
                  clear hRj
                  go_wp2_with fail
                  obtain ⟨d0, d1, d2, _⟩ := cells3 (set3 HQ4.out.1 (.string ⟨#[]⟩) (.string ⟨#[]⟩) (.string ⟨#[]⟩))
                  refine bodyPost_ret (results_jid2 rfl rfl rfl d0 d1 d2) rfl ⟨.inr ⟨HE.out, rfl⟩, ?_⟩
                  exact ((HQ4.out.2.2.setCell (p := ⟨_, 0, none⟩) (Nat.le_refl _) _).setCell (p := ⟨_, 1, none⟩) (Nat.le_refl _) _).setCell (p := ⟨_, 2, none⟩) (Nat.le_refl _) _
      · have HQ := hide hq
        have hq' : ((s[k].toNat : Int) == 47) = false := by
          rw [beq_eq_false_iff_ne]
          intro e
          exact hq (UInt8.toNat_inj.1 (by show s[k].toNat = 47; omega))
        clear hq
        go_wp2_with fail
        refine ⟨⟨k + 1, by omega, rfl, by go_num, fun j h hj => ?_⟩, by simp [intOf]; omega⟩
        rcases Nat.lt_or_ge j k with h1 | h1
        · exact Hpre.out j h h1
        · obtain rfl : j = k := by omega
          exact HQ.out
    · have hc := cut_missing (fun j h => Hpre.out j h (by omega))
      have HG := hide (And.intro H0.out.1 (And.intro H0.out.2.1 (And.intro H0.out.2.2 (And.intro (show ∃ b, Lib.cut s.data.toList [47] = (s.data.toList, (⟨#[]⟩ : ByteArray).data.toList, b) from ⟨false, hc⟩) (show s.size ≤ s.size ∧ (⟨#[]⟩ : ByteArray).size ≤ s.size from ⟨Nat.le_refl _, Nat.zero_le _⟩)))))
      clear hc
      go_wp2_with fail
      obtain ⟨W2, hW2⟩ : ∃ W2, Wb.setCell ⟨w.heap.size + 1, 1, none⟩ (.string (s)) = W2 := ⟨_, rfl⟩
      rw [hW2]
      have k0 : W2.heap[w.heap.size]? = some (.cells #[.string ⟨#[]⟩, .string ⟨#[]⟩, .string ⟨#[]⟩] 47) := by rw [← hW2]; exact (Below.heap_setCell _ _ _ _ (by show w.heap.size ≠ w.heap.size + 1; omega)).trans HG.out.1
      have k1 : W2.heap[w.heap.size + 1]? = some (.cells #[.string ⟨#[]⟩, .string (s), .string ((⟨#[]⟩ : ByteArray))] 47) := by rw [← hW2]; exact heap_setCell_same _ _ 1 _ _ _ HG.out.2.1
      have kb : Below w.heap.size w W2 := by rw [← hW2]; exact HG.out.2.2.1.setCell (p := ⟨_, 1, none⟩) (by show w.heap.size ≤ w.heap.size + 1; omega) _
      have H2 := hide (And.intro k0 (And.intro k1 kb))
      clear c0 c1 c2 f0 f1 f2
      obtain ⟨c0, c1, c2, f0, f1, f2⟩ := cells3 k1
      clear k0 k1 kb hW2
      go_loop [7] (fun i => ∃ k : Nat, k ≤ s.size ∧ i = .int .i64 k ∧ ∀ (j : Nat) (h : j < s.size), j < k → s[j] ≠ 64) (fun i => s.size - (intOf i).toNat)
      case atStart => exact ⟨0, Nat.zero_le _, rfl, fun j h h' => by omega⟩
      case round =>
        obtain ⟨m, hm, rfl, hpre2⟩ := hrel
        have hFz := HG.out.2.2.2.2
        by_cases hp2 : m < s.size
        · by_cases hq2 : s[m] = 64
          · have hc2 := cut_found hp2 hq2 hpre2
            have hq2' : ((s[m].toNat : Int) == 64) = true := by rw [hq2]; rfl
            have HC2 := hide hc2
            clear hq2 hpre2 hc2
            have hm1 : (m : Int) + 1 ≤ s.size := by omega
            go_wp2_with fail
            go_region
            all_goals
              obtain ⟨W3, hW3⟩ : ∃ W3, ((W2.setCell ⟨w.heap.size + 1, 0, none⟩ (.string (s.extract 0 m))).setCell ⟨w.heap.size + 1, 1, none⟩ (.string (s.extract (m + 1) s.size))).drew = W3 := ⟨_, rfl⟩
              rw [hW3]
              have k0 : W3.heap[w.heap.size]? = some (.cells #[.string ⟨#[]⟩, .string ⟨#[]⟩, .string ⟨#[]⟩] 47) := by rw [← hW3]; exact set01_off H2.out.1 (b := w.heap.size + 1) (by omega) _ _
              have k1 : W3.heap[w.heap.size + 1]? = some (.cells #[.string (s.extract 0 m), .string (s.extract (m + 1) s.size), .string (⟨#[]⟩ : ByteArray)] 47) := by rw [← hW3]; exact set01 H2.out.2.1 (.string (s.extract 0 m)) (.string (s.extract (m + 1) s.size))
              have kb : Below w.heap.size w W3 := by rw [← hW3]; exact (below01 H2.out.2.2 (b := w.heap.size + 1) (by omega) _ _).drew
              have hU := parse_uniq (R := ⟨#[]⟩) HG.out.2.2.2.1 (loc_cut_yes HC2.out)
              have HT := hide (And.intro k0 (And.intro k1 (And.intro kb (And.intro hU (show (s.extract 0 m).size + (s.extract (m + 1) s.size).size + (⟨#[]⟩ : ByteArray).size ≤ 3 * s.size by rw [ext_size, ext_size]; show _ + _ + 0 ≤ _; omega)))))
              clear k0 k1 kb hU hW3 c0 c1 c2 f0 f1 f2
              obtain ⟨c0, c1, c2, f0, f1, f2⟩ := cells3 HT.out.2.1
              obtain ⟨r0, r1, r2, s0, s1, s2⟩ := cells3 HT.out.1
              by_cases h64 : 64 < (s.size : Int)
              · have HE := hide (show parseL s.data.toList = none by unfold parseL; rw [if_pos (by rw [size_list]; omega)])
                go_wp2_with fail
                obtain ⟨d0, d1, d2, _⟩ := cells3 (set3 HT.out.1 (.string ⟨#[]⟩) (.string ⟨#[]⟩) (.string ⟨#[]⟩))
                refine bodyPost_ret (results_jid2 rfl rfl rfl d0 d1 d2) rfl ⟨.inr ⟨HE.out, rfl⟩, ?_⟩
                exact ((HT.out.2.2.1.setCell (p := ⟨_, 0, none⟩) (Nat.le_refl _) _).setCell (p := ⟨_, 1, none⟩) (Nat.le_refl _) _).setCell (p := ⟨_, 2, none⟩) (Nat.le_refl _) _
              · have hsum : (s.extract 0 m).size + (s.extract (m + 1) s.size).size + (⟨#[]⟩ : ByteArray).size + 2 ≤ 9223372036854775807 := by have := HT.out.2.2.2.2; omega
                have hR := hide (refright_any (s.extract 0 m) (s.extract (m + 1) s.size) (⟨#[]⟩ : ByteArray) W3 hsum)
                have hzW := HT.out.2.2.1.size
                have hlW : w.heap.size + 1 < W3.heap.size := (Array.getElem?_eq_some_iff.1 HT.out.2.1).1
                go_wp2_with fail
                refine hR.out.mono ?_
                rintro e w4 ⟨rfl, hb4⟩
                have q0 := (hb4.block w.heap.size (by omega)).trans HT.out.1
                have q1 := (hb4.block (w.heap.size + 1) hlW).trans HT.out.2.1
                have HQ4 := hide (And.intro q0 (And.intro q1 (HT.out.2.2.1.trans (hb4.mono hzW))))
                clear c0 c1 c2 f0 f1 f2 r0 r1 r2 s0 s1 s2
                obtain ⟨c0, c1, c2, f0, f1, f2⟩ := cells3 q1
                obtain ⟨r0, r1, r2, s0, s1, s2⟩ := cells3 q0
                have hz4 := hb4.size
                clear hb4 q0 q1
                by_cases hRj : RightJ (jl (s.extract 0 m) (s.extract (m + 1) s.size) (⟨#[]⟩ : ByteArray))
                · rw [decide_eq_true hRj]
                  have hX := hide (reftext_any (s.extract 0 m) (s.extract (m + 1) s.size) (⟨#[]⟩ : ByteArray) w4 hsum)
                  have HRj := hide hRj
                  clear hRj
                  go_wp2_with fail
                  refine hX.out.mono ?_
                  rintro e w5 ⟨rfl, hb5⟩
                  have q0 := (hb5.block w.heap.size (by omega)).trans HQ4.out.1
                  have q1 := (hb5.block (w.heap.size + 1) (by omega)).trans HQ4.out.2.1
                  have HQ5 := hide (And.intro q0 (And.intro q1 (HQ4.out.2.2.trans (hb5.mono (by omega)))))
                  clear c0 c1 c2 f0 f1 f2 r0 r1 r2 s0 s1 s2
                  obtain ⟨c0, c1, c2, f0, f1, f2⟩ := cells3 q1
                  obtain ⟨r0, r1, r2, s0, s1, s2⟩ := cells3 q0
                  clear hb5 q0 q1
                  have hjl := joinB_list (s.extract 0 m) (s.extract (m + 1) s.size) (⟨#[]⟩ : ByteArray)
                  have HJL := hide hjl
                  clear hjl
                  obtain ⟨jb, hjb⟩ : ∃ jb, joinB (s.extract 0 m) (s.extract (m + 1) s.size) (⟨#[]⟩ : ByteArray) = jb := ⟨_, rfl⟩
                  have HJB := hide hjb
                  rw [hjb]
                  clear hjb
                  by_cases hjs : jb = s
                  · have HE := hide (show parseL s.data.toList = some (jl (s.extract 0 m) (s.extract (m + 1) s.size) (⟨#[]⟩ : ByteArray)) from (parse_iff _ _).2 ⟨HRj.out, by rw [← HJL.out, HJB.out, hjs]⟩)
                    have hjs2 := hjs.symm
                    subst hjs2
                    go_wp2_with fail
                    obtain ⟨d0, d1, d2, _⟩ := cells3 (set3 HQ5.out.1 (.string (s.extract 0 m)) (.string (s.extract (m + 1) s.size)) (.string (⟨#[]⟩ : ByteArray)))
                    refine bodyPost_ret (results_jid2 rfl rfl rfl d0 d1 d2) rfl ⟨.inl ⟨_, HE.out, by rw [jv_jl]; rfl⟩, ?_⟩
                    exact ((HQ5.out.2.2.setCell (p := ⟨_, 0, none⟩) (Nat.le_refl _) _).setCell (p := ⟨_, 1, none⟩) (Nat.le_refl _) _).setCell (p := ⟨_, 2, none⟩) (Nat.le_refl _) _
                  · have hne := str_ne hjs
                    have HE := hide (show parseL s.data.toList = none by
                      cases hp' : parseL s.data.toList with
                      | none => rfl
                      | some j' =>
                        have e1 := HT.out.2.2.2.1 j' hp'
                        subst e1
                        exact absurd (str_ext (by rw [← HJB.out, HJL.out]; exact (parse_right hp').2)) hjs)
                    clear hjs
                    go_wp2_with fail
                    obtain ⟨d0, d1, d2, _⟩ := cells3 (set3 HQ5.out.1 (.string ⟨#[]⟩) (.string ⟨#[]⟩) (.string ⟨#[]⟩))
                    refine bodyPost_ret (results_jid2 rfl rfl rfl d0 d1 d2) rfl ⟨.inr ⟨HE.out, rfl⟩, ?_⟩
                    exact ((HQ5.out.2.2.setCell (p := ⟨_, 0, none⟩) (Nat.le_refl _) _).setCell (p := ⟨_, 1, none⟩) (Nat.le_refl _) _).setCell (p := ⟨_, 2, none⟩) (Nat.le_refl _) _
                · rw [decide_eq_false hRj]
                  have HE := hide (show parseL s.data.toList = none by
                    cases hp' : parseL s.data.toList with
                    | none => rfl
                    | some j' =>
                      have e1 := HT.out.2.2.2.1 j' hp'
                      subst e1
                      exact absurd (parse_right hp').1 hRj)
                  clear hRj
                  go_wp2_with fail
                  obtain ⟨d0, d1, d2, _⟩ := cells3 (set3 HQ4.out.1 (.string ⟨#[]⟩) (.string ⟨#[]⟩) (.string ⟨#[]⟩))
                  refine bodyPost_ret (results_jid2 rfl rfl rfl d0 d1 d2) rfl ⟨.inr ⟨HE.out, rfl⟩, ?_⟩
                  exact ((HQ4.out.2.2.setCell (p := ⟨_, 0, none⟩) (Nat.le_refl _) _).setCell (p := ⟨_, 1, none⟩) (Nat.le_refl _) _).setCell (p := ⟨_, 2, none⟩) (Nat.le_refl _) _
          · have HQ2 := hide hq2
            have Hpre2 := hide hpre2
            have hq2' : ((s[m].toNat : Int) == 64) = false := by
              rw [beq_eq_false_iff_ne]
              intro e
              exact hq2 (UInt8.toNat_inj.1 (by show s[m].toNat = 64; omega))
            clear hq2 hpre2
            go_wp2_with fail
            refine ⟨⟨m + 1, by omega, by go_num, fun j h hj => ?_⟩, by simp [intOf]; omega⟩
            rcases Nat.lt_or_ge j m with h1 | h1
            · exact Hpre2.out j h h1
            · obtain rfl : j = m := by omega
              exact HQ2.out
        · have hc2 := cut_missing (fun j h => hpre2 j h (by omega))
          have hU := parse_uniq (R := ⟨#[]⟩) HG.out.2.2.2.1 (loc_cut_no hc2)
          have HT := hide (And.intro H2.out.1 (And.intro H2.out.2.1 (And.intro H2.out.2.2 (And.intro hU (show (⟨#[]⟩ : ByteArray).size + s.size + (⟨#[]⟩ : ByteArray).size ≤ 3 * s.size by show 0 + _ + 0 ≤ _; omega)))))
          clear hc2 hU hpre2 c0 c1 c2 f0 f1 f2
          obtain ⟨c0, c1, c2, f0, f1, f2⟩ := cells3 HT.out.2.1
          obtain ⟨r0, r1, r2, s0, s1, s2⟩ := cells3 HT.out.1
          by_cases h64 : 64 < (s.size : Int)
          · have HE := hide (show parseL s.data.toList = none by unfold parseL; rw [if_pos (by rw [size_list]; omega)])
            go_wp2_with fail
            obtain ⟨d0, d1, d2, _⟩ := cells3 (set3 HT.out.1 (.string ⟨#[]⟩) (.string ⟨#[]⟩) (.string ⟨#[]⟩))
            refine bodyPost_ret (results_jid2 rfl rfl rfl d0 d1 d2) rfl ⟨.inr ⟨HE.out, rfl⟩, ?_⟩
            exact ((HT.out.2.2.1.setCell (p := ⟨_, 0, none⟩) (Nat.le_refl _) _).setCell (p := ⟨_, 1, none⟩) (Nat.le_refl _) _).setCell (p := ⟨_, 2, none⟩) (Nat.le_refl _) _
          · have hsum : (⟨#[]⟩ : ByteArray).size + (s).size + (⟨#[]⟩ : ByteArray).size + 2 ≤ 9223372036854775807 := by have := HT.out.2.2.2.2; omega
            have hR := hide (refright_any (⟨#[]⟩ : ByteArray) (s) (⟨#[]⟩ : ByteArray) W2 hsum)
            have hzW := HT.out.2.2.1.size
            have hlW : w.heap.size + 1 < W2.heap.size := (Array.getElem?_eq_some_iff.1 HT.out.2.1).1
            go_wp2_with fail
            refine hR.out.mono ?_
            rintro e w4 ⟨rfl, hb4⟩
            have q0 := (hb4.block w.heap.size (by omega)).trans HT.out.1
            have q1 := (hb4.block (w.heap.size + 1) hlW).trans HT.out.2.1
            have HQ4 := hide (And.intro q0 (And.intro q1 (HT.out.2.2.1.trans (hb4.mono hzW))))
            clear c0 c1 c2 f0 f1 f2 r0 r1 r2 s0 s1 s2
            obtain ⟨c0, c1, c2, f0, f1, f2⟩ := cells3 q1
            obtain ⟨r0, r1, r2, s0, s1, s2⟩ := cells3 q0
            have hz4 := hb4.size
            clear hb4 q0 q1
            by_cases hRj : RightJ (jl (⟨#[]⟩ : ByteArray) (s) (⟨#[]⟩ : ByteArray))
            · rw [decide_eq_true hRj]
              have hX := hide (reftext_any (⟨#[]⟩ : ByteArray) (s) (⟨#[]⟩ : ByteArray) w4 hsum)
              have HRj := hide hRj
              clear hRj
              go_wp2_with fail
              refine hX.out.mono ?_
              rintro e w5 ⟨rfl, hb5⟩
              have q0 := (hb5.block w.heap.size (by omega)).trans HQ4.out.1
              have q1 := (hb5.block (w.heap.size + 1) (by omega)).trans HQ4.out.2.1
              have HQ5 := hide (And.intro q0 (And.intro q1 (HQ4.out.2.2.trans (hb5.mono (by omega)))))
              clear c0 c1 c2 f0 f1 f2 r0 r1 r2 s0 s1 s2
              obtain ⟨c0, c1, c2, f0, f1, f2⟩ := cells3 q1
              obtain ⟨r0, r1, r2, s0, s1, s2⟩ := cells3 q0
              clear hb5 q0 q1
              have hjl := joinB_list (⟨#[]⟩ : ByteArray) (s) (⟨#[]⟩ : ByteArray)
              have HJL := hide hjl
              clear hjl
              obtain ⟨jb, hjb⟩ : ∃ jb, joinB (⟨#[]⟩ : ByteArray) (s) (⟨#[]⟩ : ByteArray) = jb := ⟨_, rfl⟩
              have HJB := hide hjb
              rw [hjb]
              clear hjb
              by_cases hjs : jb = s
              · have HE := hide (show parseL s.data.toList = some (jl (⟨#[]⟩ : ByteArray) (s) (⟨#[]⟩ : ByteArray)) from (parse_iff _ _).2 ⟨HRj.out, by rw [← HJL.out, HJB.out, hjs]⟩)
                have hjs2 := hjs.symm
                subst hjs2
                go_wp2_with fail
                obtain ⟨d0, d1, d2, _⟩ := cells3 (set3 HQ5.out.1 (.string (⟨#[]⟩ : ByteArray)) (.string (s)) (.string (⟨#[]⟩ : ByteArray)))
                refine bodyPost_ret (results_jid2 rfl rfl rfl d0 d1 d2) rfl ⟨.inl ⟨_, HE.out, by rw [jv_jl]; rfl⟩, ?_⟩
                exact ((HQ5.out.2.2.setCell (p := ⟨_, 0, none⟩) (Nat.le_refl _) _).setCell (p := ⟨_, 1, none⟩) (Nat.le_refl _) _).setCell (p := ⟨_, 2, none⟩) (Nat.le_refl _) _
              · have hne := str_ne hjs
                have HE := hide (show parseL s.data.toList = none by
                  cases hp' : parseL s.data.toList with
                  | none => rfl
                  | some j' =>
                    have e1 := HT.out.2.2.2.1 j' hp'
                    subst e1
                    exact absurd (str_ext (by rw [← HJB.out, HJL.out]; exact (parse_right hp').2)) hjs)
                clear hjs
                go_wp2_with fail
                obtain ⟨d0, d1, d2, _⟩ := cells3 (set3 HQ5.out.1 (.string ⟨#[]⟩) (.string ⟨#[]⟩) (.string ⟨#[]⟩))
                refine bodyPost_ret (results_jid2 rfl rfl rfl d0 d1 d2) rfl ⟨.inr ⟨HE.out, rfl⟩, ?_⟩
                exact ((HQ5.out.2.2.setCell (p := ⟨_, 0, none⟩) (Nat.le_refl _) _).setCell (p := ⟨_, 1, none⟩) (Nat.le_refl _) _).setCell (p := ⟨_, 2, none⟩) (Nat.le_refl _) _
            · rw [decide_eq_false hRj]
              have HE := hide (show parseL s.data.toList = none by
                cases hp' : parseL s.data.toList with
                | none => rfl
                | some j' =>
                  have e1 := HT.out.2.2.2.1 j' hp'
                  subst e1
                  exact absurd (parse_right hp').1 hRj)
              clear hRj
              go_wp2_with fail
              obtain ⟨d0, d1, d2, _⟩ := cells3 (set3 HQ4.out.1 (.string ⟨#[]⟩) (.string ⟨#[]⟩) (.string ⟨#[]⟩))
              refine bodyPost_ret (results_jid2 rfl rfl rfl d0 d1 d2) rfl ⟨.inr ⟨HE.out, rfl⟩, ?_⟩
              exact ((HQ4.out.2.2.setCell (p := ⟨_, 0, none⟩) (Nat.le_refl _) _).setCell (p := ⟨_, 1, none⟩) (Nat.le_refl _) _).setCell (p := ⟨_, 2, none⟩) (Nat.le_refl _) _
end Go.Proofs.YtpknifioflagaaaDoor.Jd
