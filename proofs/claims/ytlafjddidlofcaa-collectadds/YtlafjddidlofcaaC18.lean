/- The document's Add. -/
import Derived.Test.YtlafjddidlofcaaC17
namespace Go.Proofs.Ytlafjddidlofcaa
open Go.RowKit Go.Shelf

set_option maxRecDepth 100000 in
set_option maxHeartbeats 8000000 in
theorem rAdd_ok (ao : Option Addr) (cap : Nat) (l : List Pr) (s t : ByteArray) (w : World) (hm : EdMem w.heap.size w ao l) (hok : ¬ AddBad l s t ∧ ¬ AddCyc l s t ∧ ¬ (pOf l s = none ∧ 64 ≤ l.length)) :
    Calls Try.prog 10 #[.slice ao l.length cap, .string s, .string t] w fun e w' => ∃ v, e = .returned (.tuple #[v, .int .i64 0]) ∧ w'.ownsRow w.heap.size 47 2 v (putM l s t).length (edC (putM l s t)) ∧ Below w.heap.size w w' := by
  obtain ⟨hr, hs, ht, hst, hab, hfull⟩ := ok_parts.1 hok
  have hlen := hr.1
  obtain ⟨m, hml⟩ : ∃ m, l.length = m := ⟨_, rfl⟩
  have hq0 := txt_ne hst
  have han : anyB (aboveL l t) s = false := by
    cases h : anyB (aboveL l t) s with
    | false => rfl
    | true => exact absurd (any_mem.1 h) hab
  have hal : (aboveL l t).length ≤ 1000000 := Nat.le_trans (chain_len _ _ _) hm.1
  have HM := hide (And.intro hm (And.intro hml (And.intro hr.2.2.1 (And.intro han hal))))
  have HR := hide (right_true (cap := cap) hm hr)
  have HA := hide fun (V : World) (hV : EdMem V.heap.size V ao l) => rabove_any ao cap l t V hV
  cases hp : pOf l s with
  | none =>
    have HP := hide fun (V : World) (hV : EdMem V.heap.size V ao l) => rparent_none (cap := cap) hV hp
    have hm64 : ¬ (64 ≤ l.length) := fun h => hfull ⟨hp, h⟩
    rw [hml] at HR HA HP hlen hm64 ⊢
    have hm64i : ¬ ((64 : Int) ≤ m) := by omega
    clear hm hml hr hok hst hab hfull han hal hp hm64
    go_enter Try.func10, Try.ntmps10
    go_wp2_with (first
      | (go_at_call 16; refine HR.out.mono ?_; rintro e w1 ⟨rfl, b1⟩; have H1 := hide b1; clear b1)
      | (go_at_call 31; refine (HA.out w1 ((HM.out.1.below H1.out).more H1.out.size)).mono ?_; rintro e w2 ⟨v, rfl, y1, b2⟩; have HV := hide (has_any w1.heap.size v _ s w2 y1 HM.out.2.2.2.2); rw [HM.out.2.2.2.1] at HV; have H2 := hide (H1.out.trans (b2.mono H1.out.size)); obtain ⟨gv, cv, rfl⟩ := own_shape y1; clear y1 b2)
      | (go_at_call 30; refine HV.out.mono ?_; rintro e w2' ⟨rfl, hww⟩; rw [hww]; clear hww)
      | (go_at_call 32; refine (HP.out w2 ((HM.out.1.below H2.out).more H2.out.size)).mono ?_; rintro e w2' ⟨rfl, hww⟩; rw [hww]; clear hww))
    go_loopw [10, 11, 12] (fun v p i wr => ∃ (k : Nat) (pb : Bool) (ns : List Pr), k ≤ m ∧ i = .int .i64 k ∧ p = .bool pb ∧ AddL l s t k pb ns ∧ ns.length ≤ k + 1 ∧ wr.ownsRow w.heap.size 47 2 v ns.length (edC ns) ∧ Below w.heap.size w wr) (fun _ _ i _ => m - (intOf i).toNat)
    case atStart => exact ⟨0, false, [], Nat.zero_le _, rfl, rfl, .inl ⟨rfl, fun y hy => by simp at hy, by simp⟩, by simp, World.ownsRow_nil _ _ _ _, H2.out⟩
    case round =>
      obtain ⟨k, pb, ns, hk, rfl, rfl, hA, hnl, hrow, hbw⟩ := hrel
      have hw1 : IntKind.i64.wrap ((k : Int) + 1) = k + 1 := by rw [IntKind.wrap_i64]; omega
      have hwz := hbw.size
      obtain ⟨n4, hn4⟩ : ∃ n4, ns.length = n4 := ⟨_, rfl⟩
      rw [hn4] at hrow hnl
      obtain ⟨ga4, gc4, rfl⟩ := own_shape hrow
      by_cases hlt : k < m
      · have hlti : (k : Int) < m := by omega
        obtain ⟨x, hx⟩ : ∃ x, l[k]? = some x := ⟨l[k]'(by have := HM.out.2.1; omega), by simp⟩
        have htk : l.take (k + 1) = l.take k ++ [x] := by rw [List.take_add_one, hx]; rfl
        have hri : Rising (l.take k ++ [x]) := by rw [← htk]; exact rising_take_any HM.out.2.2.1 _
        obtain ⟨b, off, rfl, hbl, c0, c1⟩ := (HM.out.1.below hbw).2 k x hx
        rcases hA with ⟨rfl, hA1, rfl⟩ | ⟨rfl, hA1, rfl⟩
        · by_cases he : x.1 = s
          · have hq := txt_eq he
            have hq1 := txt_eq he.symm
            have hq2 := less_no (a := s.toList) (b := x.1.toList) (fun h => str_irrefl _ (by rw [he] at h; exact h))
            have hns := put_same (t := t) hri hA1 he
            obtain ⟨n5, ga5, gc5, V5, hn5, hap5, q5, b5⟩ := push_ed (T := 22) (s, t) hn4 hrow hwz (by omega)
            obtain ⟨W5, HW5⟩ : ∃ W3, wr.alloc (.cells #[.string s, .string t] 47) = W3 := ⟨_, rfl⟩
            rw [show ((s, t) : Pr).1 = s from rfl, show ((s, t) : Pr).2 = t from rfl, HW5] at hap5
            have HAp5 := hide hap5
            obtain ⟨b', off', e', _, d0, d1⟩ := (HM.out.1.below (hbw.trans b5)).2 k x hx
            cases e'
            have hA' : AddL l s t (k + 1) true (l.take k ++ [(s, t)]) := .inr ⟨rfl, ⟨x, by rw [htk]; simp, by rw [he]; exact str_irrefl _⟩, by rw [htk]; exact hns⟩
            have hln : (l.take k ++ [(s, t)]).length = n5 := by rw [List.length_append, hn4, hn5]; rfl
            have HI := hide (And.intro q5 (And.intro (hbw.trans b5) (And.intro hA' hln)))
            have h5k : n5 ≤ k + 1 + 1 := by omega
            clear q5 b5 hA' hln hap5 hn5 hn4 hrow hbw hx htk hri hns he hA1 hnl
            go_wp2_with (first | (refine l_val rfl _ (ex_build (us := #[(0, .string s), (1, .string t)]) rfl (by simp [Act.eval]) (run_edge s t _)) ?_; simp only [Act.put, List.setIfInBounds_toArray, List.set_cons_zero, List.set_cons_succ]) | (refine l_val rfl _ (ex_slice (us := #[(0, .agg #[.string s, .string t])]) rfl (by simp [Act.eval]) (run_one s t _)) ?_; rw [HW5]) | (at_builtin; refine l_val rfl _ (ex_append2 (t := 22) (t' := 22) rfl rfl rfl HAp5.out) ?_))
            refine ⟨⟨k + 1, true, l.take k ++ [(s, t)], by omega, by simp, rfl, HI.out.2.2.1, by rw [HI.out.2.2.2]; exact h5k, by rw [HI.out.2.2.2]; exact HI.out.1, HI.out.2.1⟩, by simp [intOf]; omega⟩
          · have hq := txt_ne he
            have hq1 := txt_ne (fun e => he e.symm : ¬ s = x.1)
            by_cases hlt2 : x.1.toList < s.toList
            · have hq2 := less_no (str_asymm hlt2)
              obtain ⟨n5, ga5, gc5, V5, hn5, hap5, q5, b5⟩ := push_ed (T := 22) x hn4 hrow hwz (by omega)
              obtain ⟨W5, HW5⟩ : ∃ W3, wr.alloc (.cells #[.string x.1, .string x.2] 47) = W3 := ⟨_, rfl⟩
              rw [HW5] at hap5
              have HAp5 := hide hap5
              have hA' : AddL l s t (k + 1) false (l.take k ++ [x]) := .inl ⟨rfl, take_step (p := fun y => y.1.toList < s.toList) hA1 hx hlt2, by rw [htk]⟩
              have hln : (l.take k ++ [x]).length = n5 := by rw [List.length_append, hn4, hn5]; rfl
              have HI := hide (And.intro q5 (And.intro (hbw.trans b5) (And.intro hA' hln)))
              have h5k : n5 ≤ k + 1 + 1 := by omega
              clear q5 b5 hA' hln hap5 hn5 hn4 hrow hbw hx htk hri he hA1 hlt2 hnl
              go_wp2_with (first | (refine l_val rfl _ (ex_build (us := #[(0, .string x.1), (1, .string x.2)]) rfl (by simp [Act.eval]) (run_edge x.1 x.2 _)) ?_; simp only [Act.put, List.setIfInBounds_toArray, List.set_cons_zero, List.set_cons_succ]) | (refine l_val rfl _ (ex_slice (us := #[(0, .agg #[.string x.1, .string x.2])]) rfl (by simp [Act.eval]) (run_one x.1 x.2 _)) ?_; rw [HW5]) | (at_builtin; refine l_val rfl _ (ex_append2 (t := 22) (t' := 22) rfl rfl rfl HAp5.out) ?_))
              refine ⟨⟨k + 1, false, l.take k ++ [x], by omega, by simp, rfl, HI.out.2.2.1, by rw [HI.out.2.2.2]; exact h5k, by rw [HI.out.2.2.2]; exact HI.out.1, HI.out.2.1⟩, by simp [intOf]; omega⟩
            · have hlt3 := str_total hlt2 (fun e => he (ba_ext e))
              have hq2 := less_yes hlt3
              have hns := put_ahead (t := t) hri hA1 hlt3
              obtain ⟨n5, ga5, gc5, V5, hn5, hap5, q5, b5⟩ := push_ed (T := 22) (s, t) hn4 hrow hwz (by omega)
              obtain ⟨W5, HW5⟩ : ∃ W3, wr.alloc (.cells #[.string s, .string t] 47) = W3 := ⟨_, rfl⟩
              rw [show ((s, t) : Pr).1 = s from rfl, show ((s, t) : Pr).2 = t from rfl, HW5] at hap5
              have HAp5 := hide hap5
              have hln5 : (l.take k ++ [(s, t)]).length = n5 := by rw [List.length_append, hn4, hn5]; rfl
              have hB5 := hbw.trans b5
              obtain ⟨n6, ga6, gc6, V6, hn6, hap6, q6, b6⟩ := push_ed (T := 22) x hln5 q5 hB5.size (by omega)
              obtain ⟨W6, HW6⟩ : ∃ W3, V5.alloc (.cells #[.string x.1, .string x.2] 47) = W3 := ⟨_, rfl⟩
              rw [HW6] at hap6
              have HAp6 := hide hap6
              obtain ⟨b', off', e', _, d0, d1⟩ := (HM.out.1.below hB5).2 k x hx
              cases e'
              have hA' : AddL l s t (k + 1) true (l.take k ++ [(s, t)] ++ [x]) := .inr ⟨rfl, ⟨x, by rw [htk]; simp, hlt2⟩, by rw [htk]; exact hns⟩
              have hln : (l.take k ++ [(s, t)] ++ [x]).length = n6 := by rw [List.length_append, hln5, hn6]; rfl
              have HI := hide (And.intro q6 (And.intro (hB5.trans b6) (And.intro hA' hln)))
              have h5k : n6 ≤ k + 1 + 1 := by have := HM.out.2.1; have h0 : (l.take k).length = n4 := hn4; rw [List.length_take] at h0; omega
              clear q5 b5 q6 b6 hA' hln hln5 hap5 hap6 hn5 hn6 hn4 hrow hbw hB5 hx htk hri he hA1 hlt2 hlt3 hns hnl
              go_wp2_with (first | (refine l_val rfl _ (ex_build (us := #[(0, .string s), (1, .string t)]) rfl (by simp [Act.eval]) (run_edge s t _)) ?_; simp only [Act.put, List.setIfInBounds_toArray, List.set_cons_zero, List.set_cons_succ]) | (refine l_val rfl _ (ex_slice (us := #[(0, .agg #[.string s, .string t])]) rfl (by simp [Act.eval]) (run_one s t _)) ?_; rw [HW5]) | (at_builtin; refine l_val rfl _ (ex_append2 (t := 22) (t' := 22) rfl rfl rfl HAp5.out) ?_; refine stopHere ?_))
              unfold Hid
              clear HAp5 HW5
              go_wp2_with (first | (refine l_val rfl _ (ex_build (us := #[(0, .string x.1), (1, .string x.2)]) rfl (by simp [Act.eval]) (run_edge x.1 x.2 _)) ?_; simp only [Act.put, List.setIfInBounds_toArray, List.set_cons_zero, List.set_cons_succ]) | (refine l_val rfl _ (ex_slice (us := #[(0, .agg #[.string x.1, .string x.2])]) rfl (by simp [Act.eval]) (run_one x.1 x.2 _)) ?_; rw [HW6]) | (at_builtin; refine l_val rfl _ (ex_append2 (t := 22) (t' := 22) rfl rfl rfl HAp6.out) ?_))
              refine ⟨⟨k + 1, true, l.take k ++ [(s, t)] ++ [x], by omega, by simp, rfl, HI.out.2.2.1, by rw [HI.out.2.2.2]; exact h5k, by rw [HI.out.2.2.2]; exact HI.out.1, HI.out.2.1⟩, by simp [intOf]; omega⟩
        · obtain ⟨hne, hns⟩ := put_behind (t := t) hri hA1
          have hq := txt_ne hne
          obtain ⟨n5, ga5, gc5, V5, hn5, hap5, q5, b5⟩ := push_ed (T := 22) x hn4 hrow hwz (by omega)
          obtain ⟨W5, HW5⟩ : ∃ W3, wr.alloc (.cells #[.string x.1, .string x.2] 47) = W3 := ⟨_, rfl⟩
          rw [HW5] at hap5
          have HAp5 := hide hap5
          have hA' : AddL l s t (k + 1) true (putM (l.take k) s t ++ [x]) := .inr ⟨rfl, (by obtain ⟨y, hy, h⟩ := hA1; exact ⟨y, by rw [htk]; exact List.mem_append.2 (.inl hy), h⟩), by rw [htk]; exact hns⟩
          have hln : (putM (l.take k) s t ++ [x]).length = n5 := by rw [List.length_append, hn4, hn5]; rfl
          have HI := hide (And.intro q5 (And.intro (hbw.trans b5) (And.intro hA' hln)))
          have h5k : n5 ≤ k + 1 + 1 := by omega
          clear q5 b5 hA' hln hap5 hn5 hn4 hrow hbw hx htk hri hne hA1 hns hnl
          go_wp2_with (first | (refine l_val rfl _ (ex_build (us := #[(0, .string x.1), (1, .string x.2)]) rfl (by simp [Act.eval]) (run_edge x.1 x.2 _)) ?_; simp only [Act.put, List.setIfInBounds_toArray, List.set_cons_zero, List.set_cons_succ]) | (refine l_val rfl _ (ex_slice (us := #[(0, .agg #[.string x.1, .string x.2])]) rfl (by simp [Act.eval]) (run_one x.1 x.2 _)) ?_; rw [HW5]) | (at_builtin; refine l_val rfl _ (ex_append2 (t := 22) (t' := 22) rfl rfl rfl HAp5.out) ?_))
          refine ⟨⟨k + 1, true, putM (l.take k) s t ++ [x], by omega, by simp, rfl, HI.out.2.2.1, by rw [HI.out.2.2.2]; exact h5k, by rw [HI.out.2.2.2]; exact HI.out.1, HI.out.2.1⟩, by simp [intOf]; omega⟩
      · obtain rfl : k = m := by omega
        have hlti : ¬ ((k : Int) < k) := by omega
        have htl : l.take k = l := List.take_of_length_le (by have := HM.out.2.1; omega)
        unfold AddL at hA
        rw [htl] at hA
        rcases hA with ⟨rfl, hA1, rfl⟩ | ⟨rfl, hA1, rfl⟩
        · have hns := put_last (t := t) HM.out.2.2.1 hA1
          obtain ⟨n5, ga5, gc5, V5, hn5, hap5, q5, b5⟩ := push_ed (T := 22) (s, t) hn4 hrow hwz (by omega)
          obtain ⟨W5, HW5⟩ : ∃ W3, wr.alloc (.cells #[.string s, .string t] 47) = W3 := ⟨_, rfl⟩
          rw [show ((s, t) : Pr).1 = s from rfl, show ((s, t) : Pr).2 = t from rfl, HW5] at hap5
          have HAp5 := hide hap5
          have hln : (putM ns s t).length = n5 := by rw [← hns, List.length_append, hn4, hn5]; rfl
          rw [hns] at q5
          have HI := hide (And.intro q5 (And.intro (hbw.trans b5) hln))
          clear q5 b5 hln hap5 hn5 hn4 hrow hbw hA1 hns hnl htl
          go_wp2_with (first | (refine l_val rfl _ (ex_build (us := #[(0, .string s), (1, .string t)]) rfl (by simp [Act.eval]) (run_edge s t _)) ?_; simp only [Act.put, List.setIfInBounds_toArray, List.set_cons_zero, List.set_cons_succ]) | (refine l_val rfl _ (ex_slice (us := #[(0, .agg #[.string s, .string t])]) rfl (by simp [Act.eval]) (run_one s t _)) ?_; rw [HW5]) | (at_builtin; refine l_val rfl _ (ex_append2 (t := 22) (t' := 22) rfl rfl rfl HAp5.out) ?_))
          go_ret2
          exact ⟨_, rfl, by rw [HI.out.2.2]; exact HI.out.1, HI.out.2.1⟩
        · have HI := hide (And.intro hrow (And.intro hbw hn4))
          clear hn4 hrow hbw hA1 hnl htl
          go_wp2_with fail
          go_ret2
          exact ⟨_, rfl, by rw [HI.out.2.2]; exact HI.out.1, HI.out.2.1⟩
  | some p =>
    have HP := hide fun (V : World) (hV : EdMem V.heap.size V ao l) => rparent_some (cap := cap) hV hp
    rw [hml] at HR HA HP hlen ⊢
    clear hm hml hr hok hst hab hfull han hal hp
    go_enter Try.func10, Try.ntmps10
    go_wp2_with (first
      | (go_at_call 16; refine HR.out.mono ?_; rintro e w1 ⟨rfl, b1⟩; have H1 := hide b1; clear b1)
      | (go_at_call 31; refine (HA.out w1 ((HM.out.1.below H1.out).more H1.out.size)).mono ?_; rintro e w2 ⟨v, rfl, y1, b2⟩; have HV := hide (has_any w1.heap.size v _ s w2 y1 HM.out.2.2.2.2); rw [HM.out.2.2.2.1] at HV; have H2 := hide (H1.out.trans (b2.mono H1.out.size)); obtain ⟨gv, cv, rfl⟩ := own_shape y1; clear y1 b2)
      | (go_at_call 30; refine HV.out.mono ?_; rintro e w2' ⟨rfl, hww⟩; rw [hww]; clear hww)
      | (go_at_call 32; refine (HP.out w2 ((HM.out.1.below H2.out).more H2.out.size)).mono ?_; rintro e w2' ⟨rfl, hww⟩; rw [hww]; clear hww))
    go_loopw [10, 11, 12] (fun v p i wr => ∃ (k : Nat) (pb : Bool) (ns : List Pr), k ≤ m ∧ i = .int .i64 k ∧ p = .bool pb ∧ AddL l s t k pb ns ∧ ns.length ≤ k + 1 ∧ wr.ownsRow w.heap.size 47 2 v ns.length (edC ns) ∧ Below w.heap.size w wr) (fun _ _ i _ => m - (intOf i).toNat)
    case atStart => exact ⟨0, false, [], Nat.zero_le _, rfl, rfl, .inl ⟨rfl, fun y hy => by simp at hy, by simp⟩, by simp, World.ownsRow_nil _ _ _ _, H2.out⟩
    case round =>
      obtain ⟨k, pb, ns, hk, rfl, rfl, hA, hnl, hrow, hbw⟩ := hrel
      have hw1 : IntKind.i64.wrap ((k : Int) + 1) = k + 1 := by rw [IntKind.wrap_i64]; omega
      have hwz := hbw.size
      obtain ⟨n4, hn4⟩ : ∃ n4, ns.length = n4 := ⟨_, rfl⟩
      rw [hn4] at hrow hnl
      obtain ⟨ga4, gc4, rfl⟩ := own_shape hrow
      by_cases hlt : k < m
      · have hlti : (k : Int) < m := by omega
        obtain ⟨x, hx⟩ : ∃ x, l[k]? = some x := ⟨l[k]'(by have := HM.out.2.1; omega), by simp⟩
        have htk : l.take (k + 1) = l.take k ++ [x] := by rw [List.take_add_one, hx]; rfl
        have hri : Rising (l.take k ++ [x]) := by rw [← htk]; exact rising_take_any HM.out.2.2.1 _
        obtain ⟨b, off, rfl, hbl, c0, c1⟩ := (HM.out.1.below hbw).2 k x hx
        rcases hA with ⟨rfl, hA1, rfl⟩ | ⟨rfl, hA1, rfl⟩
        · by_cases he : x.1 = s
          · have hq := txt_eq he
            have hq1 := txt_eq he.symm
            have hq2 := less_no (a := s.toList) (b := x.1.toList) (fun h => str_irrefl _ (by rw [he] at h; exact h))
            have hns := put_same (t := t) hri hA1 he
            obtain ⟨n5, ga5, gc5, V5, hn5, hap5, q5, b5⟩ := push_ed (T := 22) (s, t) hn4 hrow hwz (by omega)
            obtain ⟨W5, HW5⟩ : ∃ W3, wr.alloc (.cells #[.string s, .string t] 47) = W3 := ⟨_, rfl⟩
            rw [show ((s, t) : Pr).1 = s from rfl, show ((s, t) : Pr).2 = t from rfl, HW5] at hap5
            have HAp5 := hide hap5
            obtain ⟨b', off', e', _, d0, d1⟩ := (HM.out.1.below (hbw.trans b5)).2 k x hx
            cases e'
            have hA' : AddL l s t (k + 1) true (l.take k ++ [(s, t)]) := .inr ⟨rfl, ⟨x, by rw [htk]; simp, by rw [he]; exact str_irrefl _⟩, by rw [htk]; exact hns⟩
            have hln : (l.take k ++ [(s, t)]).length = n5 := by rw [List.length_append, hn4, hn5]; rfl
            have HI := hide (And.intro q5 (And.intro (hbw.trans b5) (And.intro hA' hln)))
            have h5k : n5 ≤ k + 1 + 1 := by omega
            clear q5 b5 hA' hln hap5 hn5 hn4 hrow hbw hx htk hri hns he hA1 hnl
            go_wp2_with (first | (refine l_val rfl _ (ex_build (us := #[(0, .string s), (1, .string t)]) rfl (by simp [Act.eval]) (run_edge s t _)) ?_; simp only [Act.put, List.setIfInBounds_toArray, List.set_cons_zero, List.set_cons_succ]) | (refine l_val rfl _ (ex_slice (us := #[(0, .agg #[.string s, .string t])]) rfl (by simp [Act.eval]) (run_one s t _)) ?_; rw [HW5]) | (at_builtin; refine l_val rfl _ (ex_append2 (t := 22) (t' := 22) rfl rfl rfl HAp5.out) ?_))
            refine ⟨⟨k + 1, true, l.take k ++ [(s, t)], by omega, by simp, rfl, HI.out.2.2.1, by rw [HI.out.2.2.2]; exact h5k, by rw [HI.out.2.2.2]; exact HI.out.1, HI.out.2.1⟩, by simp [intOf]; omega⟩
          · have hq := txt_ne he
            have hq1 := txt_ne (fun e => he e.symm : ¬ s = x.1)
            by_cases hlt2 : x.1.toList < s.toList
            · have hq2 := less_no (str_asymm hlt2)
              obtain ⟨n5, ga5, gc5, V5, hn5, hap5, q5, b5⟩ := push_ed (T := 22) x hn4 hrow hwz (by omega)
              obtain ⟨W5, HW5⟩ : ∃ W3, wr.alloc (.cells #[.string x.1, .string x.2] 47) = W3 := ⟨_, rfl⟩
              rw [HW5] at hap5
              have HAp5 := hide hap5
              have hA' : AddL l s t (k + 1) false (l.take k ++ [x]) := .inl ⟨rfl, take_step (p := fun y => y.1.toList < s.toList) hA1 hx hlt2, by rw [htk]⟩
              have hln : (l.take k ++ [x]).length = n5 := by rw [List.length_append, hn4, hn5]; rfl
              have HI := hide (And.intro q5 (And.intro (hbw.trans b5) (And.intro hA' hln)))
              have h5k : n5 ≤ k + 1 + 1 := by omega
              clear q5 b5 hA' hln hap5 hn5 hn4 hrow hbw hx htk hri he hA1 hlt2 hnl
              go_wp2_with (first | (refine l_val rfl _ (ex_build (us := #[(0, .string x.1), (1, .string x.2)]) rfl (by simp [Act.eval]) (run_edge x.1 x.2 _)) ?_; simp only [Act.put, List.setIfInBounds_toArray, List.set_cons_zero, List.set_cons_succ]) | (refine l_val rfl _ (ex_slice (us := #[(0, .agg #[.string x.1, .string x.2])]) rfl (by simp [Act.eval]) (run_one x.1 x.2 _)) ?_; rw [HW5]) | (at_builtin; refine l_val rfl _ (ex_append2 (t := 22) (t' := 22) rfl rfl rfl HAp5.out) ?_))
              refine ⟨⟨k + 1, false, l.take k ++ [x], by omega, by simp, rfl, HI.out.2.2.1, by rw [HI.out.2.2.2]; exact h5k, by rw [HI.out.2.2.2]; exact HI.out.1, HI.out.2.1⟩, by simp [intOf]; omega⟩
            · have hlt3 := str_total hlt2 (fun e => he (ba_ext e))
              have hq2 := less_yes hlt3
              have hns := put_ahead (t := t) hri hA1 hlt3
              obtain ⟨n5, ga5, gc5, V5, hn5, hap5, q5, b5⟩ := push_ed (T := 22) (s, t) hn4 hrow hwz (by omega)
              obtain ⟨W5, HW5⟩ : ∃ W3, wr.alloc (.cells #[.string s, .string t] 47) = W3 := ⟨_, rfl⟩
              rw [show ((s, t) : Pr).1 = s from rfl, show ((s, t) : Pr).2 = t from rfl, HW5] at hap5
              have HAp5 := hide hap5
              have hln5 : (l.take k ++ [(s, t)]).length = n5 := by rw [List.length_append, hn4, hn5]; rfl
              have hB5 := hbw.trans b5
              obtain ⟨n6, ga6, gc6, V6, hn6, hap6, q6, b6⟩ := push_ed (T := 22) x hln5 q5 hB5.size (by omega)
              obtain ⟨W6, HW6⟩ : ∃ W3, V5.alloc (.cells #[.string x.1, .string x.2] 47) = W3 := ⟨_, rfl⟩
              rw [HW6] at hap6
              have HAp6 := hide hap6
              obtain ⟨b', off', e', _, d0, d1⟩ := (HM.out.1.below hB5).2 k x hx
              cases e'
              have hA' : AddL l s t (k + 1) true (l.take k ++ [(s, t)] ++ [x]) := .inr ⟨rfl, ⟨x, by rw [htk]; simp, hlt2⟩, by rw [htk]; exact hns⟩
              have hln : (l.take k ++ [(s, t)] ++ [x]).length = n6 := by rw [List.length_append, hln5, hn6]; rfl
              have HI := hide (And.intro q6 (And.intro (hB5.trans b6) (And.intro hA' hln)))
              have h5k : n6 ≤ k + 1 + 1 := by have := HM.out.2.1; have h0 : (l.take k).length = n4 := hn4; rw [List.length_take] at h0; omega
              clear q5 b5 q6 b6 hA' hln hln5 hap5 hap6 hn5 hn6 hn4 hrow hbw hB5 hx htk hri he hA1 hlt2 hlt3 hns hnl
              go_wp2_with (first | (refine l_val rfl _ (ex_build (us := #[(0, .string s), (1, .string t)]) rfl (by simp [Act.eval]) (run_edge s t _)) ?_; simp only [Act.put, List.setIfInBounds_toArray, List.set_cons_zero, List.set_cons_succ]) | (refine l_val rfl _ (ex_slice (us := #[(0, .agg #[.string s, .string t])]) rfl (by simp [Act.eval]) (run_one s t _)) ?_; rw [HW5]) | (at_builtin; refine l_val rfl _ (ex_append2 (t := 22) (t' := 22) rfl rfl rfl HAp5.out) ?_; refine stopHere ?_))
              unfold Hid
              clear HAp5 HW5
              go_wp2_with (first | (refine l_val rfl _ (ex_build (us := #[(0, .string x.1), (1, .string x.2)]) rfl (by simp [Act.eval]) (run_edge x.1 x.2 _)) ?_; simp only [Act.put, List.setIfInBounds_toArray, List.set_cons_zero, List.set_cons_succ]) | (refine l_val rfl _ (ex_slice (us := #[(0, .agg #[.string x.1, .string x.2])]) rfl (by simp [Act.eval]) (run_one x.1 x.2 _)) ?_; rw [HW6]) | (at_builtin; refine l_val rfl _ (ex_append2 (t := 22) (t' := 22) rfl rfl rfl HAp6.out) ?_))
              refine ⟨⟨k + 1, true, l.take k ++ [(s, t)] ++ [x], by omega, by simp, rfl, HI.out.2.2.1, by rw [HI.out.2.2.2]; exact h5k, by rw [HI.out.2.2.2]; exact HI.out.1, HI.out.2.1⟩, by simp [intOf]; omega⟩
        · obtain ⟨hne, hns⟩ := put_behind (t := t) hri hA1
          have hq := txt_ne hne
          obtain ⟨n5, ga5, gc5, V5, hn5, hap5, q5, b5⟩ := push_ed (T := 22) x hn4 hrow hwz (by omega)
          obtain ⟨W5, HW5⟩ : ∃ W3, wr.alloc (.cells #[.string x.1, .string x.2] 47) = W3 := ⟨_, rfl⟩
          rw [HW5] at hap5
          have HAp5 := hide hap5
          have hA' : AddL l s t (k + 1) true (putM (l.take k) s t ++ [x]) := .inr ⟨rfl, (by obtain ⟨y, hy, h⟩ := hA1; exact ⟨y, by rw [htk]; exact List.mem_append.2 (.inl hy), h⟩), by rw [htk]; exact hns⟩
          have hln : (putM (l.take k) s t ++ [x]).length = n5 := by rw [List.length_append, hn4, hn5]; rfl
          have HI := hide (And.intro q5 (And.intro (hbw.trans b5) (And.intro hA' hln)))
          have h5k : n5 ≤ k + 1 + 1 := by omega
          clear q5 b5 hA' hln hap5 hn5 hn4 hrow hbw hx htk hri hne hA1 hns hnl
          go_wp2_with (first | (refine l_val rfl _ (ex_build (us := #[(0, .string x.1), (1, .string x.2)]) rfl (by simp [Act.eval]) (run_edge x.1 x.2 _)) ?_; simp only [Act.put, List.setIfInBounds_toArray, List.set_cons_zero, List.set_cons_succ]) | (refine l_val rfl _ (ex_slice (us := #[(0, .agg #[.string x.1, .string x.2])]) rfl (by simp [Act.eval]) (run_one x.1 x.2 _)) ?_; rw [HW5]) | (at_builtin; refine l_val rfl _ (ex_append2 (t := 22) (t' := 22) rfl rfl rfl HAp5.out) ?_))
          refine ⟨⟨k + 1, true, putM (l.take k) s t ++ [x], by omega, by simp, rfl, HI.out.2.2.1, by rw [HI.out.2.2.2]; exact h5k, by rw [HI.out.2.2.2]; exact HI.out.1, HI.out.2.1⟩, by simp [intOf]; omega⟩
      · obtain rfl : k = m := by omega
        have hlti : ¬ ((k : Int) < k) := by omega
        have htl : l.take k = l := List.take_of_length_le (by have := HM.out.2.1; omega)
        unfold AddL at hA
        rw [htl] at hA
        rcases hA with ⟨rfl, hA1, rfl⟩ | ⟨rfl, hA1, rfl⟩
        · have hns := put_last (t := t) HM.out.2.2.1 hA1
          obtain ⟨n5, ga5, gc5, V5, hn5, hap5, q5, b5⟩ := push_ed (T := 22) (s, t) hn4 hrow hwz (by omega)
          obtain ⟨W5, HW5⟩ : ∃ W3, wr.alloc (.cells #[.string s, .string t] 47) = W3 := ⟨_, rfl⟩
          rw [show ((s, t) : Pr).1 = s from rfl, show ((s, t) : Pr).2 = t from rfl, HW5] at hap5
          have HAp5 := hide hap5
          have hln : (putM ns s t).length = n5 := by rw [← hns, List.length_append, hn4, hn5]; rfl
          rw [hns] at q5
          have HI := hide (And.intro q5 (And.intro (hbw.trans b5) hln))
          clear q5 b5 hln hap5 hn5 hn4 hrow hbw hA1 hns hnl htl
          go_wp2_with (first | (refine l_val rfl _ (ex_build (us := #[(0, .string s), (1, .string t)]) rfl (by simp [Act.eval]) (run_edge s t _)) ?_; simp only [Act.put, List.setIfInBounds_toArray, List.set_cons_zero, List.set_cons_succ]) | (refine l_val rfl _ (ex_slice (us := #[(0, .agg #[.string s, .string t])]) rfl (by simp [Act.eval]) (run_one s t _)) ?_; rw [HW5]) | (at_builtin; refine l_val rfl _ (ex_append2 (t := 22) (t' := 22) rfl rfl rfl HAp5.out) ?_))
          go_ret2
          exact ⟨_, rfl, by rw [HI.out.2.2]; exact HI.out.1, HI.out.2.1⟩
        · have HI := hide (And.intro hrow (And.intro hbw hn4))
          clear hn4 hrow hbw hA1 hnl htl
          go_wp2_with fail
          go_ret2
          exact ⟨_, rfl, by rw [HI.out.2.2]; exact HI.out.1, HI.out.2.1⟩
theorem rAdd_bad (ao : Option Addr) (cap : Nat) (l : List Pr) (s t : ByteArray) (w : World) (hm : EdMem w.heap.size w ao l) (h : AddBad l s t) :
    Calls Try.prog 10 #[.slice ao l.length cap, .string s, .string t] w fun e w' => e = .returned (.tuple #[.slice none 0 0, .int .i64 3]) ∧ Below w.heap.size w w' := by
  obtain ⟨m, hml⟩ : ∃ m, l.length = m := ⟨_, rfl⟩
  by_cases hr : RightE l
  · have HR := hide (right_true (cap := cap) hm hr)
    rw [hml] at HR ⊢
    clear hm hml
    cases hs : s.toList.isEmpty with
    | true =>
      clear h
      go_enter Try.func10, Try.ntmps10
      go_wp2_with (go_at_call 16; refine HR.out.mono ?_; rintro e w1 ⟨rfl, b1⟩)
      go_ret2
      exact ⟨rfl, b1⟩
    | false =>
      have ht : t.toList.isEmpty = true := by
        rcases h with h | h | h
        · exact absurd hr h
        · rw [hs] at h
          cases h
        · exact h
      clear h
      go_enter Try.func10, Try.ntmps10
      go_wp2_with (go_at_call 16; refine HR.out.mono ?_; rintro e w1 ⟨rfl, b1⟩)
      go_ret2
      exact ⟨rfl, b1⟩
  · have HR := hide (right_false (cap := cap) hm hr)
    rw [hml] at HR ⊢
    clear hm hml h
    go_enter Try.func10, Try.ntmps10
    go_wp2_with (go_at_call 16; refine HR.out.mono ?_; rintro e w1 ⟨rfl, b1⟩)
    go_ret2
    exact ⟨rfl, b1⟩
theorem bad_not {l : List Pr} {s t : ByteArray} (h : ¬ AddBad l s t) : RightE l ∧ s.toList.isEmpty = false ∧ t.toList.isEmpty = false :=
  ⟨Classical.byContradiction fun x => h (.inl x), not_empty fun x => h (.inr (.inl x)), not_empty fun x => h (.inr (.inr x))⟩
set_option maxRecDepth 100000 in
set_option maxHeartbeats 2000000 in
theorem rAdd_cyc (ao : Option Addr) (cap : Nat) (l : List Pr) (s t : ByteArray) (w : World) (hm : EdMem w.heap.size w ao l) (hb : ¬ AddBad l s t) (h : AddCyc l s t) :
    Calls Try.prog 10 #[.slice ao l.length cap, .string s, .string t] w fun e w' => e = .returned (.tuple #[.slice none 0 0, .int .i64 9]) ∧ Below w.heap.size w w' := by
  obtain ⟨hr, hs, ht⟩ := bad_not hb
  obtain ⟨m, hml⟩ : ∃ m, l.length = m := ⟨_, rfl⟩
  have HR := hide (right_true (cap := cap) hm hr)
  have HA := hide fun (V : World) (hV : EdMem V.heap.size V ao l) => rabove_any ao cap l t V hV
  have hal : (aboveL l t).length ≤ 1000000 := Nat.le_trans (chain_len _ _ _) hm.1
  by_cases hst : s = t
  · have hq0 := txt_eq hst
    rw [hml] at HR ⊢
    clear hm hml hb h hr hst hal
    go_enter Try.func10, Try.ntmps10
    go_wp2_with (go_at_call 16; refine HR.out.mono ?_; rintro e w1 ⟨rfl, b1⟩)
    go_ret2
    exact ⟨rfl, b1⟩
  · have hq0 := txt_ne hst
    have han : anyB (aboveL l t) s = true := any_mem.2 (by
      rcases h with h | h
      · exact absurd h hst
      · exact h)
    have HM := hide (And.intro hm (And.intro hal han))
    rw [hml] at HR HA ⊢
    clear hm hml hb h hr hst hal han
    go_enter Try.func10, Try.ntmps10
    go_wp2_with (first
      | (go_at_call 16; refine HR.out.mono ?_; rintro e w1 ⟨rfl, b1⟩)
      | (go_at_call 31; refine (HA.out w1 ((HM.out.1.below b1).more b1.size)).mono ?_; rintro e w2 ⟨v, rfl, y1, b2⟩; have HV := hide (has_any w1.heap.size v _ s w2 y1 HM.out.2.1); rw [HM.out.2.2] at HV; clear y1)
      | (go_at_call 30; refine HV.out.mono ?_; rintro e w2' ⟨rfl, hww⟩; rw [hww]; clear hww))
    go_ret2
    exact ⟨rfl, b1.trans (b2.mono b1.size)⟩
set_option maxRecDepth 100000 in
set_option maxHeartbeats 2000000 in
theorem rAdd_full (ao : Option Addr) (cap : Nat) (l : List Pr) (s t : ByteArray) (w : World) (hm : EdMem w.heap.size w ao l) (hb : ¬ AddBad l s t) (hc : ¬ AddCyc l s t) (hp : pOf l s = none) (h64 : 64 ≤ l.length) :
    Calls Try.prog 10 #[.slice ao l.length cap, .string s, .string t] w fun e w' => e = .returned (.tuple #[.slice none 0 0, .int .i64 4]) ∧ Below w.heap.size w w' := by
  obtain ⟨hr, hs, ht⟩ := bad_not hb
  obtain ⟨m, hml⟩ : ∃ m, l.length = m := ⟨_, rfl⟩
  have HR := hide (right_true (cap := cap) hm hr)
  have HA := hide fun (V : World) (hV : EdMem V.heap.size V ao l) => rabove_any ao cap l t V hV
  have HP := hide fun (V : World) (hV : EdMem V.heap.size V ao l) => rparent_none (cap := cap) hV hp
  have hal : (aboveL l t).length ≤ 1000000 := Nat.le_trans (chain_len _ _ _) hm.1
  have hq0 := txt_ne (fun e => hc (.inl e) : ¬ s = t)
  have han : anyB (aboveL l t) s = false := by
    cases h : anyB (aboveL l t) s with
    | false => rfl
    | true => exact absurd (.inr (any_mem.1 h)) hc
  have HM := hide (And.intro hm (And.intro hal han))
  rw [hml] at HR HA HP h64 ⊢
  have h64i : (64 : Int) ≤ m := by omega
  clear hm hml hb hc hr hal han hp
  go_enter Try.func10, Try.ntmps10
  go_wp2_with (first
    | (go_at_call 16; refine HR.out.mono ?_; rintro e w1 ⟨rfl, b1⟩)
    | (go_at_call 31; refine (HA.out w1 ((HM.out.1.below b1).more b1.size)).mono ?_; rintro e w2 ⟨v, rfl, y1, b2⟩; have HV := hide (has_any w1.heap.size v _ s w2 y1 HM.out.2.1); rw [HM.out.2.2] at HV; have H2 := hide (b1.trans (b2.mono b1.size)); clear y1 b2)
    | (go_at_call 30; refine HV.out.mono ?_; rintro e w2' ⟨rfl, hww⟩; rw [hww]; clear hww)
    | (go_at_call 32; refine (HP.out w2 ((HM.out.1.below H2.out).more H2.out.size)).mono ?_; rintro e w2' ⟨rfl, hww⟩; rw [hww]; clear hww))
  go_ret2
  exact ⟨rfl, H2.out⟩
end Go.Proofs.Ytlafjddidlofcaa
