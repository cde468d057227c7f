/- The document's Load. -/
import Derived.Test.YtjdcgndcljmieaaL3
namespace Go.Proofs.Ytjdcgndcljmieaa
open Go.RowKit

theorem cut2_short {l : Str} (h : l.length < 2) : cut2 l = none := by
  match l, h with
  | [], _ => rfl
  | [x], _ => rfl
theorem cutP_short {c : UInt8} {r : Str} (h : r.length < c.toNat + 2) : cutP (c :: r) = none := by
  simp only [cutP, cut1]
  by_cases h1 : c.toNat ≤ r.length
  · rw [if_pos h1]
    simp only
    rw [cut2_short (by simp; omega)]
  · rw [if_neg h1]
theorem cutP_long {c d e : UInt8} {r : Str} (hd : r[c.toNat]? = some d) (he : r[c.toNat + 1]? = some e) : cutP (c :: r) = if d.toNat * 256 + e.toNat ≤ (r.drop (c.toNat + 2)).length then some ((ofS (r.take c.toNat), ofS ((r.drop (c.toNat + 2)).take (d.toNat * 256 + e.toNat))), (r.drop (c.toNat + 2)).drop (d.toNat * 256 + e.toNat)) else none := by
  have h1 := (List.getElem?_eq_some_iff.1 he).1
  have h0 := (List.getElem?_eq_some_iff.1 hd).1
  have hdr : r.drop c.toNat = d :: e :: r.drop (c.toNat + 2) := by
    rw [List.drop_eq_getElem_cons h0, List.drop_eq_getElem_cons h1, (List.getElem?_eq_some_iff.1 hd).2, (List.getElem?_eq_some_iff.1 he).2]
  simp only [cutP, cut1]
  rw [if_pos (by omega)]
  simp only [hdr, cut2]
  by_cases h2 : d.toNat * 256 + e.toNat ≤ (r.drop (c.toNat + 2)).length
  · rw [if_pos h2, if_pos h2]
  · rw [if_neg h2, if_neg h2]
def RLoadR (l : Str) (w : World) (e : Ending) (w' : World) : Prop :=
  (∃ L p v, GR L ∧ l = bytesM L ∧ e = .returned (.tuple #[.pointer (some ⟨p, 0, none⟩), .int .i64 0]) ∧ IsR w.heap.size p v L w') ∨ (Bad l ∧ e = .returned (.tuple #[.pointer none, .int .i64 3]))
set_option maxRecDepth 100000 in
set_option maxHeartbeats 2000000 in
theorem rload_nil (ao : Option Addr) (cap : Nat) (w : World) :
    Calls Try.prog 13 #[.slice ao 0 cap] w fun e w' => RLoadR [] w e w' ∧ Below w.heap.size w w' := by
  have H0 := hide (rNew_any w.heap.size w (Nat.le_refl _))
  go_enter Try.func13, Try.ntmps13
  go_wp2_with (first
    | (go_at_call 24; refine H0.out.mono ?_; rintro e w1 ⟨p, rfl, d1, b1, _⟩; have H1 := hide (And.intro d1 b1); clear d1 b1))
  refine wp_loop_rounds 1 ?_
  rw [rounds_succ]
  go_wp2_with fail
  exact bodyPost_ret (results_two rfl rfl rfl) rfl ⟨.inl ⟨[], p, _, gr_nil, rfl, rfl, H1.out.1⟩, H1.out.2⟩
set_option maxRecDepth 100000 in
set_option maxHeartbeats 4000000 in
theorem rload_some (b off cap : Nat) (l : Str) (w : World) (hB : Bys w b off l) (hb : b < w.heap.size) (hc : l.length ≤ cap) (hm : cap ≤ 9223372036854775807) (hl9 : l.length ≤ 9000) :
    Calls Try.prog 13 #[.slice (some ⟨b, off, none⟩) l.length cap] w fun e w' => RLoadR l w e w' ∧ Below w.heap.size w w' := by
  have H0 := hide (rNew_any w.heap.size w (Nat.le_refl _))
  have HH := hide (And.intro hB (And.intro hc hl9))
  clear hB hc hl9
  go_enter Try.func13, Try.ntmps13
  go_wp2_with (first
    | (go_at_call 24; refine H0.out.mono ?_; rintro e w1 ⟨p, rfl, d1, b1, _⟩; have H1 := hide (And.intro d1 b1); clear d1 b1))
  go_loopw [0, 5] (fun s la wr => ∃ (L : List Pr) (r : Str) (o c : Nat) (v : Value), s = .slice (some ⟨b, o, none⟩) r.length c ∧ la = .string (lastK L) ∧ l = bytesM L ++ r ∧ GR L ∧ IsR w.heap.size p v L wr ∧ Bys wr b o r ∧ r.length ≤ c ∧ c ≤ cap ∧ Below w.heap.size w wr) (fun s _ _ => lenOf s)
  case atStart => exact ⟨[], l, off, cap, _, rfl, rfl, rfl, gr_nil, H1.out.1, HH.out.1.below' hb H1.out.2, HH.out.2.1, Nat.le_refl _, H1.out.2⟩
  case round =>
    obtain ⟨L, r, o, cc, v, rfl, rfl, hl, hG, hR, hBr, hrc, hcc, hbw⟩ := hrel
    have hwz := hbw.size
    obtain ⟨la, hla⟩ : ∃ la, lastK L = la := ⟨_, rfl⟩
    have hr9 : r.length ≤ 9000 := by
      have := congrArg List.length hl
      rw [List.length_append] at this
      have := HH.out.2.2
      omega
    cases r with
    | nil =>
      go_wp2_with fail
      exact bodyPost_ret (results_two rfl rfl rfl) rfl ⟨.inl ⟨L, p, v, hG, by rw [hl, List.append_nil], rfl, hR⟩, hbw⟩
    | cons c r =>
      have c0 : wr.cell? ⟨b, o, none⟩ = some (.int .u8 (c.toNat : Nat)) := hBr 0 c rfl
      have hB1 : Bys wr b (o + 1) r := hBr.drop 1
      have hn8 : c.toNat < 256 := c.toNat_lt
      simp only [List.length_cons] at hrc hr9 ⊢
      obtain ⟨m, hmr⟩ : ∃ m, r.length = m := ⟨_, rfl⟩
      obtain ⟨k, hk⟩ : ∃ k, c.toNat = k := ⟨_, rfl⟩
      have HI := hide (And.intro hl (And.intro hG (And.intro hR (And.intro hBr (And.intro hbw (And.intro hmr (And.intro hk hla)))))))
      rw [hmr] at hrc hr9 ⊢
      rw [hk] at c0 hn8
      rw [hla]
      clear hl hG hR hBr hbw hla
      by_cases hsh : m < k + 2
      · have hshi : ((m : Int) + 1 < 1 + k + 2) := by omega
        clear hmr hk
        go_wp2_with fail
        obtain ⟨hl, hG, hR, hBr, hbw, hmr, hk, hla⟩ := HI.out
        refine bodyPost_ret (results_two rfl rfl rfl) rfl ⟨.inr ⟨by rw [hl]; exact bad_cut hG (by simp) (cutP_short (by rw [hk, hmr]; exact hsh)), rfl⟩, hbw⟩
      · have hshi : ¬ ((m : Int) + 1 < 1 + k + 2) := by omega
        obtain ⟨d, hd⟩ : ∃ d, r[k]? = some d := ⟨r[k]'(by omega), by simp⟩
        obtain ⟨e, he⟩ : ∃ e, r[k + 1]? = some e := ⟨r[k + 1]'(by omega), by simp⟩
        have c1 : wr.cell? ⟨b, o + (1 + k), none⟩ = some (.int .u8 (d.toNat : Nat)) := by
          rw [← Nat.add_assoc]
          exact hB1 k d hd
        have c2 : wr.cell? ⟨b, o + (2 + k), none⟩ = some (.int .u8 (e.toNat : Nat)) := by
          have := hB1 (k + 1) e he
          rw [show o + (2 + k) = o + 1 + (k + 1) by omega]
          exact this
        have hd8 : d.toNat < 256 := d.toNat_lt
        have he8 : e.toNat < 256 := e.toNat_lt
        obtain ⟨x, hx⟩ : ∃ x, d.toNat = x := ⟨_, rfl⟩
        obtain ⟨y, hy⟩ : ∃ y, e.toNat = y := ⟨_, rfl⟩
        obtain ⟨n, hn⟩ : ∃ n, x * 256 + y = n := ⟨_, rfl⟩
        have hor := or_i64 x y (by omega) (by omega)
        rw [hn] at hor
        have hP := cutP_long (c := c) (d := d) (e := e) (r := r) (by rw [hk]; exact hd) (by rw [hk]; exact he)
        rw [hk, hx, hy, hn] at hP
        rw [hx] at c1 hd8
        rw [hy] at c2 he8
        have hnn : n < 65536 := by omega
        have hcv := fun cp => Bys.conv (w := wr) (cap := cp) (hB1.take k)
        rw [show (r.take k).length = k by simp; omega] at hcv
        obtain ⟨key, hkey⟩ : ∃ key, ofS (r.take k) = key := ⟨_, rfl⟩
        rw [hkey] at hcv hP
        have hdl : (r.drop (k + 2)).length = m - (k + 2) := by simp [hmr]
        rw [hdl] at hP
        have HD := hide (And.intro hP hdl)
        clear hd he hx hy hn hP hdl hmr hk
        by_cases hfit : k + 2 + n ≤ m
        · have hfi : ¬ ((m : Int) + 1 < 3 + k + n) := by omega
          have hP := HD.out.1
          rw [if_pos (by omega)] at hP
          obtain ⟨val, hval⟩ : ∃ val, ofS ((r.drop (k + 2)).take n) = val := ⟨_, rfl⟩
          obtain ⟨t, ht⟩ : ∃ t, (r.drop (k + 2)).drop n = t := ⟨_, rfl⟩
          have htl : t.length = m - (k + 2) - n := by rw [← ht, List.length_drop, HD.out.2]
          rw [hval, ht] at hP
          have hB3 : Bys wr b (o + 1 + (k + 2)) (r.drop (k + 2)) := hB1.drop (k + 2)
          have hcv2 := fun cp => Bys.conv (w := wr.drew) (cap := cp) (hB3.take n)
          rw [show ((r.drop (k + 2)).take n).length = n by rw [List.length_take, HD.out.2]; omega, hval, show o + 1 + (k + 2) = o + (3 + k) by omega] at hcv2
          have hBt : Bys wr b (o + 1 + (k + 2) + n) t := by rw [← ht]; exact hB3.drop n
          have H3 := hide (And.intro hP (And.intro (HI.out.2.2.2.2.1.trans (Below.refl _ wr).drew) (And.intro (HI.out.2.2.1.below (Below.refl _ wr).drew) (And.intro htl hBt))))
          have HV := hide (And.intro hval ht)
          clear hP ht htl hB3 hBt hval hB1
          by_cases hlt : la.toList < key.toList
          · have hles := less_no (str_asymm hlt)
            have hles2 : (key.toList == la.toList) = false := by
              rw [beq_eq_false_iff_ne]
              intro e
              rw [e] at hlt
              exact str_irrefl _ hlt
            obtain ⟨e1, he1⟩ : ∃ e1 : Nat, putE L key val = e1 := ⟨_, rfl⟩
            by_cases hez : e1 = 0
            · subst hez
              have hnx : Next L (key, val) := ⟨by rw [HI.out.2.2.2.2.2.2.2]; exact hlt, he1⟩
              have hno := next_ok HI.out.2.1 hnx
              have HN := hide (And.intro hno he1)
              clear hno he1 hnx
              by_cases h1 : cc = 3 + k
              · subst h1
                have hn0 : n = 0 := by omega
                rw [hn0] at hor H3 HV hfit hfi
                have hcv0 := Bys.conv (w := wr.drew) (b := b) (off := o) (cap := 0) (l := []) (fun j c hj => by cases hj)
                rw [show ofS [] = val by rw [← HV.out.1]; rfl] at hcv0
                simp only [List.length_nil] at hcv0
                obtain rfl : m = k + 2 := by omega
                clear hcv2 hn0 hnn
                go_wp2_with fail
                go_region
                go_wp2_with (first
                  | (go_at_call 33; refine (rput_any w.heap.size p v L key val wr.drew H3.out.2.2.1 H3.out.2.1.size).mono ?_; rintro e w4 ⟨rfl, v4, t4⟩; rw [HN.out.2]; have H4 := hide t4; clear t4; refine stopHere ?_))
                unfold Hid
                go_wp2_with fail
                obtain ⟨hl, hG, hR, hBr, hbw, hmr, hk, hla⟩ := HI.out
                refine ⟨⟨L ++ [(key, val)], t, o, 0, v4, by rw [H3.out.2.2.2.1]; simp; omega, by rw [lastK_snoc], by rw [hl, bytesM_snoc, List.append_assoc, ← cutP_inv H3.out.1], HN.out.1.1, by rw [← HN.out.1.2]; exact H4.out.1, (fun j c hj => by have h := (List.getElem?_eq_some_iff.1 hj).1; rw [H3.out.2.2.2.1] at h; omega), by rw [H3.out.2.2.2.1]; omega, by omega, H3.out.2.1.trans H4.out.2.1.below⟩, by simp only [lenOf]; omega⟩
              · by_cases h2 : cc = 3 + k + n
                · subst h2
                  obtain rfl : m = k + 2 + n := by omega
                  have h1i : ¬ ((n : Int) = 0) := by omega
                  go_wp2_with fail
                  go_region
                  go_wp2_with (first
                    | (go_at_call 33; refine (rput_any w.heap.size p v L key val wr.drew H3.out.2.2.1 H3.out.2.1.size).mono ?_; rintro e w4 ⟨rfl, v4, t4⟩; rw [HN.out.2]; have H4 := hide t4; clear t4; refine stopHere ?_))
                  unfold Hid
                  go_wp2_with fail
                  obtain ⟨hl, hG, hR, hBr, hbw, hmr, hk, hla⟩ := HI.out
                  refine ⟨⟨L ++ [(key, val)], t, o, 0, v4, by rw [H3.out.2.2.2.1]; simp; omega, by rw [lastK_snoc], by rw [hl, bytesM_snoc, List.append_assoc, ← cutP_inv H3.out.1], HN.out.1.1, by rw [← HN.out.1.2]; exact H4.out.1, (fun j c hj => by have h := (List.getElem?_eq_some_iff.1 hj).1; rw [H3.out.2.2.2.1] at h; omega), by rw [H3.out.2.2.2.1]; omega, by omega, H3.out.2.1.trans H4.out.2.1.below⟩, by simp only [lenOf]; omega⟩
                · have h1i : ¬ ((cc : Int) = 3 + k) := by omega
                  have h2i : ¬ ((cc : Int) = 3 + k + n) := by omega
                  go_wp2_with fail
                  go_region
                  go_wp2_with (first
                    | (go_at_call 33; refine (rput_any w.heap.size p v L key val wr.drew H3.out.2.2.1 H3.out.2.1.size).mono ?_; rintro e w4 ⟨rfl, v4, t4⟩; rw [HN.out.2]; have H4 := hide t4; clear t4; refine stopHere ?_))
                  unfold Hid
                  go_wp2_with fail
                  obtain ⟨hl, hG, hR, hBr, hbw, hmr, hk, hla⟩ := HI.out
                  refine ⟨⟨L ++ [(key, val)], t, (o + (3 + k + n)), (cc - (3 + k + n)), v4, by rw [H3.out.2.2.2.1]; congr 1; omega, by rw [lastK_snoc], by rw [hl, bytesM_snoc, List.append_assoc, ← cutP_inv H3.out.1], HN.out.1.1, by rw [← HN.out.1.2]; exact H4.out.1, ((by rw [show o + (3 + k + n) = o + 1 + (k + 2) + n by omega]; exact H3.out.2.2.2.2 : Bys wr b (o + (3 + k + n)) t).below' (by omega) (Below.refl _ wr).drew).below' hb H4.out.2.1.below, by rw [H3.out.2.2.2.1]; omega, by omega, H3.out.2.1.trans H4.out.2.1.below⟩, by simp only [lenOf]; omega⟩
            · have hei : (e1 : Int) ≠ 0 := by omega
              have HN := hide (And.intro hez he1)
              clear he1 hez
              by_cases h1 : cc = 3 + k
              · subst h1
                have hn0 : n = 0 := by omega
                rw [hn0] at hor H3 HV hfit hfi
                have hcv0 := Bys.conv (w := wr.drew) (b := b) (off := o) (cap := 0) (l := []) (fun j c hj => by cases hj)
                rw [show ofS [] = val by rw [← HV.out.1]; rfl] at hcv0
                simp only [List.length_nil] at hcv0
                obtain rfl : m = k + 2 := by omega
                clear hcv2 hn0 hnn
                go_wp2_with fail
                go_region
                go_wp2_with (first
                  | (go_at_call 33; refine (rput_any w.heap.size p v L key val wr.drew H3.out.2.2.1 H3.out.2.1.size).mono ?_; rintro e w4 ⟨rfl, v4, t4⟩; rw [HN.out.2]; have H4 := hide t4; clear t4; refine stopHere ?_))
                unfold Hid
                go_wp2_with fail
                obtain ⟨hl, hG, hR, hBr, hbw, hmr, hk, hla⟩ := HI.out
                exact bodyPost_ret (results_two rfl rfl rfl) rfl ⟨.inr ⟨by rw [hl]; exact bad_next hG H3.out.1 (fun h => HN.out.1 (by rw [← HN.out.2]; exact h.2)), rfl⟩, H3.out.2.1.trans H4.out.2.1.below⟩
              · have h1i : ¬ ((cc : Int) = 3 + k) := by omega
                go_wp2_with fail
                go_region
                go_wp2_with (first
                  | (go_at_call 33; refine (rput_any w.heap.size p v L key val wr.drew H3.out.2.2.1 H3.out.2.1.size).mono ?_; rintro e w4 ⟨rfl, v4, t4⟩; rw [HN.out.2]; have H4 := hide t4; clear t4; refine stopHere ?_))
                unfold Hid
                go_wp2_with fail
                obtain ⟨hl, hG, hR, hBr, hbw, hmr, hk, hla⟩ := HI.out
                exact bodyPost_ret (results_two rfl rfl rfl) rfl ⟨.inr ⟨by rw [hl]; exact bad_next hG H3.out.1 (fun h => HN.out.1 (by rw [← HN.out.2]; exact h.2)), rfl⟩, H3.out.2.1.trans H4.out.2.1.below⟩
          · by_cases heq : key.toList = la.toList
            · have hles2 : (key.toList == la.toList) = true := by rw [heq]; simp
              have hles : Op.bytesLess key.toList la.toList = false := by rw [heq]; exact less_no (str_irrefl _)
              go_wp2_with fail
              go_region
              go_wp2_with fail
              obtain ⟨hl, hG, hR, hBr, hbw, hmr, hk, hla⟩ := HI.out
              exact bodyPost_ret (results_two rfl rfl rfl) rfl ⟨.inr ⟨by rw [hl]; exact bad_next hG H3.out.1 (fun h => hlt (by rw [← hla]; exact h.1)), rfl⟩, H3.out.2.1⟩
            · have hles := less_yes (str_total hlt (fun e => heq e.symm))
              go_wp2_with fail
              go_region
              go_wp2_with fail
              obtain ⟨hl, hG, hR, hBr, hbw, hmr, hk, hla⟩ := HI.out
              exact bodyPost_ret (results_two rfl rfl rfl) rfl ⟨.inr ⟨by rw [hl]; exact bad_next hG H3.out.1 (fun h => hlt (by rw [← hla]; exact h.1)), rfl⟩, H3.out.2.1⟩
        · have hfi : (m : Int) + 1 < 3 + k + n := by omega
          go_wp2_with fail
          go_region
          go_wp2_with fail
          obtain ⟨hl, hG, hR, hBr, hbw, hmr, hk, hla⟩ := HI.out
          refine bodyPost_ret (results_two rfl rfl rfl) rfl ⟨.inr ⟨by rw [hl]; exact bad_cut hG (by simp) (by rw [HD.out.1, if_neg (by omega)]), rfl⟩, hbw.trans (Below.refl _ wr).drew⟩
end Go.Proofs.Ytjdcgndcljmieaa
