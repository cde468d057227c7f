/- KvScans. -/
import Derived.Test.YtllpblnbdocfjaaR5
namespace Go.Proofs.Ytllpblnbdocfjaa
open Go.RowKit

theorem Prs.below {w w' : World} {base : Nat} {v : Value} {S : List Pr} (h : Prs w base v S) (hb : Below w.heap.size w w') : Prs w' base v S := own_same h (fun g e => hb.block g (own_lt h g e))
theorem begB_nil (k : ByteArray) : begB ⟨#[]⟩ k = true := by
  have e : k.extract 0 (ByteArray.mk #[]).size = ⟨#[]⟩ := by
    apply ba_ext
    rw [ByteArray.toList_eq, ByteArray.toList_eq]
    simp [ByteArray.size]
  unfold begB
  rw [e, decide_eq_true (show (ByteArray.mk #[]).size ≤ k.size from Nat.zero_le _), Bool.true_and]
  exact beq_self_eq_true _
theorem scanM_all (L : List Pr) : scanM L ⟨#[]⟩ = L := by
  unfold scanM
  rw [List.filter_eq_self]
  exact fun x _ => begB_nil x.1
theorem scan_split {L : List Pr} {n : Nat} {x : Pr} (h : L[n]? = some x) (p : ByteArray) : scanM L p = scanM (L.take n) p ++ (scanM [x] p ++ scanM (L.drop (n + 1)) p) := by
  have hl : n < L.length := (List.getElem?_eq_some_iff.1 h).1
  have hx : L[n] = x := (List.getElem?_eq_some_iff.1 h).2
  have e : L = L.take n ++ ([x] ++ L.drop (n + 1)) := by
    rw [← hx]
    simp
  conv => lhs; rw [e]
  unfold scanM
  rw [List.filter_append, List.filter_append]
theorem scan_yes {L : List Pr} {n : Nat} {x : Pr} {p : ByteArray} (h : L[n]? = some x) (hb : begB p x.1 = true) : (scanM L p)[(scanM (L.take n) p).length]? = some x ∧ (scanM (L.take (n + 1)) p).length = (scanM (L.take n) p).length + 1 := by
  have e : scanM [x] p = [x] := by simp [scanM, hb]
  refine ⟨?_, ?_⟩
  · rw [scan_split h p, e]
    simp
  · rw [List.take_add_one, h]
    simp [scanM, hb]
theorem scan_no {L : List Pr} {n : Nat} {x : Pr} {p : ByteArray} (h : L[n]? = some x) (hb : begB p x.1 = false) : (scanM (L.take (n + 1)) p).length = (scanM (L.take n) p).length := by
  rw [List.take_add_one, h]
  simp [scanM, hb]
theorem scan_le (L : List Pr) (p : ByteArray) : (scanM L p).length ≤ L.length := List.length_filter_le _ _
theorem rise_at {L : List Pr} (h : Rising L) {n : Nat} {x y : Pr} (hx : L[n]? = some x) (hy : L[n + 1]? = some y) : x.1.toList < y.1.toList := by
  have h1 := (List.getElem?_eq_some_iff.1 hx)
  have h2 := (List.getElem?_eq_some_iff.1 hy)
  have := List.pairwise_iff_getElem.1 h n (n + 1) h1.1 h2.1 (by omega)
  rw [h1.2, h2.2] at this
  exact this
theorem below_drewN {B : Nat} {a w : World} (h : Below B a w) (n : Nat) : Below B a (w.drewN n) := ⟨h.os, h.tape, h.output, h.size, h.block⟩
set_option maxRecDepth 100000 in
set_option maxHeartbeats 4000000 in
theorem kvScans_any (ao : Option Addr) (cap : Nat) (ds : List Dk) (pre : ByteArray) (w : World) (hm : DkMem w.heap.size w ao ds) :
    Calls Try.prog 6 #[.slice ao ds.length cap, .string pre] w fun e w' => e = .returned (.bool true) ∧ Below w.heap.size w w' := by
  have H0 := hide (play_any ao cap ds w hm)
  clear hm
  go_enter Try.func6, Try.ntmps6
  go_wp2_with (first
    | (go_at_call 9; refine H0.out.mono ?_; rintro e w1 ⟨p, bm, q, u, rfl, t1, b1⟩; have s1 := b1.size; have H1 := hide (And.intro t1 b1); clear t1 b1)
    | (go_at_call 10; refine (live_any w1).mono ?_; rintro e w2 ⟨rfl, b2⟩; have s2 := b2.size; have H2 := hide (And.intro (H1.out.1.below b2) (H1.out.2.trans (b2.mono s1))); clear b2; refine stopHere ?_))
  unfold Hid
  obtain ⟨L, hL⟩ : ∃ L, playM ds (min ds.length 60) = L := ⟨_, rfl⟩
  rw [hL] at H2
  clear H1 H0 hL
  have hsz2 := H2.out.2.size
  have hfew := H2.out.1.ref.few
  obtain ⟨m, hm⟩ : ∃ m, L.length = m := ⟨_, rfl⟩
  obtain ⟨S, hS⟩ : ∃ S, scanM L pre = S := ⟨_, rfl⟩
  obtain ⟨c, hc⟩ : ∃ c, S.length = c := ⟨_, rfl⟩
  have hcm : c ≤ m := by rw [← hc, ← hS, ← hm]; exact scan_le L pre
  rw [hm] at hfew
  have HS := hide (And.intro hm (And.intro hS hc))
  go_wp2_with (first
    | (go_at_call 15; refine (scan_any w.heap.size p bm L ⟨#[]⟩ w2 H2.out.1.dev H2.out.1.ref.few).mono ?_; rintro e w3 ⟨va, rfl, r3, b3⟩; rw [scanM_all] at r3; have s3 := b3.size; have H3 := hide (And.intro r3 b3); clear r3 b3)
    | (go_at_call 15; refine (scan_any w.heap.size p bm L pre w3 (H2.out.1.dev.below H3.out.2) H2.out.1.ref.few).mono ?_; rintro e w4 ⟨vs, rfl, r4, b4⟩; rw [hS] at r4; have H4 := hide (And.intro r4 b4); clear r4 b4; refine stopHere ?_))
  unfold Hid
  have hra : Prs w4 w2.heap.size va L := Prs.below H3.out.1 H4.out.2
  have hrs : Prs w4 w3.heap.size vs S := H4.out.1
  have hM4 : IsM w.heap.size p bm L w4 := (H2.out.1.dev.below H3.out.2).below H4.out.2
  have hB4 : Below w.heap.size w w4 := H2.out.2.trans ((H3.out.2.mono hsz2).trans (H4.out.2.mono (by omega)))
  unfold Prs at hra hrs
  rw [hm] at hra
  rw [hc] at hrs
  obtain ⟨aa, ac, rfl⟩ := own_shape hra
  obtain ⟨sa, sc, rfl⟩ := own_shape hrs
  have hrise : Rising L := H2.out.1.ref.rise
  have HW := hide (And.intro hra (And.intro hrs (And.intro hM4 (And.intro hB4 hrise))))
  have hsz4 := hB4.size
  clear hra hrs hM4 hB4 hrise H3 H4 hm hS hc H2
  go_wp2_with fail
  go_loopw [10, 11] (fun g i wr => ∃ n k : Nat, n ≤ m ∧ i = .int .i64 n ∧ g = .int .i64 k ∧ (scanM (L.take n) pre).length = k ∧ Below w4.heap.size w4 wr) (fun _ i _ => m - (intOf i).toNat)
  case atStart => exact ⟨0, 0, Nat.zero_le _, rfl, rfl, rfl, Below.refl _ _⟩
  case round =>
    obtain ⟨n, k, hn, rfl, rfl, hk, hbw⟩ := hrel
    have hw1 : IntKind.i64.wrap ((n : Int) + 1) = n + 1 := by rw [IntKind.wrap_i64]; omega
    have hkm : k ≤ 128 := by rw [← hk]; exact Nat.le_trans (scan_le _ _) (by rw [List.length_take]; omega)
    have hw2 : IntKind.i64.wrap ((k : Int) + 1) = k + 1 := by rw [IntKind.wrap_i64]; omega
    have HK := hide (And.intro hk hbw)
    have hwz := hbw.size
    clear hk hbw
    by_cases hlt : n < m
    · have hlti : (n : Int) < m := by omega
      obtain ⟨x, hx⟩ : ∃ x, L[n]? = some x := ⟨L[n]'(by have := HS.out.1; omega), by simp⟩
      obtain ⟨ba, rfl, hbl, c0, c1⟩ := pr_cells (own_same HW.out.1 (fun g e => HK.out.2.block g (own_lt HW.out.1 g e))) HS.out.1.symm hx
      have HX := hide hx
      clear hx
      by_cases hn0 : n = 0
      · subst hn0
        by_cases hsz : pre.size ≤ x.1.size
        · have hszi : (pre.size : Int) ≤ x.1.size := by omega
          cases hex : ((x.1.extract 0 pre.size).toList == pre.toList) with
          | true =>
            have hbg : begB pre x.1 = true := by unfold begB; rw [decide_eq_true hsz, hex]; rfl
            obtain ⟨hk1, hk2⟩ := scan_yes HX.out hbg
            rw [HK.out.1] at hk1 hk2
            rw [HS.out.2.1] at hk1
            have hkc : k < c := by have h := (List.getElem?_eq_some_iff.1 hk1).1; have := HS.out.2.2; omega
            have hkci : ¬ ((c : Int) ≤ k) := by omega
            obtain ⟨bs, hbe, hbs, d0, d1⟩ := pr_cells (own_same HW.out.2.1 (fun g e => HK.out.2.block g (own_lt HW.out.2.1 g e))) HS.out.2.2.symm hk1
            subst hbe
            have HK2 := hide hk2
            clear hk1 hk2
            have z1 : (x.1.toList == x.1.toList) = true := by simp
            have z2 : (x.2.toList == x.2.toList) = true := by simp
            go_wp2_with fail
            go_quiet (fail)
            go_wp2_with fail
            skip
            go_quiet (fail)
            go_wp2_with (first
              | (go_at_call 16; refine (get_any w.heap.size p bm L x.1 _ (HW.out.2.2.1.below (below_drewN HK.out.2 _))).mono ?_; rintro e w6 ⟨rfl, b6⟩; rw [getM_mem HW.out.2.2.2.2 (List.mem_of_getElem? HX.out)]; have H6 := hide (show Below w4.heap.size w4 w6 from (below_drewN HK.out.2 _).trans (b6.mono (below_drewN HK.out.2 _).size)); clear b6; refine stopHere ?_))
            unfold Hid
            obtain ⟨ba6, he6, hbl6, e0, e1⟩ := pr_cells (own_same HW.out.1 (fun g e => H6.out.block g (own_lt HW.out.1 g e))) HS.out.1.symm HX.out
            cases he6
            have z6 : (x.2.toList == x.2.toList) = true := by simp
            go_wp2_with fail
            go_roundw
            case rel => exact ⟨0 + 1, k + 1, by omega, by simp, by simp, HK2.out, H6.out⟩
            case measure => simp [intOf]; omega
          | false =>
            have hbg : begB pre x.1 = false := by unfold begB; rw [decide_eq_true hsz, hex]; rfl
            go_wp2_with fail
            go_quiet (fail)
            go_wp2_with (first
              | (go_at_call 16; refine (get_any w.heap.size p bm L x.1 _ (HW.out.2.2.1.below (below_drewN HK.out.2 _))).mono ?_; rintro e w6 ⟨rfl, b6⟩; rw [getM_mem HW.out.2.2.2.2 (List.mem_of_getElem? HX.out)]; have H6 := hide (show Below w4.heap.size w4 w6 from (below_drewN HK.out.2 _).trans (b6.mono (below_drewN HK.out.2 _).size)); clear b6; refine stopHere ?_))
            unfold Hid
            obtain ⟨ba6, he6, hbl6, e0, e1⟩ := pr_cells (own_same HW.out.1 (fun g e => H6.out.block g (own_lt HW.out.1 g e))) HS.out.1.symm HX.out
            cases he6
            have z6 : (x.2.toList == x.2.toList) = true := by simp
            go_wp2_with fail
            go_roundw
            case rel => exact ⟨0 + 1, k, by omega, by simp, by simp, (scan_no HX.out hbg).trans HK.out.1, H6.out⟩
            case measure => simp [intOf]; omega
        · have hszi : ¬ ((pre.size : Int) ≤ x.1.size) := by omega
          have hbg : begB pre x.1 = false := by unfold begB; rw [decide_eq_false hsz]; rfl
          go_wp2_with fail
          go_quiet (fail)
          go_wp2_with (first
            | (go_at_call 16; refine (get_any w.heap.size p bm L x.1 _ (HW.out.2.2.1.below (below_drewN HK.out.2 _))).mono ?_; rintro e w6 ⟨rfl, b6⟩; rw [getM_mem HW.out.2.2.2.2 (List.mem_of_getElem? HX.out)]; have H6 := hide (show Below w4.heap.size w4 w6 from (below_drewN HK.out.2 _).trans (b6.mono (below_drewN HK.out.2 _).size)); clear b6; refine stopHere ?_))
          unfold Hid
          obtain ⟨ba6, he6, hbl6, e0, e1⟩ := pr_cells (own_same HW.out.1 (fun g e => H6.out.block g (own_lt HW.out.1 g e))) HS.out.1.symm HX.out
          cases he6
          have z6 : (x.2.toList == x.2.toList) = true := by simp
          go_wp2_with fail
          go_roundw
          case rel => exact ⟨0 + 1, k, by omega, by simp, by simp, (scan_no HX.out hbg).trans HK.out.1, H6.out⟩
          case measure => simp [intOf]; omega
      · obtain ⟨n1, rfl⟩ : ∃ n1, n = n1 + 1 := ⟨n - 1, by omega⟩
        have hws : IntKind.i64.wrap (n1 : Int) = (n1 : Int) := by rw [IntKind.wrap_i64]; omega
        have hws2 : IntKind.i64.wrap ((n1 : Int) + 1 - 1) = (n1 : Int) := by rw [IntKind.wrap_i64]; omega
        have hws3 : IntKind.i64.wrap ((n1 : Int) + 1 + 1) = (n1 : Int) + 1 + 1 := by rw [IntKind.wrap_i64]; omega
        obtain ⟨y, hy⟩ : ∃ y, L[n1]? = some y := ⟨L[n1]'(by have := HS.out.1; omega), by simp⟩
        have hlt1 : (n1 : Int) < m := by omega
        have hlt2 : (n1 : Int) + 1 < m := by omega
        obtain ⟨ba1, hbe1, hbl1, f0, f1⟩ := pr_cells (own_same HW.out.1 (fun g e => HK.out.2.block g (own_lt HW.out.1 g e))) HS.out.1.symm hy
        cases hbe1
        have hles : Op.bytesLess y.1.toList x.1.toList = true := less_yes (rise_at HW.out.2.2.2.2 hy HX.out)
        clear hy
        by_cases hsz : pre.size ≤ x.1.size
        · have hszi : (pre.size : Int) ≤ x.1.size := by omega
          cases hex : ((x.1.extract 0 pre.size).toList == pre.toList) with
          | true =>
            have hbg : begB pre x.1 = true := by unfold begB; rw [decide_eq_true hsz, hex]; rfl
            obtain ⟨hk1, hk2⟩ := scan_yes HX.out hbg
            rw [HK.out.1] at hk1 hk2
            rw [HS.out.2.1] at hk1
            have hkc : k < c := by have h := (List.getElem?_eq_some_iff.1 hk1).1; have := HS.out.2.2; omega
            have hkci : ¬ ((c : Int) ≤ k) := by omega
            obtain ⟨bs, hbe, hbs, d0, d1⟩ := pr_cells (own_same HW.out.2.1 (fun g e => HK.out.2.block g (own_lt HW.out.2.1 g e))) HS.out.2.2.symm hk1
            subst hbe
            have HK2 := hide hk2
            clear hk1 hk2
            have z1 : (x.1.toList == x.1.toList) = true := by simp
            have z2 : (x.2.toList == x.2.toList) = true := by simp
            go_wp2_with fail
            go_quiet (fail)
            go_wp2_with fail
            have hq1 : (n1 : Int) + 1 < m := (by omega); have hq2 : (0 : Int) ≤ (n1 : Int) + 1 := (by omega); have hq3 : ((n1 : Int) + 1).toNat = n1 + 1 := (by omega)
            go_quiet (fail)
            go_wp2_with (first
              | (go_at_call 16; refine (get_any w.heap.size p bm L x.1 _ (HW.out.2.2.1.below (below_drewN HK.out.2 _))).mono ?_; rintro e w6 ⟨rfl, b6⟩; rw [getM_mem HW.out.2.2.2.2 (List.mem_of_getElem? HX.out)]; have H6 := hide (show Below w4.heap.size w4 w6 from (below_drewN HK.out.2 _).trans (b6.mono (below_drewN HK.out.2 _).size)); clear b6; refine stopHere ?_))
            unfold Hid
            obtain ⟨ba6, he6, hbl6, e0, e1⟩ := pr_cells (own_same HW.out.1 (fun g e => H6.out.block g (own_lt HW.out.1 g e))) HS.out.1.symm HX.out
            cases he6
            have z6 : (x.2.toList == x.2.toList) = true := by simp
            go_wp2_with fail
            go_roundw
            case rel => exact ⟨n1 + 1 + 1, k + 1, by omega, by simp, by simp, HK2.out, H6.out⟩
            case measure => simp [intOf]; omega
          | false =>
            have hbg : begB pre x.1 = false := by unfold begB; rw [decide_eq_true hsz, hex]; rfl
            go_wp2_with fail
            go_quiet (fail)
            go_wp2_with (first
              | (go_at_call 16; refine (get_any w.heap.size p bm L x.1 _ (HW.out.2.2.1.below (below_drewN HK.out.2 _))).mono ?_; rintro e w6 ⟨rfl, b6⟩; rw [getM_mem HW.out.2.2.2.2 (List.mem_of_getElem? HX.out)]; have H6 := hide (show Below w4.heap.size w4 w6 from (below_drewN HK.out.2 _).trans (b6.mono (below_drewN HK.out.2 _).size)); clear b6; refine stopHere ?_))
            unfold Hid
            obtain ⟨ba6, he6, hbl6, e0, e1⟩ := pr_cells (own_same HW.out.1 (fun g e => H6.out.block g (own_lt HW.out.1 g e))) HS.out.1.symm HX.out
            cases he6
            have z6 : (x.2.toList == x.2.toList) = true := by simp
            go_wp2_with fail
            go_roundw
            case rel => exact ⟨n1 + 1 + 1, k, by omega, by simp, by simp, (scan_no HX.out hbg).trans HK.out.1, H6.out⟩
            case measure => simp [intOf]; omega
        · have hszi : ¬ ((pre.size : Int) ≤ x.1.size) := by omega
          have hbg : begB pre x.1 = false := by unfold begB; rw [decide_eq_false hsz]; rfl
          go_wp2_with fail
          go_quiet (fail)
          go_wp2_with (first
            | (go_at_call 16; refine (get_any w.heap.size p bm L x.1 _ (HW.out.2.2.1.below (below_drewN HK.out.2 _))).mono ?_; rintro e w6 ⟨rfl, b6⟩; rw [getM_mem HW.out.2.2.2.2 (List.mem_of_getElem? HX.out)]; have H6 := hide (show Below w4.heap.size w4 w6 from (below_drewN HK.out.2 _).trans (b6.mono (below_drewN HK.out.2 _).size)); clear b6; refine stopHere ?_))
          unfold Hid
          obtain ⟨ba6, he6, hbl6, e0, e1⟩ := pr_cells (own_same HW.out.1 (fun g e => H6.out.block g (own_lt HW.out.1 g e))) HS.out.1.symm HX.out
          cases he6
          have z6 : (x.2.toList == x.2.toList) = true := by simp
          go_wp2_with fail
          go_roundw
          case rel => exact ⟨n1 + 1 + 1, k, by omega, by simp, by simp, (scan_no HX.out hbg).trans HK.out.1, H6.out⟩
          case measure => simp [intOf]; omega
    · obtain rfl : n = m := by omega
      have hlti : ¬ ((n : Int) < n) := by omega
      have hkc : k = c := by
        rw [← HK.out.1, ← HS.out.2.2, ← HS.out.2.1, ← HS.out.1, List.take_length]
      subst hkc
      go_wp2_with (first
        | (go_at_call 17; refine (len_any w.heap.size p bm L _ (HW.out.2.2.1.below HK.out.2)).mono ?_; rintro e w6 ⟨rfl, rfl⟩; rw [HS.out.1]))
      go_ret
      exact ⟨rfl, HW.out.2.2.2.1.trans (HK.out.2.mono hsz4)⟩
end Go.Proofs.Ytllpblnbdocfjaa
