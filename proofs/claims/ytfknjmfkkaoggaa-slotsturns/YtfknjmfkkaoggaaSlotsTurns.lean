/- SlotsTurns. -/
import Derived.Test.YtfknjmfkkaoggaaS22
namespace Go.Proofs.Ytfknjmfkkaoggaa
open Go.RowKit Go.Shelf

set_option maxRecDepth 100000 in
set_option maxHeartbeats 4000000 in
theorem slotsTurns_any (ao : Option Addr) (cap : Nat) (ts : List ByteArray) (w : World) (hT : TxMem w.heap.size w ao ts) :
    Calls Try.prog 11 #[.slice ao ts.length cap] w fun e w' => e = .returned (.bool true) ∧ Below w.heap.size w w' := by
  have H0 := hide (new_any w.heap.size 30 w (Nat.le_refl _) (by omega) (by omega))
  have hlen := hT.1
  have HT := hide hT
  obtain ⟨tn, htn⟩ : ∃ tn, ts.length = tn := ⟨_, rfl⟩
  rw [htn]
  rw [htn] at hlen
  clear hT
  go_enter Try.func11, Try.ntmps11
  go_wp2_with (first
    | (go_at_call 29; refine H0.out.mono ?_; rintro e w1 ⟨p0, vl0, rfl, d1, hp1, b1⟩; have s1 := b1.size; have H1 := hide (And.intro d1 b1); clear d1 b1)
    | (go_at_call 26; refine (sto_new (by omega) (by omega) H1.out.1 (by omega)).mono ?_; rintro e w2 ⟨q, p, vl, vw, rfl, d2, hq, b2, f2⟩; have s2 := b2.size; have H2 := hide (And.intro d2 (H1.out.2.trans (b2.mono s1))); clear d2 b2 f2))
  go_loopw [4, 5] (fun la i wr => ∃ (k : Nat) (bl : ByteArray) (d : Dv) (vl vw : Value), k ≤ min tn 12 ∧ i = .int .i64 k ∧ la = .string bl ∧ Sto w.heap.size q (1 - k % 2) (BitVec.ofNat 64 k) bl.data.toList 30 p d vl vw wr ∧ Below w.heap.size w wr) (fun _ i _ => min tn 12 - (intOf i).toNat)
  case atStart => exact ⟨0, ⟨#[]⟩, _, _, _, Nat.zero_le _, rfl, rfl, H2.out.1, H2.out.2⟩
  case round =>
    obtain ⟨k, bl, d, vl3, vw3, hk, rfl, rfl, hS, hbw⟩ := hrel
    have hw1 : IntKind.i64.wrap ((k : Int) + 1) = k + 1 := by rw [IntKind.wrap_i64]; omega
    by_cases hlt : k < min tn 12
    · have hl1 : (k : Int) < tn := by omega
      have hl2 : (k : Int) < 12 := by omega
      obtain ⟨t, ht⟩ : ∃ t, ts[k]? = some t := ⟨ts[k]'(by omega), by simp⟩
      obtain ⟨bb, off, rfl, hb0, c0⟩ := (HT.out.below hbw).2 k t ht
      have HS := hide (And.intro hS hbw)
      clear hS hbw
      by_cases h2 : 200 < t.size
      · have h2i : (200 : Int) < t.size := by omega
        have h2j : (200 : Int) ≤ t.size := by omega
        go_wp2_with fail
        obtain ⟨u, hu, hul⟩ : ∃ u : ByteArray, t.extract 0 200 = u ∧ u.size ≤ 200 := ⟨_, rfl, by rw [ByteArray.size_extract]; omega⟩
        rw [hu]
        have htk : (BitVec.ofNat 64 k).toNat = k := by rw [BitVec.toNat_ofNat]; omega
        have htk1 : ((BitVec.ofNat 64 (k + 1)).toNat : Int) = (k : Int) + 1 := by rw [BitVec.toNat_ofNat]; omega
        have hinc : BitVec.ofNat 64 k + 1#64 = BitVec.ofNat 64 (k + 1) := by
          apply BitVec.eq_of_toNat_eq
          rw [inc_nat (by omega), htk, BitVec.toNat_ofNat]
          omega
        have hpar : 1 - (1 - k % 2) = 1 - (k + 1) % 2 := by omega
        have hpar2 : 1 - (1 - k % 2) = k % 2 := by omega
        have HD := hide (device_any w.heap.size q p d vl3 vw3 wr HS.out.1.is HS.out.1.ok HS.out.1.low)
        refine HD.out.mono ?_
        rintro e w4 ⟨pd, dl, dw, rfl, d4, b4, f4⟩
        have s4 := b4.size
        have s0 := HS.out.1.low
        have H4 := hide (And.intro d4 (And.intro (HS.out.1.below b4) (And.intro (HS.out.2.trans (b4.mono s0)) f4)))
        clear d4 b4 f4
        obtain ⟨W5, c5, cv5, m5, b5, z5, hc5⟩ := str_bytes w4 u
        have hsv := save_sto (H4.out.2.1.below b5) _ _ u.size c5 m5 (fun g o _ e => by
          cases e
          exact ⟨by omega, fun hf => by have := (H4.out.2.1.lt hf).2; omega⟩) (size_toList u) hc5 (by omega) (by omega)
        rw [hinc, hpar] at hsv
        have HV := hide hsv
        have H5 := hide (And.intro (H4.out.1.below b5) (H4.out.2.2.1.trans (b5.mono (by omega))))
        clear m5 b5 hsv
        go_wp2_with (first
          | (go_at_call 22; refine HV.out.mono ?_; rintro e w6 ⟨rfl, vl6, vw6, d6, f6, n6⟩; refine stopHere ?_))
        unfold Hid
        obtain ⟨i1, i2, i3, i4⟩ := inv_save (b := u.data.toList) HS.out.1.inv (by rw [size_toList, HS.out.1.size]; omega) (by omega)
        rw [hpar2] at i4
        have hlow : (rT (readS d (k % 2))).toNat < k + 1 := by
          obtain ⟨_, _, _, _, ⟨e1, _, e3, e4, e5⟩ | ⟨_, _, _, e4⟩⟩ := HS.out.1.inv
          · rw [show k % 2 = 0 by omega, e4]
            exact Nat.succ_pos _
          · rw [hpar2, htk] at e4
            omega
        have hne : readS d (k % 2) ≠ readS (saveD d u.data.toList) (k % 2) := fun e => by
          rw [i4] at e
          rw [e, root_T, hinc] at hlow
          have : (BitVec.ofNat 64 (k + 1)).toNat = k + 1 := by omega
          omega
        have dd6 := H5.out.1.apart f6 (fun j hj hf => by
          have h1 := (HS.out.1.lt hf).2
          have h2 := H4.out.2.2.2 j hj
          omega)
        have s6 := f6.below.size
        have hok : DvOk d := HS.out.1.ok
        have hok6 : DvOk (saveD d u.data.toList) := d6.ok
        have hz6 : (saveD d u.data.toList).las.length = 30 := d6.size
        have hzd : d.las.length = 30 := HS.out.1.size
        have H6 := hide (And.intro d6 (And.intro dd6 (H5.out.2.trans f6.below)))
        have HI := hide (And.intro hne (And.intro i3 (And.intro hok hok6)))
        have hlt6 : w.heap.size ≤ w6.heap.size := (H5.out.2.trans f6.below).size
        clear i1 i2 i3 i4 hlow hne dd6 d6 f6 n6 hok hok6
        have hu1 : IntKind.u64.wrap (k : Int) = k := by show (k : Int) % 18446744073709551616 = k; omega
        have hu2 : IntKind.u64.wrap ((k : Int) + 1) = (k : Int) + 1 := by show ((k : Int) + 1) % 18446744073709551616 = _; omega
        have hr1 : Int.tmod (k : Int) 2 = ((k % 2 : Nat) : Int) := by rw [Int.tmod_eq_emod_of_nonneg (by omega)]; omega
        obtain ⟨r, hr⟩ : ∃ r, k % 2 = r := ⟨_, rfl⟩
        have hrl : r < 2 := by omega
        have hr2 : IntKind.i64.wrap (1 - (r : Int)) = ((1 - r : Nat) : Int) := by rw [IntKind.wrap_i64]; omega
        rw [hr] at hr1 HI
        clear hpar2 hpar hinc
        go_wp2_with (first
          | (go_at_call 21; refine (turn_sto H6.out.1).mono ?_; rintro e w7 ⟨rfl, b7⟩; rw [htk1]; have s7 := b7.size; have H7 := hide (And.intro (H6.out.1.below b7) (And.intro (H6.out.2.1.below b7) (H6.out.2.2.trans (b7.mono (by omega))))); clear b7)
          | (go_at_call 20; refine (load_str H7.out.1 u (mk_toList u)).mono ?_; rintro e w8 ⟨v8, rfl, cv8, b8⟩; have s8 := b8.size; have H8 := hide (And.intro (H7.out.1.below b8) (And.intro (H7.out.2.1.below b8) (H7.out.2.2.trans (b8.mono (by omega))))); clear b8)
          | (go_at_call 36; refine stopHere ?_))
        unfold Hid
        obtain ⟨hne, hsame, hok, hok6⟩ := HI.out
        obtain ⟨sa, hsa⟩ : ∃ x, readS d r = x := ⟨_, rfl⟩
        obtain ⟨sb, hsb⟩ : ∃ x, readS (saveD d u.data.toList) r = x := ⟨_, rfl⟩
        obtain ⟨sc, hsc⟩ : ∃ x, readS d (1 - r) = x := ⟨_, rfl⟩
        rw [hsc] at hsame
        rw [hsa, hsb] at hne
        have la : sa.length = 64 := by rw [← hsa]; exact readAt_len d hok _ _
        have lb : sb.length = 64 := by rw [← hsb]; exact readAt_len _ hok6 _ _
        have lc : sc.length = 64 := by rw [← hsc]; exact readAt_len d hok _ _
        have HQ := hide (And.intro hok hok6)
        have HH8 := hide (show _ from (And.intro H8.out.1 (And.intro H8.out.2.1 (And.intro H8.out.2.2 trivial))))
        clear hok hok6
        have hrd9 := read_any w.heap.size pd d dl dw (r) w8 HH8.out.2.1 HQ.out.1 (by rw [hzd]; omega)
        rw [hsa] at hrd9
        have HR9 := hide hrd9
        clear hrd9
        refine HR9.out.mono ?_
        rintro e w9 ⟨rfl, b9⟩
        have s9 := b9.size
        have H9 := hide (And.intro (HH8.out.1.below b9) (And.intro (HH8.out.2.1.below b9) (And.intro (HH8.out.2.2.1.trans (b9.mono (by omega))) trivial)))
        clear b9
        obtain ⟨W10, st10, bx10, b10, z10⟩ := sec_new w9 sa la
        have HST10 := hide st10
        have s10 := b10.size
        have H10 := hide (And.intro (H9.out.1.below b10) (And.intro (H9.out.2.1.below b10) (And.intro (H9.out.2.2.1.trans (b10.mono (by omega))) (And.intro bx10 trivial))))
        clear b10 bx10 st10
        go_wp2_with (first | (refine l_alloc _ infoSecD rfl rfl ?_) | (refine l_store _ HST10.out rfl rfl rfl rfl ?_; refine stopHere ?_))
        unfold Hid
        go_wp2_with (go_at_call 27; refine (device_any w.heap.size q p _ vl6 vw6 W10 H10.out.1.is HQ.out.2 (by omega)).mono ?_; rintro e w11 ⟨pf11, fl11, fw11, rfl, dv11, b11, _⟩; have s11 := b11.size; refine stopHere ?_)
        unfold Hid
        have DV11 := hide dv11
        have H11 := hide (And.intro (H10.out.1.below b11) (And.intro (H10.out.2.1.below b11) (And.intro (H10.out.2.2.1.trans (b11.mono (by omega))) (And.intro ((b11.block _ (hp_lt H10.out.2.2.2.1)).trans H10.out.2.2.2.1) trivial))))
        clear b11 dv11
        have hrd12 := read_any w.heap.size pf11 (saveD d u.data.toList) fl11 fw11 (r) w11 DV11.out HQ.out.2 (by rw [hz6]; omega)
        rw [hsb] at hrd12
        have HR12 := hide hrd12
        clear hrd12
        go_wp2_with (go_at_call 36; refine HR12.out.mono ?_; rintro e w12 ⟨rfl, b12⟩; have s12 := b12.size; refine stopHere ?_)
        unfold Hid
        have H12 := hide (And.intro (H11.out.1.below b12) (And.intro (H11.out.2.1.below b12) (And.intro (H11.out.2.2.1.trans (b12.mono (by omega))) (And.intro ((b12.block _ (hp_lt H11.out.2.2.2.1)).trans H11.out.2.2.2.1) trivial))))
        clear b12
        obtain ⟨W13, st13, bx13, b13, z13⟩ := sec_new w12 sb lb
        have HST13 := hide st13
        have s13 := b13.size
        have H13 := hide (And.intro (H12.out.1.below b13) (And.intro (H12.out.2.1.below b13) (And.intro (H12.out.2.2.1.trans (b13.mono (by omega))) (And.intro ((b13.block _ (hp_lt H12.out.2.2.2.1)).trans H12.out.2.2.2.1) (And.intro bx13 trivial)))))
        clear b13 bx13 st13
        go_wp2_with (first | (refine l_alloc _ infoSecD rfl rfl ?_) | (refine l_store _ HST13.out rfl rfl rfl rfl ?_; refine stopHere ?_))
        unfold Hid
        have hrd14 := read_any w.heap.size pd d dl dw (1 - r) W13 H13.out.2.1 HQ.out.1 (by rw [hzd]; omega)
        rw [hsc] at hrd14
        have HR14 := hide hrd14
        clear hrd14
        go_wp2_with (go_at_call 36; refine HR14.out.mono ?_; rintro e w14 ⟨rfl, b14⟩; have s14 := b14.size; refine stopHere ?_)
        unfold Hid
        have H14 := hide (And.intro (H13.out.1.below b14) (And.intro (H13.out.2.1.below b14) (And.intro (H13.out.2.2.1.trans (b14.mono (by omega))) (And.intro ((b14.block _ (hp_lt H13.out.2.2.2.1)).trans H13.out.2.2.2.1) (And.intro ((b14.block _ (hp_lt H13.out.2.2.2.2.1)).trans H13.out.2.2.2.2.1) trivial)))))
        clear b14
        obtain ⟨W15, st15, bx15, b15, z15⟩ := sec_new w14 sc lc
        have HST15 := hide st15
        have s15 := b15.size
        have H15 := hide (And.intro (H14.out.1.below b15) (And.intro (H14.out.2.1.below b15) (And.intro (H14.out.2.2.1.trans (b15.mono (by omega))) (And.intro ((b15.block _ (hp_lt H14.out.2.2.2.1)).trans H14.out.2.2.2.1) (And.intro ((b15.block _ (hp_lt H14.out.2.2.2.2.1)).trans H14.out.2.2.2.2.1) (And.intro bx15 trivial))))))
        clear b15 bx15 st15
        go_wp2_with (first | (refine l_alloc _ infoSecD rfl rfl ?_) | (refine l_store _ HST15.out rfl rfl rfl rfl ?_; refine stopHere ?_))
        unfold Hid
        go_wp2_with (go_at_call 27; refine (device_any w.heap.size q p _ vl6 vw6 W15 H15.out.1.is HQ.out.2 (by omega)).mono ?_; rintro e w16 ⟨pf16, fl16, fw16, rfl, dv16, b16, _⟩; have s16 := b16.size; refine stopHere ?_)
        unfold Hid
        have DV16 := hide dv16
        have H16 := hide (And.intro (H15.out.1.below b16) (And.intro (H15.out.2.1.below b16) (And.intro (H15.out.2.2.1.trans (b16.mono (by omega))) (And.intro ((b16.block _ (hp_lt H15.out.2.2.2.1)).trans H15.out.2.2.2.1) (And.intro ((b16.block _ (hp_lt H15.out.2.2.2.2.1)).trans H15.out.2.2.2.2.1) (And.intro ((b16.block _ (hp_lt H15.out.2.2.2.2.2.1)).trans H15.out.2.2.2.2.2.1) trivial))))))
        clear b16 dv16
        have hrd17 := read_any w.heap.size pf16 (saveD d u.data.toList) fl16 fw16 (1 - r) w16 DV16.out HQ.out.2 (by rw [hz6]; omega)
        rw [hsame] at hrd17
        have HR17 := hide hrd17
        clear hrd17
        go_wp2_with (go_at_call 36; refine HR17.out.mono ?_; rintro e w17 ⟨rfl, b17⟩; have s17 := b17.size; refine stopHere ?_)
        unfold Hid
        have H17 := hide (And.intro (H16.out.1.below b17) (And.intro (H16.out.2.1.below b17) (And.intro (H16.out.2.2.1.trans (b17.mono (by omega))) (And.intro ((b17.block _ (hp_lt H16.out.2.2.2.1)).trans H16.out.2.2.2.1) (And.intro ((b17.block _ (hp_lt H16.out.2.2.2.2.1)).trans H16.out.2.2.2.2.1) (And.intro ((b17.block _ (hp_lt H16.out.2.2.2.2.2.1)).trans H16.out.2.2.2.2.2.1) trivial))))))
        clear b17
        obtain ⟨W18, st18, bx18, b18, z18⟩ := sec_new w17 sc lc
        have HST18 := hide st18
        have s18 := b18.size
        have H18 := hide (And.intro (H17.out.1.below b18) (And.intro (H17.out.2.1.below b18) (And.intro (H17.out.2.2.1.trans (b18.mono (by omega))) (And.intro ((b18.block _ (hp_lt H17.out.2.2.2.1)).trans H17.out.2.2.2.1) (And.intro ((b18.block _ (hp_lt H17.out.2.2.2.2.1)).trans H17.out.2.2.2.2.1) (And.intro ((b18.block _ (hp_lt H17.out.2.2.2.2.2.1)).trans H17.out.2.2.2.2.2.1) (And.intro bx18 trivial)))))))
        clear b18 bx18 st18
        go_wp2_with (first | (refine l_alloc _ infoSecD rfl rfl ?_) | (refine l_store _ HST18.out rfl rfl rfl rfl ?_; refine stopHere ?_))
        unfold Hid
        have LD0 := hide (run_load_row (P := Try.prog) (w := W18) (cs := secA sa) (g := w9.heap.size) (ty' := 59) infoSecD undSecD rfl (by rw [secA_size, la]) H18.out.2.2.2.1)
        have LD1 := hide (run_load_row (P := Try.prog) (w := W18) (cs := secA sb) (g := w12.heap.size) (ty' := 59) infoSecD undSecD rfl (by rw [secA_size, lb]) H18.out.2.2.2.2.1)
        have LD2 := hide (run_load_row (P := Try.prog) (w := W18) (cs := secA sc) (g := w14.heap.size) (ty' := 59) infoSecD undSecD rfl (by rw [secA_size, lc]) H18.out.2.2.2.2.2.1)
        have LD3 := hide (run_load_row (P := Try.prog) (w := W18) (cs := secA sc) (g := w17.heap.size) (ty' := 59) infoSecD undSecD rfl (by rw [secA_size, lc]) H18.out.2.2.2.2.2.2.1)
        have heq := sec_eql (T := 59) undSecD sa sb la lb W18
        rw [decide_eq_false hne] at heq
        have hnq := sec_neq (T := 59) undSecD sc sc lc lc W18
        rw [decide_eq_true rfl] at hnq
        have HEQ := hide heq
        have HNQ := hide hnq
        clear heq hnq hne hsame
        go_wp2_with (first | (refine g_val rfl _ (ex_load rfl rfl LD0.out) ?_; refine stopHere ?_))
        unfold Hid
        refine g_val rfl _ (ex_load rfl rfl LD1.out) ?_
        refine g_val rfl (.bool false) (ex_eql (u := secA sa) (v := secA sb) rfl rfl rfl (by kernel_rfl) HEQ.out) ?_
        refine g_val (w' := W18) rfl (.bool false) (by kernel_rfl) ?_
        simp only [Act.put, List.setIfInBounds_toArray, List.set_cons_zero, List.set_cons_succ]
        refine g_val (by kernel_rfl) _ (ex_load rfl rfl LD2.out) ?_
        refine g_val (by kernel_rfl) _ (ex_load rfl rfl LD3.out) ?_
        refine g_val (by kernel_rfl) (.bool false) (ex_neq (u := secA sc) (v := secA sc) rfl rfl rfl (by kernel_rfl) HNQ.out) ?_
        simp only [Act.put, List.setIfInBounds_toArray, List.set_cons_zero, List.set_cons_succ]
        have HO := hide (open_sto H18.out.2.1 HS.out.1.inv (by omega) hzd (by omega) (by omega))
        go_wp2_with (first
          | (go_at_call 26; refine HO.out.mono ?_; rintro e w30 ⟨q30, p30, vl30, vw30, rfl, d30, hq30, b30, _⟩; have s30 := b30.size; have H30 := hide (And.intro d30 (And.intro (H18.out.1.below b30) (H18.out.2.2.1.trans (b30.mono (by omega))))); clear d30 b30)
          | (go_at_call 20; refine (load_str H30.out.1 bl (mk_toList bl)).mono ?_; rintro e w31 ⟨v31, rfl, cv31, b31⟩; have H31 := hide (And.intro (H30.out.2.1.below b31) (H30.out.2.2.trans (b31.mono (by omega)))); clear b31))
        go_roundw
        case rel => exact ⟨k + 1, u, saveD d u.data.toList, vl6, vw6, by omega, by simp, rfl, H31.out.1, H31.out.2⟩
        case measure => simp [intOf]; omega
      · have h2i : ¬ (200 : Int) < t.size := by omega
        obtain ⟨u, hu, hul⟩ : ∃ u : ByteArray, t = u ∧ u.size ≤ 200 := ⟨_, rfl, by omega⟩
        rw [hu] at c0 h2i
        go_wp2_with fail
        have htk : (BitVec.ofNat 64 k).toNat = k := by rw [BitVec.toNat_ofNat]; omega
        have htk1 : ((BitVec.ofNat 64 (k + 1)).toNat : Int) = (k : Int) + 1 := by rw [BitVec.toNat_ofNat]; omega
        have hinc : BitVec.ofNat 64 k + 1#64 = BitVec.ofNat 64 (k + 1) := by
          apply BitVec.eq_of_toNat_eq
          rw [inc_nat (by omega), htk, BitVec.toNat_ofNat]
          omega
        have hpar : 1 - (1 - k % 2) = 1 - (k + 1) % 2 := by omega
        have hpar2 : 1 - (1 - k % 2) = k % 2 := by omega
        have HD := hide (device_any w.heap.size q p d vl3 vw3 wr HS.out.1.is HS.out.1.ok HS.out.1.low)
        refine HD.out.mono ?_
        rintro e w4 ⟨pd, dl, dw, rfl, d4, b4, f4⟩
        have s4 := b4.size
        have s0 := HS.out.1.low
        have H4 := hide (And.intro d4 (And.intro (HS.out.1.below b4) (And.intro (HS.out.2.trans (b4.mono s0)) f4)))
        clear d4 b4 f4
        obtain ⟨W5, c5, cv5, m5, b5, z5, hc5⟩ := str_bytes w4 u
        have hsv := save_sto (H4.out.2.1.below b5) _ _ u.size c5 m5 (fun g o _ e => by
          cases e
          exact ⟨by omega, fun hf => by have := (H4.out.2.1.lt hf).2; omega⟩) (size_toList u) hc5 (by omega) (by omega)
        rw [hinc, hpar] at hsv
        have HV := hide hsv
        have H5 := hide (And.intro (H4.out.1.below b5) (H4.out.2.2.1.trans (b5.mono (by omega))))
        clear m5 b5 hsv
        go_wp2_with (first
          | (go_at_call 22; refine HV.out.mono ?_; rintro e w6 ⟨rfl, vl6, vw6, d6, f6, n6⟩; refine stopHere ?_))
        unfold Hid
        obtain ⟨i1, i2, i3, i4⟩ := inv_save (b := u.data.toList) HS.out.1.inv (by rw [size_toList, HS.out.1.size]; omega) (by omega)
        rw [hpar2] at i4
        have hlow : (rT (readS d (k % 2))).toNat < k + 1 := by
          obtain ⟨_, _, _, _, ⟨e1, _, e3, e4, e5⟩ | ⟨_, _, _, e4⟩⟩ := HS.out.1.inv
          · rw [show k % 2 = 0 by omega, e4]
            exact Nat.succ_pos _
          · rw [hpar2, htk] at e4
            omega
        have hne : readS d (k % 2) ≠ readS (saveD d u.data.toList) (k % 2) := fun e => by
          rw [i4] at e
          rw [e, root_T, hinc] at hlow
          have : (BitVec.ofNat 64 (k + 1)).toNat = k + 1 := by omega
          omega
        have dd6 := H5.out.1.apart f6 (fun j hj hf => by
          have h1 := (HS.out.1.lt hf).2
          have h2 := H4.out.2.2.2 j hj
          omega)
        have s6 := f6.below.size
        have hok : DvOk d := HS.out.1.ok
        have hok6 : DvOk (saveD d u.data.toList) := d6.ok
        have hz6 : (saveD d u.data.toList).las.length = 30 := d6.size
        have hzd : d.las.length = 30 := HS.out.1.size
        have H6 := hide (And.intro d6 (And.intro dd6 (H5.out.2.trans f6.below)))
        have HI := hide (And.intro hne (And.intro i3 (And.intro hok hok6)))
        have hlt6 : w.heap.size ≤ w6.heap.size := (H5.out.2.trans f6.below).size
        clear i1 i2 i3 i4 hlow hne dd6 d6 f6 n6 hok hok6
        have hu1 : IntKind.u64.wrap (k : Int) = k := by show (k : Int) % 18446744073709551616 = k; omega
        have hu2 : IntKind.u64.wrap ((k : Int) + 1) = (k : Int) + 1 := by show ((k : Int) + 1) % 18446744073709551616 = _; omega
        have hr1 : Int.tmod (k : Int) 2 = ((k % 2 : Nat) : Int) := by rw [Int.tmod_eq_emod_of_nonneg (by omega)]; omega
        obtain ⟨r, hr⟩ : ∃ r, k % 2 = r := ⟨_, rfl⟩
        have hrl : r < 2 := by omega
        have hr2 : IntKind.i64.wrap (1 - (r : Int)) = ((1 - r : Nat) : Int) := by rw [IntKind.wrap_i64]; omega
        rw [hr] at hr1 HI
        clear hpar2 hpar hinc
        go_wp2_with (first
          | (go_at_call 21; refine (turn_sto H6.out.1).mono ?_; rintro e w7 ⟨rfl, b7⟩; rw [htk1]; have s7 := b7.size; have H7 := hide (And.intro (H6.out.1.below b7) (And.intro (H6.out.2.1.below b7) (H6.out.2.2.trans (b7.mono (by omega))))); clear b7)
          | (go_at_call 20; refine (load_str H7.out.1 u (mk_toList u)).mono ?_; rintro e w8 ⟨v8, rfl, cv8, b8⟩; have s8 := b8.size; have H8 := hide (And.intro (H7.out.1.below b8) (And.intro (H7.out.2.1.below b8) (H7.out.2.2.trans (b8.mono (by omega))))); clear b8)
          | (go_at_call 36; refine stopHere ?_))
        unfold Hid
        obtain ⟨hne, hsame, hok, hok6⟩ := HI.out
        obtain ⟨sa, hsa⟩ : ∃ x, readS d r = x := ⟨_, rfl⟩
        obtain ⟨sb, hsb⟩ : ∃ x, readS (saveD d u.data.toList) r = x := ⟨_, rfl⟩
        obtain ⟨sc, hsc⟩ : ∃ x, readS d (1 - r) = x := ⟨_, rfl⟩
        rw [hsc] at hsame
        rw [hsa, hsb] at hne
        have la : sa.length = 64 := by rw [← hsa]; exact readAt_len d hok _ _
        have lb : sb.length = 64 := by rw [← hsb]; exact readAt_len _ hok6 _ _
        have lc : sc.length = 64 := by rw [← hsc]; exact readAt_len d hok _ _
        have HQ := hide (And.intro hok hok6)
        have HH8 := hide (show _ from (And.intro H8.out.1 (And.intro H8.out.2.1 (And.intro H8.out.2.2 trivial))))
        clear hok hok6
        have hrd9 := read_any w.heap.size pd d dl dw (r) w8 HH8.out.2.1 HQ.out.1 (by rw [hzd]; omega)
        rw [hsa] at hrd9
        have HR9 := hide hrd9
        clear hrd9
        refine HR9.out.mono ?_
        rintro e w9 ⟨rfl, b9⟩
        have s9 := b9.size
        have H9 := hide (And.intro (HH8.out.1.below b9) (And.intro (HH8.out.2.1.below b9) (And.intro (HH8.out.2.2.1.trans (b9.mono (by omega))) trivial)))
        clear b9
        obtain ⟨W10, st10, bx10, b10, z10⟩ := sec_new w9 sa la
        have HST10 := hide st10
        have s10 := b10.size
        have H10 := hide (And.intro (H9.out.1.below b10) (And.intro (H9.out.2.1.below b10) (And.intro (H9.out.2.2.1.trans (b10.mono (by omega))) (And.intro bx10 trivial))))
        clear b10 bx10 st10
        go_wp2_with (first | (refine l_alloc _ infoSecD rfl rfl ?_) | (refine l_store _ HST10.out rfl rfl rfl rfl ?_; refine stopHere ?_))
        unfold Hid
        go_wp2_with (go_at_call 27; refine (device_any w.heap.size q p _ vl6 vw6 W10 H10.out.1.is HQ.out.2 (by omega)).mono ?_; rintro e w11 ⟨pf11, fl11, fw11, rfl, dv11, b11, _⟩; have s11 := b11.size; refine stopHere ?_)
        unfold Hid
        have DV11 := hide dv11
        have H11 := hide (And.intro (H10.out.1.below b11) (And.intro (H10.out.2.1.below b11) (And.intro (H10.out.2.2.1.trans (b11.mono (by omega))) (And.intro ((b11.block _ (hp_lt H10.out.2.2.2.1)).trans H10.out.2.2.2.1) trivial))))
        clear b11 dv11
        have hrd12 := read_any w.heap.size pf11 (saveD d u.data.toList) fl11 fw11 (r) w11 DV11.out HQ.out.2 (by rw [hz6]; omega)
        rw [hsb] at hrd12
        have HR12 := hide hrd12
        clear hrd12
        go_wp2_with (go_at_call 36; refine HR12.out.mono ?_; rintro e w12 ⟨rfl, b12⟩; have s12 := b12.size; refine stopHere ?_)
        unfold Hid
        have H12 := hide (And.intro (H11.out.1.below b12) (And.intro (H11.out.2.1.below b12) (And.intro (H11.out.2.2.1.trans (b12.mono (by omega))) (And.intro ((b12.block _ (hp_lt H11.out.2.2.2.1)).trans H11.out.2.2.2.1) trivial))))
        clear b12
        obtain ⟨W13, st13, bx13, b13, z13⟩ := sec_new w12 sb lb
        have HST13 := hide st13
        have s13 := b13.size
        have H13 := hide (And.intro (H12.out.1.below b13) (And.intro (H12.out.2.1.below b13) (And.intro (H12.out.2.2.1.trans (b13.mono (by omega))) (And.intro ((b13.block _ (hp_lt H12.out.2.2.2.1)).trans H12.out.2.2.2.1) (And.intro bx13 trivial)))))
        clear b13 bx13 st13
        go_wp2_with (first | (refine l_alloc _ infoSecD rfl rfl ?_) | (refine l_store _ HST13.out rfl rfl rfl rfl ?_; refine stopHere ?_))
        unfold Hid
        have hrd14 := read_any w.heap.size pd d dl dw (1 - r) W13 H13.out.2.1 HQ.out.1 (by rw [hzd]; omega)
        rw [hsc] at hrd14
        have HR14 := hide hrd14
        clear hrd14
        go_wp2_with (go_at_call 36; refine HR14.out.mono ?_; rintro e w14 ⟨rfl, b14⟩; have s14 := b14.size; refine stopHere ?_)
        unfold Hid
        have H14 := hide (And.intro (H13.out.1.below b14) (And.intro (H13.out.2.1.below b14) (And.intro (H13.out.2.2.1.trans (b14.mono (by omega))) (And.intro ((b14.block _ (hp_lt H13.out.2.2.2.1)).trans H13.out.2.2.2.1) (And.intro ((b14.block _ (hp_lt H13.out.2.2.2.2.1)).trans H13.out.2.2.2.2.1) trivial)))))
        clear b14
        obtain ⟨W15, st15, bx15, b15, z15⟩ := sec_new w14 sc lc
        have HST15 := hide st15
        have s15 := b15.size
        have H15 := hide (And.intro (H14.out.1.below b15) (And.intro (H14.out.2.1.below b15) (And.intro (H14.out.2.2.1.trans (b15.mono (by omega))) (And.intro ((b15.block _ (hp_lt H14.out.2.2.2.1)).trans H14.out.2.2.2.1) (And.intro ((b15.block _ (hp_lt H14.out.2.2.2.2.1)).trans H14.out.2.2.2.2.1) (And.intro bx15 trivial))))))
        clear b15 bx15 st15
        go_wp2_with (first | (refine l_alloc _ infoSecD rfl rfl ?_) | (refine l_store _ HST15.out rfl rfl rfl rfl ?_; refine stopHere ?_))
        unfold Hid
        go_wp2_with (go_at_call 27; refine (device_any w.heap.size q p _ vl6 vw6 W15 H15.out.1.is HQ.out.2 (by omega)).mono ?_; rintro e w16 ⟨pf16, fl16, fw16, rfl, dv16, b16, _⟩; have s16 := b16.size; refine stopHere ?_)
        unfold Hid
        have DV16 := hide dv16
        have H16 := hide (And.intro (H15.out.1.below b16) (And.intro (H15.out.2.1.below b16) (And.intro (H15.out.2.2.1.trans (b16.mono (by omega))) (And.intro ((b16.block _ (hp_lt H15.out.2.2.2.1)).trans H15.out.2.2.2.1) (And.intro ((b16.block _ (hp_lt H15.out.2.2.2.2.1)).trans H15.out.2.2.2.2.1) (And.intro ((b16.block _ (hp_lt H15.out.2.2.2.2.2.1)).trans H15.out.2.2.2.2.2.1) trivial))))))
        clear b16 dv16
        have hrd17 := read_any w.heap.size pf16 (saveD d u.data.toList) fl16 fw16 (1 - r) w16 DV16.out HQ.out.2 (by rw [hz6]; omega)
        rw [hsame] at hrd17
        have HR17 := hide hrd17
        clear hrd17
        go_wp2_with (go_at_call 36; refine HR17.out.mono ?_; rintro e w17 ⟨rfl, b17⟩; have s17 := b17.size; refine stopHere ?_)
        unfold Hid
        have H17 := hide (And.intro (H16.out.1.below b17) (And.intro (H16.out.2.1.below b17) (And.intro (H16.out.2.2.1.trans (b17.mono (by omega))) (And.intro ((b17.block _ (hp_lt H16.out.2.2.2.1)).trans H16.out.2.2.2.1) (And.intro ((b17.block _ (hp_lt H16.out.2.2.2.2.1)).trans H16.out.2.2.2.2.1) (And.intro ((b17.block _ (hp_lt H16.out.2.2.2.2.2.1)).trans H16.out.2.2.2.2.2.1) trivial))))))
        clear b17
        obtain ⟨W18, st18, bx18, b18, z18⟩ := sec_new w17 sc lc
        have HST18 := hide st18
        have s18 := b18.size
        have H18 := hide (And.intro (H17.out.1.below b18) (And.intro (H17.out.2.1.below b18) (And.intro (H17.out.2.2.1.trans (b18.mono (by omega))) (And.intro ((b18.block _ (hp_lt H17.out.2.2.2.1)).trans H17.out.2.2.2.1) (And.intro ((b18.block _ (hp_lt H17.out.2.2.2.2.1)).trans H17.out.2.2.2.2.1) (And.intro ((b18.block _ (hp_lt H17.out.2.2.2.2.2.1)).trans H17.out.2.2.2.2.2.1) (And.intro bx18 trivial)))))))
        clear b18 bx18 st18
        go_wp2_with (first | (refine l_alloc _ infoSecD rfl rfl ?_) | (refine l_store _ HST18.out rfl rfl rfl rfl ?_; refine stopHere ?_))
        unfold Hid
        have LD0 := hide (run_load_row (P := Try.prog) (w := W18) (cs := secA sa) (g := w9.heap.size) (ty' := 59) infoSecD undSecD rfl (by rw [secA_size, la]) H18.out.2.2.2.1)
        have LD1 := hide (run_load_row (P := Try.prog) (w := W18) (cs := secA sb) (g := w12.heap.size) (ty' := 59) infoSecD undSecD rfl (by rw [secA_size, lb]) H18.out.2.2.2.2.1)
        have LD2 := hide (run_load_row (P := Try.prog) (w := W18) (cs := secA sc) (g := w14.heap.size) (ty' := 59) infoSecD undSecD rfl (by rw [secA_size, lc]) H18.out.2.2.2.2.2.1)
        have LD3 := hide (run_load_row (P := Try.prog) (w := W18) (cs := secA sc) (g := w17.heap.size) (ty' := 59) infoSecD undSecD rfl (by rw [secA_size, lc]) H18.out.2.2.2.2.2.2.1)
        have heq := sec_eql (T := 59) undSecD sa sb la lb W18
        rw [decide_eq_false hne] at heq
        have hnq := sec_neq (T := 59) undSecD sc sc lc lc W18
        rw [decide_eq_true rfl] at hnq
        have HEQ := hide heq
        have HNQ := hide hnq
        clear heq hnq hne hsame
        go_wp2_with (first | (refine g_val rfl _ (ex_load rfl rfl LD0.out) ?_; refine stopHere ?_))
        unfold Hid
        refine g_val rfl _ (ex_load rfl rfl LD1.out) ?_
        refine g_val rfl (.bool false) (ex_eql (u := secA sa) (v := secA sb) rfl rfl rfl (by kernel_rfl) HEQ.out) ?_
        refine g_val (w' := W18) rfl (.bool false) (by kernel_rfl) ?_
        simp only [Act.put, List.setIfInBounds_toArray, List.set_cons_zero, List.set_cons_succ]
        refine g_val (by kernel_rfl) _ (ex_load rfl rfl LD2.out) ?_
        refine g_val (by kernel_rfl) _ (ex_load rfl rfl LD3.out) ?_
        refine g_val (by kernel_rfl) (.bool false) (ex_neq (u := secA sc) (v := secA sc) rfl rfl rfl (by kernel_rfl) HNQ.out) ?_
        simp only [Act.put, List.setIfInBounds_toArray, List.set_cons_zero, List.set_cons_succ]
        have HO := hide (open_sto H18.out.2.1 HS.out.1.inv (by omega) hzd (by omega) (by omega))
        go_wp2_with (first
          | (go_at_call 26; refine HO.out.mono ?_; rintro e w30 ⟨q30, p30, vl30, vw30, rfl, d30, hq30, b30, _⟩; have s30 := b30.size; have H30 := hide (And.intro d30 (And.intro (H18.out.1.below b30) (H18.out.2.2.1.trans (b30.mono (by omega))))); clear d30 b30)
          | (go_at_call 20; refine (load_str H30.out.1 bl (mk_toList bl)).mono ?_; rintro e w31 ⟨v31, rfl, cv31, b31⟩; have H31 := hide (And.intro (H30.out.2.1.below b31) (H30.out.2.2.trans (b31.mono (by omega)))); clear b31))
        go_roundw
        case rel => exact ⟨k + 1, u, saveD d u.data.toList, vl6, vw6, by omega, by simp, rfl, H31.out.1, H31.out.2⟩
        case measure => simp [intOf]; omega
    · have hex : ¬ ((k : Int) < tn ∧ (k : Int) < 12) := by omega
      have HS := hide (And.intro hS hbw)
      have s0 := hS.low
      clear hS hbw
      have HLV := hide (live_any wr)
      rcases (show ¬ (k : Int) < tn ∨ ((k : Int) < tn ∧ ¬ (k : Int) < 12) by omega) with hx | ⟨hx, hx2⟩
      · clear hex
        go_wp2_with (first
          | (go_at_call 15; refine HLV.out.mono ?_; rintro e w4 ⟨rfl, b4⟩; have s4 := b4.size; have H4 := hide (And.intro (HS.out.1.below b4) (HS.out.2.trans (b4.mono s0))); clear b4)
          | (go_at_call 23; refine (room_sto H4.out.1).mono ?_; rintro e w5 ⟨rfl, b5⟩; have H5 := hide (H4.out.2.trans (b5.mono (by omega))); clear b5))
        go_ret
        exact ⟨rfl, H5.out⟩
      · clear hex
        go_wp2_with (first
          | (go_at_call 15; refine HLV.out.mono ?_; rintro e w4 ⟨rfl, b4⟩; have s4 := b4.size; have H4 := hide (And.intro (HS.out.1.below b4) (HS.out.2.trans (b4.mono s0))); clear b4)
          | (go_at_call 23; refine (room_sto H4.out.1).mono ?_; rintro e w5 ⟨rfl, b5⟩; have H5 := hide (H4.out.2.trans (b5.mono (by omega))); clear b5))
        go_ret
        exact ⟨rfl, H5.out⟩
end Go.Proofs.Ytfknjmfkkaoggaa
