/- TopRoots. -/
import Derived.Test.YtfknjmfkkaoggaaS23
namespace Go.Proofs.Ytfknjmfkkaoggaa
open Go.RowKit Go.Shelf

set_option maxRecDepth 100000 in
set_option maxHeartbeats 4000000 in
theorem topRoots_any (ba : Option Addr) (cap : Nat) (l : List UInt8) (n : Nat) (hn : n < 256) (cv : Nat) (hcv : cv < 256) (w : World) (hcl : l.length ≤ cap) (_hcm : cap ≤ 9223372036854775807) (hT : ByteMem w.heap.size w ba l) :
    Calls Try.prog 13 #[.slice ba l.length cap, .int .u8 n, .int .u8 cv] w fun e w' => e = .returned (.bool true) ∧ Below w.heap.size w w' := by
  have H0 := hide (new_any w.heap.size 20 w (Nat.le_refl _) (by omega) (by omega))
  have kc := fun (w : World) (C : Array Value) (n c : Nat) => Lib.run_convert_bytes_const (P := Try.prog) w 30 5 C n c Try.underlying30 Try.underlying5
  have HT := hide hT
  obtain ⟨ln, hln⟩ : ∃ ln, l.length = ln := ⟨_, rfl⟩
  rw [hln] at hcl ⊢
  obtain ⟨c, hc⟩ : ∃ c : UInt8, c.toNat = cv := ⟨UInt8.ofNat cv, by rw [UInt8.toNat_ofNat']; omega⟩
  clear hT
  go_enter Try.func13, Try.ntmps13
  go_wp2_with (first
    | (go_at_call 29; refine H0.out.mono ?_; rintro e w1 ⟨p0, vl0, rfl, d1, hp1, b1⟩; have s1 := b1.size; have H1 := hide (And.intro d1 b1); clear d1 b1)
    | (go_at_call 26; refine (sto_new (by omega) (by omega) H1.out.1 (by omega)).mono ?_; rintro e w2 ⟨q, p, vl, vw, rfl, d2, hq, b2, f2⟩; have s2 := b2.size; have H2 := hide (And.intro d2 (H1.out.2.trans (b2.mono s1))); clear d2 b2 f2; refine stopHere ?_))
  unfold Hid
  by_cases h5 : 500 < ln
  · have h5i : (500 : Int) < ln := by omega
    go_wp2_with fail
    go_ret
    exact ⟨rfl, H2.out.2⟩
  · have h5i : ¬ (500 : Int) < ln := by omega
    obtain ⟨W3, hW3, m3, b3, z3⟩ := const_bytes w2 [111, 108, 100] (3, 4)
    have HS := hide (save_sto (H2.out.1.below b3) (some ⟨w2.heap.size, 0, none⟩) [111, 108, 100] 3 3 m3 (fun b o _ e => by
      cases e
      exact ⟨by omega, fun hf => by have := (H2.out.1.lt hf).2; omega⟩) rfl (by omega) (by omega) (by decide))
    have HB := hide (H2.out.2.trans (b3.mono (by omega)))
    have HW := hide hW3
    clear m3 b3 hW3
    go_wp2_with (first
      | (go_at_call 22; rw [show w2.alloc (.cells #[.int .u8 111, .int .u8 108, .int .u8 100] 5 (3, 4)) = W3 from HW.out]; refine HS.out.mono ?_; rintro e w4 ⟨rfl, vl4, vw4, d4, f4, g4⟩; have s4 := f4.below.size; have H4 := hide (And.intro d4 (HB.out.trans f4.below)); clear d4 f4 g4; refine stopHere ?_))
    unfold Hid
    have hb4 := H4.out.2
    have hsv := save_sto H4.out.1 ba l ln cap (fun j v hj => by
      obtain ⟨b, o, e1, e2, e3⟩ := HT.out.below hb4 j v hj
      exact ⟨b, o, e1, by have := hb4.size; omega, e3⟩) (fun g o hne e => by
      obtain ⟨x, hx⟩ : ∃ x, l[0]? = some x := ⟨l[0]'(by cases l; exact absurd rfl hne; simp), by simp⟩
      obtain ⟨b, o', e1, e2, _⟩ := HT.out 0 x hx
      rw [e] at e1
      cases e1
      exact ⟨by have := hb4.size; omega, fun hf => by have := (H4.out.1.lt hf).1; omega⟩) hln hcl (by omega) (by decide)
    have hsv2 := hsv
    have HV := hide hsv2
    clear hsv hsv2 hb4
    go_wp2_with (first
      | (go_at_call 22; refine HV.out.mono ?_; rintro e w5 ⟨rfl, vl5, vw5, d5, f5, g5⟩; have s5 := f5.below.size; have H5 := hide (And.intro d5 (H4.out.2.trans f5.below)); clear d5 f5 g5)
      | (go_at_call 27; refine (device_any w.heap.size q p _ _ _ w5 H5.out.1.is H5.out.1.ok (by omega)).mono ?_; rintro e w6 ⟨pd, dl, dw, rfl, d6, b6, g6⟩; have s6 := b6.size; have H6 := hide (And.intro d6 (And.intro (H5.out.2.trans (b6.mono (by omega))) g6)); clear d6 b6 g6; refine stopHere ?_))
    unfold Hid
    have hinv : Inv (saveD (saveD (dvNew 20) [111, 108, 100]) l) 1 2#64 l := H5.out.1.inv
    obtain ⟨D, hD⟩ : ∃ D, saveD (saveD (dvNew 20) [111, 108, 100]) l = D := ⟨_, rfl⟩
    have hz : D.las.length = 20 := by rw [← hD]; exact H5.out.1.size
    rw [hD] at hinv H6
    obtain ⟨W7, hW7, f7, b7, z7⟩ : ∃ W, w6.alloc (.cells (secA sec0) 59) = W ∧ W.heap[w6.heap.size]? = some (.cells (secA sec0) 59) ∧ Below w6.heap.size w6 W ∧ W.heap.size = w6.heap.size + 1 := ⟨_, rfl, World.alloc_heap_new _ _, (Below.refl _ _).alloc (Nat.le_refl _) _, by simp⟩
    have H7 := hide (And.intro f7 (And.intro (H6.out.1.below b7) (And.intro (H6.out.2.1.trans (b7.mono (by omega))) b7)))
    have HI := hide hinv
    clear f7 b7 hinv
    go_wp2_with (refine l_alloc _ infoSecD rfl rfl ?_; rw [show (Lib.byteCells sec0).toArray = secA sec0 from rfl, hW7])
    go_loopw [10] (fun j wr => ∃ k : Nat, k ≤ 64 ∧ j = .int .i64 k ∧ wr.heap[w6.heap.size]? = some (.cells (secA (fillS c k)) 59) ∧ IsD w.heap.size pd D dl dw wr ∧ Below w.heap.size w wr ∧ w6.heap.size < wr.heap.size) (fun j _ => 64 - (intOf j).toNat)
    case atStart => exact ⟨0, Nat.zero_le _, rfl, H7.out.1, H7.out.2.1, H7.out.2.2.1, by omega⟩
    case round =>
      obtain ⟨k, hk, rfl, e1, hdv, hbw, hsz⟩ := hrel
      have hw1 : IntKind.i64.wrap ((k : Int) + 1) = k + 1 := by rw [IntKind.wrap_i64]; omega
      by_cases hlt : k < 64
      · have hlen := fillS_len c k hk
        have hcel : wr.cell? ⟨w6.heap.size, k, none⟩ = some ((secA (fillS c k))[k]'(by rw [secA_size, hlen]; exact hlt)) := by
          rw [cell_of_row _ _ _ _ _ _ e1]
          simp
        have hfz : wr.frozen? ⟨w6.heap.size, k, none⟩ = false := by simp [World.frozen?, e1]
        have hs := heap_setCell_same wr _ k _ _ (.int .u8 c.toNat) e1
        rw [fillS_succ c k hlt, hc] at hs
        obtain ⟨u, hu⟩ : ∃ u, (secA (fillS c k))[k]'(by rw [secA_size, hlen]; exact hlt) = u := ⟨_, rfl⟩
        rw [hu] at hcel
        have hbs : Below wr.heap.size wr (wr.setCell ⟨w6.heap.size, k, none⟩ (.int .u8 cv)) ∨ True := .inr trivial
        have hb2 := hbw.setCell (p := ⟨w6.heap.size, k, none⟩) (show w.heap.size ≤ w6.heap.size by omega) (.int .u8 cv)
        have hd2 : IsD w.heap.size pd D dl dw (wr.setCell ⟨w6.heap.size, k, none⟩ (.int .u8 cv)) := hdv.same (fun j hj => Below.heap_setCell _ _ _ _ (fun e => by
          have h1 := (H6.out.1.lt hj).2
          have e' : j = w6.heap.size := e
          omega))
        have hz2 : w6.heap.size < (wr.setCell ⟨w6.heap.size, k, none⟩ (.int .u8 cv)).heap.size := by
          have := ((Below.refl w.heap.size wr).setCell (p := ⟨w6.heap.size, k, none⟩) (show w.heap.size ≤ w6.heap.size by omega) (.int .u8 cv)).size
          omega
        have HE := hide (And.intro hs (And.intro hd2 (And.intro hb2 hz2)))
        have hkb : (k : Int) < 64 := by omega
        clear hs e1 hbw hu hdv hsz hbs hb2 hd2 hz2
        go_wp2_with fail
        go_roundw
        case rel => exact ⟨k + 1, by omega, by simp, HE.out.1, HE.out.2.1, HE.out.2.2.1, HE.out.2.2.2⟩
        case measure => simp [intOf]; omega
      · obtain rfl : k = 64 := by omega
        have hlo := run_load_row (P := Try.prog) (w := wr) (cs := secA (allC c)) (g := w6.heap.size) (ty' := 59) infoSecD undSecD rfl (by rw [secA_size]; exact fillS_len c 64 hk) e1
        have HL := hide hlo
        have HE := hide (And.intro hdv (And.intro hbw hsz))
        obtain ⟨at_, hat, hata, hatn⟩ : ∃ at_ : Nat, (if n % 10 = 9 then 0 else 2 + n % 9) = at_ ∧ (at_ = 0 ∨ (2 ≤ at_ ∧ at_ ≤ 10)) ∧ at_ < 20 := ⟨_, rfl, by split <;> omega, by split <;> omega⟩
        have hW := write_any w.heap.size pd D dl dw at_ (allC c) wr hdv HI.out.2.1 (hbw.size) (by rw [hz]; exact hatn) (fillS_len c 64 hk) (by rw [HI.out.1]; exact Nat.zero_lt_succ _)
        have HW2 := hide hW
        have s8 := hbw.size
        have hok : DvOk (dvWrite D at_ (allC c)) := dvWrite_ok HI.out.2.1 (by rw [hz]; exact hatn) (fillS_len c 64 hk) (by rw [HI.out.1]; exact Nat.zero_lt_succ _)
        have hthe := spoilt_the HI.out hz at_ hata c
        have HK := hide (And.intro hok hthe)
        have h29 : IntKind.i64.wrap (2 + Int.tmod (n : Int) 9) = ((2 + n % 9 : Nat) : Int) := by rw [Int.tmod_eq_emod_of_nonneg (by omega), IntKind.wrap_i64]; omega
        clear hlo e1 hbw hdv hsz hW hok hthe
        by_cases h9 : n % 10 = 9
        · rw [if_pos h9] at hat
          subst hat
          have h9i : Int.tmod (n : Int) 10 = 9 := by rw [Int.tmod_eq_emod_of_nonneg (by omega)]; omega
          have hWq := HW2.out
          rw [show ((0 : Nat) : Int) = 0 from rfl] at hWq
          go_wp2_with (first
            | (refine l_load _ HL.out rfl rfl rfl ?_)
            | (go_at_call 31; refine hWq.mono ?_; rintro e w9 ⟨rfl, vl9, vw9, d9, f9, _⟩; have s9 := f9.below.size; have H9 := hide (And.intro d9 (HE.out.2.1.trans f9.below)); clear d9 f9)
            | (go_at_call 26; refine (open_any w.heap.size pd _ vl9 vw9 w9 H9.out.1 HK.out.1 (by omega) (by show 4 ≤ D.las.length; omega)).mono ?_; rintro e w10 ⟨q10, p10, vl10, vw10, rfl, d10, hq10, b10, _⟩; have s10 := b10.size; have H10 := hide (And.intro d10 (H9.out.2.trans (b10.mono (by omega)))); clear d10 b10; refine stopHere ?_))
          unfold Hid
          clear hWq
          go_wp2_with fail
          obtain ⟨ab, hab⟩ : ∃ ab : ByteArray, ⟨l.toArray⟩ = ab := ⟨_, rfl⟩
          obtain ⟨V0, hV0⟩ : ∃ V0, w10.drew = V0 := ⟨_, rfl⟩
          have b0 : Below w10.heap.size w10 V0 := by rw [← hV0]; exact (Below.refl _ _).drew
          have z0 : V0.heap.size = w10.heap.size := by rw [← hV0]; rfl
          have B0 : Below w.heap.size w V0 := H10.out.2.trans (b0.mono (by omega))
          have HCA := hide (show ∀ V, Below V0.heap.size V0 V → (convert 30 9 (.slice ba ln cap)).run Try.prog V = .ok (.string ab) V from fun V hV => by
            rw [← hab, ← hln]
            exact conv_mem (HT.out.below (B0.trans (hV.mono (by omega)))) cap)
          have HLO := hide (show ∀ V, Below V0.heap.size V0 V → Calls Try.prog 20 #[.pointer (some ⟨q10, 0, none⟩)] V fun e w' => ∃ v, e = .returned v ∧ (convert 30 9 v).run Try.prog w' = .ok (.string ab) w' ∧ Below V.heap.size V w' from fun V hV => by
            have hS := (H10.out.1.below b0).below (hV.mono (by omega))
            have h := load_any w.heap.size q10 p10 _ vl10 vw10 V hS HK.out.1 (by show 4 ≤ D.las.length; omega) (by show D.las.length ≤ 4096; omega)
            rw [HK.out.2] at h
            refine h.mono ?_
            rintro e w' ⟨ga, gc, rfl, o, b⟩
            exact ⟨_, rfl, by rw [← hab]; exact conv_own o, b⟩)
          have HTU := hide (show ∀ V, Below V0.heap.size V0 V → Calls Try.prog 21 #[.pointer (some ⟨q10, 0, none⟩)] V fun e w' => e = .returned (.int .u64 2) ∧ Below V.heap.size V w' from fun V hV => by
            have hS := (H10.out.1.below b0).below (hV.mono (by omega))
            have h := turn_any w.heap.size q10 p10 _ vl10 vw10 V hS HK.out.1 (by show 4 ≤ D.las.length; omega) (by show D.las.length ≤ 4096; omega)
            rw [HK.out.2] at h
            exact h)
          refine region_rel (S := fun V => Below V0.heap.size V0 V) (fun a W => ∃ x0 x1 x2 x3 x4 x5 x7 x8 x9 x10 x11 x12 x13 x14 x15 x16 x17 x18 x19 x20 x21 x22 x23 x24 x25 x26 x27 x28 x29 x30 x31 x32 x33 x34 x35 x36 x37 x38 x39 x40 x41 x42 x43 x44 x45 x46 x47 x48 x49 x50 x51 x52 x53 x54 x55 x56 x57 x58 x59 x60 x61 x62 x63 x64 x65 x66 x67 x68 : Value, Below w.heap.size w W ∧ a = { tmps := #[x0, x1, x2, x3, x4, x5, .bool true, x7, x8, x9, x10, x11, x12, x13, x14, x15, x16, x17, x18, x19, x20, x21, x22, x23, x24, x25, x26, x27, x28, x29, x30, x31, x32, x33, x34, x35, x36, x37, x38, x39, x40, x41, x42, x43, x44, x45, x46, x47, x48, x49, x50, x51, x52, x53, x54, x55, x56, x57, x58, x59, x60, x61, x62, x63, x64, x65, x66, x67, x68], defers := [] }) (by kernel_rfl) ?any ?hq
          case any =>
            rw [hV0]
            clear hV0
            have S0 : Below V0.heap.size V0 V0 := Below.refl _ _
            refine anyH_take (i := 0) (v := .pointer (some ⟨q10, 0, none⟩)) rfl (some 58) rfl (by kernel_rfl) (by kernel_rfl) (by kernel_rfl) (fun _ _ _ h => by cases h.1) rfl (fun w0 hw0 => by first | rfl | kernel_rfl) S0 ?_
            simp only [Act.put, List.setIfInBounds_toArray, List.set_cons_zero, List.set_cons_succ]
            refine anyH_take (i := 3) (v := .slice ba ln cap) rfl (some 61) rfl (by kernel_rfl) (by kernel_rfl) (by kernel_rfl) (fun _ _ _ h => by cases h.1) rfl (fun w0 hw0 => by first | rfl | kernel_rfl) S0 ?_
            simp only [Act.put, List.setIfInBounds_toArray, List.set_cons_zero, List.set_cons_succ]
            refine anyH_take (i := 4) (v := .string ab) rfl (some 62) rfl (by kernel_rfl) (by kernel_rfl) (by kernel_rfl) (fun _ _ _ h => by cases h.1) rfl (fun w0 hw0 => ex_conv rfl rfl (HCA.out w0 hw0)) S0 ?_
            simp only [Act.put, List.setIfInBounds_toArray, List.set_cons_zero, List.set_cons_succ]
            refine anyH_one (i := 1) (by kernel_rfl) ?_
            refine op_call rfl (some 59) rfl rfl #[.pointer (some ⟨q10, 0, none⟩)] rfl (by simp [Act.eval]) (fun _ _ => rfl) (HLO.out V0 S0) ?_
            rintro e V1 ⟨v1, rfl, cv1, bx1⟩
            have b1 : Below V0.heap.size V0 V1 := bx1
            refine ⟨_, rfl, S0.trans (b1.mono S0.size), ?_⟩
            simp only [Act.put, List.setIfInBounds_toArray, List.set_cons_zero, List.set_cons_succ]
            refine anyH_more (fun V => Below V1.heap.size V1 V) (fun V hV => S0.trans ((b1.trans (hV.mono b1.size)).mono S0.size)) ?_
            have S1 : Below V1.heap.size V1 V1 := Below.refl _ _
            have B1 : Below w.heap.size w V1 := B0.trans (b1.mono B0.size)
            refine anyH_val (i := 2) (v := .string ab) (by kernel_rfl) rfl (some 60) rfl rfl (ex_conv rfl rfl cv1) S1 ?_
            simp only [Act.put, List.setIfInBounds_toArray, List.set_cons_zero, List.set_cons_succ]
            refine anyH_take (i := 5) (v := .bool true) rfl (some 63) rfl (by kernel_rfl) (by kernel_rfl) (by kernel_rfl) (fun _ _ _ h => by cases h.1) rfl (fun w0 hw0 => ex_eqs rfl rfl rfl) S1 ?_
            simp only [Act.put, List.setIfInBounds_toArray, List.set_cons_zero, List.set_cons_succ]
            refine anyH_take (i := 6) (v := .bool true) rfl (some 64) rfl (by kernel_rfl) (by kernel_rfl) (by kernel_rfl) (fun _ _ _ h => by cases h.1) rfl (fun w0 hw0 => by first | rfl | kernel_rfl) S1 ?_
            simp only [Act.put, List.setIfInBounds_toArray, List.set_cons_zero, List.set_cons_succ]
            refine anyH_take (i := 7) (v := .pointer (some ⟨q10, 0, none⟩)) rfl (some 65) rfl (by kernel_rfl) (by kernel_rfl) (by kernel_rfl) (fun _ _ _ h => by cases h.1) rfl (fun w0 hw0 => by first | rfl | kernel_rfl) S1 ?_
            simp only [Act.put, List.setIfInBounds_toArray, List.set_cons_zero, List.set_cons_succ]
            refine anyH_one (i := 8) (by kernel_rfl) ?_
            refine op_call rfl (some 66) rfl rfl #[.pointer (some ⟨q10, 0, none⟩)] rfl (by simp [Act.eval]) (fun _ _ => rfl) (HTU.out V1 (b1.trans (S1.mono b1.size))) ?_
            rintro e V2 ⟨rfl, bx2⟩
            have b2 : Below V1.heap.size V1 V2 := bx2
            refine ⟨_, rfl, S1.trans (b2.mono S1.size), ?_⟩
            simp only [Act.put, List.setIfInBounds_toArray, List.set_cons_zero, List.set_cons_succ]
            refine anyH_more (fun V => Below V2.heap.size V2 V) (fun V hV => S1.trans ((b2.trans (hV.mono b2.size)).mono S1.size)) ?_
            have S2 : Below V2.heap.size V2 V2 := Below.refl _ _
            have B2 : Below w.heap.size w V2 := B1.trans (b2.mono B1.size)
            refine anyH_take (i := 9) (v := .bool true) rfl (some 67) rfl (by kernel_rfl) (by kernel_rfl) (by kernel_rfl) (fun _ _ _ h => by cases h.1) rfl (fun w0 hw0 => ex_equ rfl rfl rfl) S2 ?_
            simp only [Act.put, List.setIfInBounds_toArray, List.set_cons_zero, List.set_cons_succ]
            refine anyH_take (i := 10) (v := .bool true) rfl (some 68) rfl (by kernel_rfl) (by kernel_rfl) (by kernel_rfl) (fun _ _ _ h => by cases h.1) rfl (fun w0 hw0 => ex_pick true rfl rfl rfl rfl) S2 ?_
            simp only [Act.put, List.setIfInBounds_toArray, List.set_cons_zero, List.set_cons_succ]
            refine anyH_val (i := 11) (by kernel_rfl) rfl (some 6) rfl rfl (ex_any rfl rfl) S2 ?_
            simp only [Act.put, List.setIfInBounds_toArray, List.set_cons_zero, List.set_cons_succ]
            exact wpAnyH_done (by kernel_rfl) ⟨rfl, _, _, _, _, _, _, _, _, _, _, _, _, _, _, _, _, _, _, _, _, _, _, _, _, _, _, _, _, _, _, _, _, _, _, _, _, _, _, _, _, _, _, _, _, _, _, _, _, _, _, _, _, _, _, _, _, _, _, _, _, _, _, _, _, _, _, _, _, B2, rfl⟩ _

          case hq =>
            rintro a W' ⟨x0, x1, x2, x3, x4, x5, x7, x8, x9, x10, x11, x12, x13, x14, x15, x16, x17, x18, x19, x20, x21, x22, x23, x24, x25, x26, x27, x28, x29, x30, x31, x32, x33, x34, x35, x36, x37, x38, x39, x40, x41, x42, x43, x44, x45, x46, x47, x48, x49, x50, x51, x52, x53, x54, x55, x56, x57, x58, x59, x60, x61, x62, x63, x64, x65, x66, x67, x68, hB, rfl⟩
            go_wp2_with fail
            go_ret
            exact ⟨rfl, hB⟩
        · rw [if_neg h9] at hat
          subst hat
          have h9i : ¬ Int.tmod (n : Int) 10 = 9 := by rw [Int.tmod_eq_emod_of_nonneg (by omega)]; omega
          obtain ⟨at_, hat⟩ : ∃ at_, 2 + n % 9 = at_ := ⟨_, rfl⟩
          rw [hat] at h29 HW2 HK
          have h30 : IntKind.i64.wrap (2 + (n : Int) % 9) = (at_ : Int) := by rw [IntKind.wrap_i64]; omega
          have h31 : 2 + (n : Int) % 9 = (at_ : Int) := by omega
          have hWq := HW2.out

          go_wp2_with (first
            | (refine l_load _ HL.out rfl rfl rfl ?_)
            | (go_at_call 31; refine hWq.mono ?_; rintro e w9 ⟨rfl, vl9, vw9, d9, f9, _⟩; have s9 := f9.below.size; have H9 := hide (And.intro d9 (HE.out.2.1.trans f9.below)); clear d9 f9)
            | (go_at_call 26; refine (open_any w.heap.size pd _ vl9 vw9 w9 H9.out.1 HK.out.1 (by omega) (by show 4 ≤ D.las.length; omega)).mono ?_; rintro e w10 ⟨q10, p10, vl10, vw10, rfl, d10, hq10, b10, _⟩; have s10 := b10.size; have H10 := hide (And.intro d10 (H9.out.2.trans (b10.mono (by omega)))); clear d10 b10; refine stopHere ?_))
          unfold Hid
          clear hWq
          go_wp2_with fail
          obtain ⟨ab, hab⟩ : ∃ ab : ByteArray, ⟨l.toArray⟩ = ab := ⟨_, rfl⟩
          obtain ⟨V0, hV0⟩ : ∃ V0, w10.drew = V0 := ⟨_, rfl⟩
          have b0 : Below w10.heap.size w10 V0 := by rw [← hV0]; exact (Below.refl _ _).drew
          have z0 : V0.heap.size = w10.heap.size := by rw [← hV0]; rfl
          have B0 : Below w.heap.size w V0 := H10.out.2.trans (b0.mono (by omega))
          have HCA := hide (show ∀ V, Below V0.heap.size V0 V → (convert 30 9 (.slice ba ln cap)).run Try.prog V = .ok (.string ab) V from fun V hV => by
            rw [← hab, ← hln]
            exact conv_mem (HT.out.below (B0.trans (hV.mono (by omega)))) cap)
          have HLO := hide (show ∀ V, Below V0.heap.size V0 V → Calls Try.prog 20 #[.pointer (some ⟨q10, 0, none⟩)] V fun e w' => ∃ v, e = .returned v ∧ (convert 30 9 v).run Try.prog w' = .ok (.string ab) w' ∧ Below V.heap.size V w' from fun V hV => by
            have hS := (H10.out.1.below b0).below (hV.mono (by omega))
            have h := load_any w.heap.size q10 p10 _ vl10 vw10 V hS HK.out.1 (by show 4 ≤ D.las.length; omega) (by show D.las.length ≤ 4096; omega)
            rw [HK.out.2] at h
            refine h.mono ?_
            rintro e w' ⟨ga, gc, rfl, o, b⟩
            exact ⟨_, rfl, by rw [← hab]; exact conv_own o, b⟩)
          have HTU := hide (show ∀ V, Below V0.heap.size V0 V → Calls Try.prog 21 #[.pointer (some ⟨q10, 0, none⟩)] V fun e w' => e = .returned (.int .u64 2) ∧ Below V.heap.size V w' from fun V hV => by
            have hS := (H10.out.1.below b0).below (hV.mono (by omega))
            have h := turn_any w.heap.size q10 p10 _ vl10 vw10 V hS HK.out.1 (by show 4 ≤ D.las.length; omega) (by show D.las.length ≤ 4096; omega)
            rw [HK.out.2] at h
            exact h)
          refine region_rel (S := fun V => Below V0.heap.size V0 V) (fun a W => ∃ x0 x1 x2 x3 x4 x5 x7 x8 x9 x10 x11 x12 x13 x14 x15 x16 x17 x18 x19 x20 x21 x22 x23 x24 x25 x26 x27 x28 x29 x30 x31 x32 x33 x34 x35 x36 x37 x38 x39 x40 x41 x42 x43 x44 x45 x46 x47 x48 x49 x50 x51 x52 x53 x54 x55 x56 x57 x58 x59 x60 x61 x62 x63 x64 x65 x66 x67 x68 : Value, Below w.heap.size w W ∧ a = { tmps := #[x0, x1, x2, x3, x4, x5, .bool true, x7, x8, x9, x10, x11, x12, x13, x14, x15, x16, x17, x18, x19, x20, x21, x22, x23, x24, x25, x26, x27, x28, x29, x30, x31, x32, x33, x34, x35, x36, x37, x38, x39, x40, x41, x42, x43, x44, x45, x46, x47, x48, x49, x50, x51, x52, x53, x54, x55, x56, x57, x58, x59, x60, x61, x62, x63, x64, x65, x66, x67, x68], defers := [] }) (by kernel_rfl) ?any ?hq
          case any =>
            rw [hV0]
            clear hV0
            have S0 : Below V0.heap.size V0 V0 := Below.refl _ _
            refine anyH_take (i := 0) (v := .pointer (some ⟨q10, 0, none⟩)) rfl (some 58) rfl (by kernel_rfl) (by kernel_rfl) (by kernel_rfl) (fun _ _ _ h => by cases h.1) rfl (fun w0 hw0 => by first | rfl | kernel_rfl) S0 ?_
            simp only [Act.put, List.setIfInBounds_toArray, List.set_cons_zero, List.set_cons_succ]
            refine anyH_take (i := 3) (v := .slice ba ln cap) rfl (some 61) rfl (by kernel_rfl) (by kernel_rfl) (by kernel_rfl) (fun _ _ _ h => by cases h.1) rfl (fun w0 hw0 => by first | rfl | kernel_rfl) S0 ?_
            simp only [Act.put, List.setIfInBounds_toArray, List.set_cons_zero, List.set_cons_succ]
            refine anyH_take (i := 4) (v := .string ab) rfl (some 62) rfl (by kernel_rfl) (by kernel_rfl) (by kernel_rfl) (fun _ _ _ h => by cases h.1) rfl (fun w0 hw0 => ex_conv rfl rfl (HCA.out w0 hw0)) S0 ?_
            simp only [Act.put, List.setIfInBounds_toArray, List.set_cons_zero, List.set_cons_succ]
            refine anyH_one (i := 1) (by kernel_rfl) ?_
            refine op_call rfl (some 59) rfl rfl #[.pointer (some ⟨q10, 0, none⟩)] rfl (by simp [Act.eval]) (fun _ _ => rfl) (HLO.out V0 S0) ?_
            rintro e V1 ⟨v1, rfl, cv1, bx1⟩
            have b1 : Below V0.heap.size V0 V1 := bx1
            refine ⟨_, rfl, S0.trans (b1.mono S0.size), ?_⟩
            simp only [Act.put, List.setIfInBounds_toArray, List.set_cons_zero, List.set_cons_succ]
            refine anyH_more (fun V => Below V1.heap.size V1 V) (fun V hV => S0.trans ((b1.trans (hV.mono b1.size)).mono S0.size)) ?_
            have S1 : Below V1.heap.size V1 V1 := Below.refl _ _
            have B1 : Below w.heap.size w V1 := B0.trans (b1.mono B0.size)
            refine anyH_val (i := 2) (v := .string ab) (by kernel_rfl) rfl (some 60) rfl rfl (ex_conv rfl rfl cv1) S1 ?_
            simp only [Act.put, List.setIfInBounds_toArray, List.set_cons_zero, List.set_cons_succ]
            refine anyH_take (i := 5) (v := .bool true) rfl (some 63) rfl (by kernel_rfl) (by kernel_rfl) (by kernel_rfl) (fun _ _ _ h => by cases h.1) rfl (fun w0 hw0 => ex_eqs rfl rfl rfl) S1 ?_
            simp only [Act.put, List.setIfInBounds_toArray, List.set_cons_zero, List.set_cons_succ]
            refine anyH_take (i := 6) (v := .bool true) rfl (some 64) rfl (by kernel_rfl) (by kernel_rfl) (by kernel_rfl) (fun _ _ _ h => by cases h.1) rfl (fun w0 hw0 => by first | rfl | kernel_rfl) S1 ?_
            simp only [Act.put, List.setIfInBounds_toArray, List.set_cons_zero, List.set_cons_succ]
            refine anyH_take (i := 7) (v := .pointer (some ⟨q10, 0, none⟩)) rfl (some 65) rfl (by kernel_rfl) (by kernel_rfl) (by kernel_rfl) (fun _ _ _ h => by cases h.1) rfl (fun w0 hw0 => by first | rfl | kernel_rfl) S1 ?_
            simp only [Act.put, List.setIfInBounds_toArray, List.set_cons_zero, List.set_cons_succ]
            refine anyH_one (i := 8) (by kernel_rfl) ?_
            refine op_call rfl (some 66) rfl rfl #[.pointer (some ⟨q10, 0, none⟩)] rfl (by simp [Act.eval]) (fun _ _ => rfl) (HTU.out V1 (b1.trans (S1.mono b1.size))) ?_
            rintro e V2 ⟨rfl, bx2⟩
            have b2 : Below V1.heap.size V1 V2 := bx2
            refine ⟨_, rfl, S1.trans (b2.mono S1.size), ?_⟩
            simp only [Act.put, List.setIfInBounds_toArray, List.set_cons_zero, List.set_cons_succ]
            refine anyH_more (fun V => Below V2.heap.size V2 V) (fun V hV => S1.trans ((b2.trans (hV.mono b2.size)).mono S1.size)) ?_
            have S2 : Below V2.heap.size V2 V2 := Below.refl _ _
            have B2 : Below w.heap.size w V2 := B1.trans (b2.mono B1.size)
            refine anyH_take (i := 9) (v := .bool true) rfl (some 67) rfl (by kernel_rfl) (by kernel_rfl) (by kernel_rfl) (fun _ _ _ h => by cases h.1) rfl (fun w0 hw0 => ex_equ rfl rfl rfl) S2 ?_
            simp only [Act.put, List.setIfInBounds_toArray, List.set_cons_zero, List.set_cons_succ]
            refine anyH_take (i := 10) (v := .bool true) rfl (some 68) rfl (by kernel_rfl) (by kernel_rfl) (by kernel_rfl) (fun _ _ _ h => by cases h.1) rfl (fun w0 hw0 => ex_pick true rfl rfl rfl rfl) S2 ?_
            simp only [Act.put, List.setIfInBounds_toArray, List.set_cons_zero, List.set_cons_succ]
            refine anyH_val (i := 11) (by kernel_rfl) rfl (some 6) rfl rfl (ex_any rfl rfl) S2 ?_
            simp only [Act.put, List.setIfInBounds_toArray, List.set_cons_zero, List.set_cons_succ]
            exact wpAnyH_done (by kernel_rfl) ⟨rfl, _, _, _, _, _, _, _, _, _, _, _, _, _, _, _, _, _, _, _, _, _, _, _, _, _, _, _, _, _, _, _, _, _, _, _, _, _, _, _, _, _, _, _, _, _, _, _, _, _, _, _, _, _, _, _, _, _, _, _, _, _, _, _, _, _, _, _, _, B2, rfl⟩ _

          case hq =>
            rintro a W' ⟨x0, x1, x2, x3, x4, x5, x7, x8, x9, x10, x11, x12, x13, x14, x15, x16, x17, x18, x19, x20, x21, x22, x23, x24, x25, x26, x27, x28, x29, x30, x31, x32, x33, x34, x35, x36, x37, x38, x39, x40, x41, x42, x43, x44, x45, x46, x47, x48, x49, x50, x51, x52, x53, x54, x55, x56, x57, x58, x59, x60, x61, x62, x63, x64, x65, x66, x67, x68, hB, rfl⟩
            go_wp2_with fail
            go_ret
            exact ⟨rfl, hB⟩
end Go.Proofs.Ytfknjmfkkaoggaa
