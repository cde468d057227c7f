/- SlotsLoads. -/
import Derived.Test.YtfknjmfkkaoggaaS28
namespace Go.Proofs.Ytfknjmfkkaoggaa
open Go.RowKit Go.Shelf

set_option maxRecDepth 100000 in
set_option maxHeartbeats 4000000 in
theorem slotsLoads_any (n : Nat) (hn : n < 256) (ao : Option Addr) (dcap : Nat) (ds : List Sd) (ba : Option Addr) (b : List UInt8) (cap : Nat) (w : World) (hm : SdMem w.heap.size w ao ds) (hB : ByteMem w.heap.size w ba b) (hc : b.length ≤ cap) (hcm : cap ≤ 9223372036854775807) :
    Calls Try.prog 5 #[.int .u8 n, .slice ao ds.length dcap, .slice ba b.length cap] w fun e w' => e = .returned (.bool true) ∧ Below w.heap.size w w' := by
  have H0 := hide (play_any n hn ao dcap ds w hm)
  obtain ⟨m, hmm⟩ : ∃ m, n % 16 + 4 = m := ⟨_, rfl⟩
  have hm1 : 4 ≤ m := by omega
  have hm2 : m ≤ 20 := by omega
  rw [hmm] at H0
  obtain ⟨dn, hdn⟩ : ∃ dn, ds.length = dn := ⟨_, rfl⟩
  obtain ⟨ln, hln⟩ : ∃ ln, b.length = ln := ⟨_, rfl⟩
  rw [hdn] at H0
  rw [hdn, hln]
  rw [hln] at hc
  have HB := hide hB
  have HLN := hide hln
  clear hm hB hdn hmm
  go_enter Try.func5, Try.ntmps5
  go_wp2_with (first
    | (go_at_call 14; refine H0.out.mono ?_; rintro e w1 ⟨qs, ps, qt, pt, d, rfl, P1, b1⟩; obtain ⟨vl, vw, k, t, l, t1, jt⟩ := P1.sto hm1 (by omega); have s1 := b1.size; have H1 := hide (And.intro t1 b1); clear t1 b1 P1)
    | (go_at_call 15; refine (live_any w1).mono ?_; rintro e w2 ⟨rfl, b2⟩; have s2 := b2.size; have H2 := hide (And.intro (H1.out.1.below b2) (H1.out.2.trans (b2.mono s1))); clear b2))
  obtain ⟨ls, hls⟩ : ∃ ls : ByteArray, ⟨l.toArray⟩ = ls := ⟨_, rfl⟩
  have HLS := hide hls
  clear hls
  have T0 := (H2.out.1).below (Below.refl _ w2).drew
  have B0 : Below w2.heap.size w2 w2.drew := (Below.refl _ w2).drew
  obtain ⟨V0, hV0⟩ : ∃ V0, w2.drew = V0 := ⟨_, rfl⟩
  rw [hV0] at B0 T0
  refine region_rel (S := fun V => Below V0.heap.size V0 V) (fun a W => ∃ xx : Nat → Value, (Below w2.heap.size w2 W) ∧ a = { tmps := #[.int .u8 n, .slice ao dn dcap, .slice ba ln cap, xx 3, xx 4, xx 5, .bool false, .pointer (some ⟨qs, 0, none⟩), xx 8, xx 9, .string ls, .int .u64 t.toNat, xx 12, xx 13, xx 14, xx 15, xx 16, xx 17, xx 18, xx 19, xx 20, xx 21, xx 22, xx 23, xx 24, xx 25, xx 26, xx 27, xx 28, xx 29, xx 30, xx 31, xx 32, xx 33, xx 34, xx 35, xx 36, xx 37, xx 38, xx 39, xx 40, xx 41, xx 42, xx 43, xx 44, xx 45, xx 46, xx 47, xx 48, xx 49, xx 50, xx 51, xx 52, xx 53, xx 54, xx 55, xx 56, xx 57, xx 58, xx 59, xx 60, xx 61, xx 62, xx 63, xx 64, xx 65, xx 66, xx 67, xx 68, xx 69, xx 70, xx 71, xx 72, xx 73, xx 74, xx 75, xx 76, xx 77], defers := [] }) (by kernel_rfl) ?any1 ?fin1
  case any1 =>
    rw [hV0]
    clear hV0
    have S0 : Below V0.heap.size V0 V0 := Below.refl _ _
    refine anyH_take (i := 0) (v := .pointer (some ⟨qs, 0, none⟩)) rfl (some 26) rfl (by kernel_rfl) (by kernel_rfl) (by kernel_rfl) (fun _ _ _ h => by cases h.1) (by kernel_rfl) (fun w0 hw0 => by first | rfl | kernel_rfl) S0 ?_
    simp only [Act.put, List.setIfInBounds_toArray, List.set_cons_zero, List.set_cons_succ]
    refine anyH_take (i := 3) (v := .pointer (some ⟨qs, 0, none⟩)) rfl (some 29) rfl (by kernel_rfl) (by kernel_rfl) (by kernel_rfl) (fun _ _ _ h => by cases h.1) (by kernel_rfl) (fun w0 hw0 => by first | rfl | kernel_rfl) S0 ?_
    simp only [Act.put, List.setIfInBounds_toArray, List.set_cons_zero, List.set_cons_succ]
    refine anyH_one (i := 1) (by kernel_rfl) ?_
    refine op_call rfl (some 27) rfl (by kernel_rfl) #[.pointer (some ⟨qs, 0, none⟩)] rfl (by simp [Act.eval]) (fun _ _ => rfl) (load_sto T0) ?_
    rintro e V1 ⟨ga, gc, rfl, r1, b1⟩
    have b1 : Below V0.heap.size V0 V1 := b1
    refine ⟨_, rfl, S0.trans (b1.mono S0.size), ?_⟩
    simp only [Act.put, List.setIfInBounds_toArray, List.set_cons_zero, List.set_cons_succ]
    refine anyH_more (fun V => Below V1.heap.size V1 V) (fun V hV => S0.trans ((b1.trans (hV.mono b1.size)).mono S0.size)) ?_
    have S1 : Below V1.heap.size V1 V1 := Below.refl _ _
    have B1 : Below w2.heap.size w2 V1 := B0.trans (b1.mono B0.size)
    have T1 := T0.below b1
    refine anyH_take (i := 2) (v := .string ls) rfl (some 28) rfl (by kernel_rfl) (by kernel_rfl) (by kernel_rfl) (fun _ _ _ h => by cases h.1) (by kernel_rfl) (fun w0 hw0 => ex_conv rfl rfl (HLS.out ▸ conv_own (own_same r1 (fun g e => hw0.block g (own_lt r1 g e))))) S1 ?_
    simp only [Act.put, List.setIfInBounds_toArray, List.set_cons_zero, List.set_cons_succ]
    refine anyH_one (i := 4) (by kernel_rfl) ?_
    refine op_call rfl (some 30) rfl (by kernel_rfl) #[.pointer (some ⟨qs, 0, none⟩)] rfl (by simp [Act.eval]) (fun _ _ => rfl) (turn_sto T1) ?_
    rintro e V2 ⟨rfl, b2⟩
    have b2 : Below V1.heap.size V1 V2 := b2
    refine ⟨_, rfl, S1.trans (b2.mono S1.size), ?_⟩
    simp only [Act.put, List.setIfInBounds_toArray, List.set_cons_zero, List.set_cons_succ]
    refine anyH_more (fun V => Below V2.heap.size V2 V) (fun V hV => S1.trans ((b2.trans (hV.mono b2.size)).mono S1.size)) ?_
    have S2 : Below V2.heap.size V2 V2 := Below.refl _ _
    have B2 : Below w2.heap.size w2 V2 := B1.trans (b2.mono B1.size)
    have T2 := T1.below b2
    refine anyH_take (i := 5) (v := .string ls) rfl (some 10) rfl (by kernel_rfl) (by kernel_rfl) (by kernel_rfl) (fun _ _ _ h => by cases h.1) (by kernel_rfl) (fun w0 hw0 => by first | rfl | kernel_rfl) S2 ?_
    simp only [Act.put, List.setIfInBounds_toArray, List.set_cons_zero, List.set_cons_succ]
    refine anyH_val (i := 6) (by kernel_rfl) rfl (some 11) rfl (by kernel_rfl) (ex_any rfl rfl) S2 ?_
    simp only [Act.put, List.setIfInBounds_toArray, List.set_cons_zero, List.set_cons_succ]
    exact wpAnyH_done (by kernel_rfl) ⟨rfl, fill (B2) (by kernel_rfl)⟩ _
  case fin1 =>
    clear hV0 B0 T0
    rintro a W1 ⟨xx, hB1, rfl⟩
    have H3 := hide (And.intro (H2.out.1.below hB1) (H2.out.2.trans (hB1.mono (by omega))))
    have s3 := hB1.size
    clear hB1
    have hb3 := hide (HB.out.below H3.out.2)
    by_cases hf : (m - 2) / 2 * 64 < ln
    · have HV := hide (save_no H3.out.1 ba ln cap (by omega) (by omega) hf)
      have hfi : (((m - 2) / 2 * 64 : Nat) : Int) < (ln : Int) := by omega
      obtain ⟨rm, hrm⟩ : ∃ rm, (m - 2) / 2 * 64 = rm := ⟨_, rfl⟩
      rw [hrm] at hfi
      have HRM := hide hrm
      clear hrm
      go_wp2_with (first
        | (go_at_call 22; refine HV.out.mono ?_; rintro e w5 ⟨rfl, vl5, vw5, t5, b5⟩; have s5 := b5.size; have H5 := hide (And.intro t5 (H3.out.2.trans b5)); clear t5 b5)
        | (go_at_call 23; refine (room_sto H5.out.1).mono ?_; rintro e w6 ⟨rfl, b6⟩; rw [HRM.out]; have s6 := b6.size; have H6 := hide (And.intro (H5.out.1.below b6) (H5.out.2.trans (b6.mono (by omega)))); clear b6)
        | (go_at_call 20; refine (load_str H6.out.1 ls HLS.out).mono ?_; rintro e w7 ⟨v7, rfl, cv7, b7⟩; have s7 := b7.size; have H7 := hide (And.intro (H6.out.1.below b7) (H6.out.2.trans (b7.mono (by omega)))); clear b7)
        | (go_at_call 21; refine (turn_sto H7.out.1).mono ?_; rintro e w8 ⟨rfl, b8⟩; have H8 := hide (H7.out.2.trans (b8.mono (by omega))); clear b8))
      go_ret
      exact ⟨rfl, H8.out⟩
    · have HV := hide (save_yes H3.out.1 hb3.out (by omega) HLN.out hc (by omega) (by omega))
      go_wp2_with (first
        | (go_at_call 22; refine HV.out.mono ?_; rintro e w5 ⟨rfl, vl5, vw5, t5, b5⟩; have s5 := b5.size; have H5 := hide (And.intro t5 (H3.out.2.trans b5)); clear t5 b5))
      obtain ⟨bs, hbs⟩ : ∃ bs : ByteArray, ⟨b.toArray⟩ = bs := ⟨_, rfl⟩
      have HBS := hide hbs
      have HCB := hide fun (V : World) (hV : ByteMem w.heap.size V ba b) => (show (convert 30 9 (.slice ba ln cap)).run Try.prog V = .ok (.string bs) V from by
        have := conv_mem hV cap
        rwa [HLN.out, hbs] at this)
      clear hbs
      have T0 := (H5.out.1).below (Below.refl _ w5).drew
      have B0 : Below w5.heap.size w5 w5.drew := (Below.refl _ w5).drew
      obtain ⟨V0, hV0⟩ : ∃ V0, w5.drew = V0 := ⟨_, rfl⟩
      rw [hV0] at B0 T0
      refine region_rel (S := fun V => Below V0.heap.size V0 V) (fun a W => ∃ xx : Nat → Value, (Below w5.heap.size w5 W) ∧ a = { tmps := #[xx 0, xx 1, xx 2, xx 3, xx 4, xx 5, .bool true, xx 7, xx 8, xx 9, xx 10, xx 11, xx 12, xx 13, xx 14, xx 15, xx 16, xx 17, xx 18, xx 19, xx 20, xx 21, xx 22, xx 23, xx 24, xx 25, xx 26, xx 27, xx 28, xx 29, xx 30, xx 31, xx 32, xx 33, xx 34, xx 35, xx 36, xx 37, xx 38, xx 39, xx 40, xx 41, xx 42, xx 43, xx 44, xx 45, xx 46, xx 47, xx 48, xx 49, xx 50, xx 51, xx 52, xx 53, xx 54, xx 55, xx 56, xx 57, xx 58, xx 59, xx 60, xx 61, xx 62, xx 63, xx 64, xx 65, xx 66, xx 67, xx 68, xx 69, xx 70, xx 71, xx 72, xx 73, xx 74, xx 75, xx 76, xx 77], defers := [] }) (by kernel_rfl) ?any2 ?fin2
      case any2 =>
        have Z0 : w.heap.size ≤ V0.heap.size := by rw [← hV0]; show w.heap.size ≤ w5.heap.size; omega
        have C0 : ByteMem w.heap.size V0 ba b := by rw [← hV0]; exact (HB.out.below H5.out.2).below (Below.refl _ w5).drew
        rw [hV0]
        clear hV0
        have S0 : Below V0.heap.size V0 V0 := Below.refl _ _
        refine anyH_take (i := 0) (v := .pointer (some ⟨qs, 0, none⟩)) rfl (some 58) rfl (by kernel_rfl) (by kernel_rfl) (by kernel_rfl) (fun _ _ _ h => by cases h.1) (by kernel_rfl) (fun w0 hw0 => by first | rfl | kernel_rfl) S0 ?_
        simp only [Act.put, List.setIfInBounds_toArray, List.set_cons_zero, List.set_cons_succ]
        refine anyH_take (i := 3) (v := .slice ba ln cap) rfl (some 61) rfl (by kernel_rfl) (by kernel_rfl) (by kernel_rfl) (fun _ _ _ h => by cases h.1) (by kernel_rfl) (fun w0 hw0 => by first | rfl | kernel_rfl) S0 ?_
        simp only [Act.put, List.setIfInBounds_toArray, List.set_cons_zero, List.set_cons_succ]
        refine anyH_take (i := 4) (v := .string bs) rfl (some 62) rfl (by kernel_rfl) (by kernel_rfl) (by kernel_rfl) (fun _ _ _ h => by cases h.1) (by kernel_rfl) (fun w0 hw0 => ex_conv rfl rfl (HCB.out w0 (C0.below (hw0.mono Z0)))) S0 ?_
        simp only [Act.put, List.setIfInBounds_toArray, List.set_cons_zero, List.set_cons_succ]
        refine anyH_one (i := 1) (by kernel_rfl) ?_
        refine op_call rfl (some 59) rfl (by kernel_rfl) #[.pointer (some ⟨qs, 0, none⟩)] rfl (by simp [Act.eval]) (fun _ _ => rfl) (load_sto T0) ?_
        rintro e V1 ⟨ga, gc, rfl, r1, b1⟩
        have b1 : Below V0.heap.size V0 V1 := b1
        refine ⟨_, rfl, S0.trans (b1.mono S0.size), ?_⟩
        simp only [Act.put, List.setIfInBounds_toArray, List.set_cons_zero, List.set_cons_succ]
        refine anyH_more (fun V => Below V1.heap.size V1 V) (fun V hV => S0.trans ((b1.trans (hV.mono b1.size)).mono S0.size)) ?_
        have S1 : Below V1.heap.size V1 V1 := Below.refl _ _
        have B1 : Below w5.heap.size w5 V1 := B0.trans (b1.mono B0.size)
        have T1 := T0.below b1
        refine anyH_take (i := 2) (v := .string bs) rfl (some 60) rfl (by kernel_rfl) (by kernel_rfl) (by kernel_rfl) (fun _ _ _ h => by cases h.1) (by kernel_rfl) (fun w0 hw0 => ex_conv rfl rfl (HBS.out ▸ conv_own (own_same r1 (fun g e => hw0.block g (own_lt r1 g e))))) S1 ?_
        simp only [Act.put, List.setIfInBounds_toArray, List.set_cons_zero, List.set_cons_succ]
        refine anyH_take (i := 5) (v := .bool true) rfl (some 63) rfl (by kernel_rfl) (by kernel_rfl) (by kernel_rfl) (fun _ _ _ h => by cases h.1) (by kernel_rfl) (fun w0 hw0 => ex_eqs rfl rfl rfl) S1 ?_
        simp only [Act.put, List.setIfInBounds_toArray, List.set_cons_zero, List.set_cons_succ]
        refine anyH_take (i := 6) (v := .bool true) rfl (some 64) rfl (by kernel_rfl) (by kernel_rfl) (by kernel_rfl) (fun _ _ _ h => by cases h.1) (by kernel_rfl) (fun w0 hw0 => by first | rfl | kernel_rfl) S1 ?_
        simp only [Act.put, List.setIfInBounds_toArray, List.set_cons_zero, List.set_cons_succ]
        refine anyH_take (i := 7) (v := .pointer (some ⟨qs, 0, none⟩)) rfl (some 65) rfl (by kernel_rfl) (by kernel_rfl) (by kernel_rfl) (fun _ _ _ h => by cases h.1) (by kernel_rfl) (fun w0 hw0 => by first | rfl | kernel_rfl) S1 ?_
        simp only [Act.put, List.setIfInBounds_toArray, List.set_cons_zero, List.set_cons_succ]
        refine anyH_take (i := 9) (v := .int .u64 t.toNat) rfl (some 67) rfl (by kernel_rfl) (by kernel_rfl) (by kernel_rfl) (fun _ _ _ h => by cases h.1) (by kernel_rfl) (fun w0 hw0 => by first | rfl | kernel_rfl) S1 ?_
        simp only [Act.put, List.setIfInBounds_toArray, List.set_cons_zero, List.set_cons_succ]
        refine anyH_take (i := 10) (v := .int .u64 (t + 1#64).toNat) rfl (some 68) rfl (by kernel_rfl) (by kernel_rfl) (by kernel_rfl) (fun _ _ _ h => by cases h.1) (by kernel_rfl) (fun w0 hw0 => ex_incU rfl rfl) S1 ?_
        simp only [Act.put, List.setIfInBounds_toArray, List.set_cons_zero, List.set_cons_succ]
        refine anyH_one (i := 8) (by kernel_rfl) ?_
        refine op_call rfl (some 66) rfl (by kernel_rfl) #[.pointer (some ⟨qs, 0, none⟩)] rfl (by simp [Act.eval]) (fun _ _ => rfl) (turn_sto T1) ?_
        rintro e V2 ⟨rfl, b2⟩
        have b2 : Below V1.heap.size V1 V2 := b2
        refine ⟨_, rfl, S1.trans (b2.mono S1.size), ?_⟩
        simp only [Act.put, List.setIfInBounds_toArray, List.set_cons_zero, List.set_cons_succ]
        refine anyH_more (fun V => Below V2.heap.size V2 V) (fun V hV => S1.trans ((b2.trans (hV.mono b2.size)).mono S1.size)) ?_
        have S2 : Below V2.heap.size V2 V2 := Below.refl _ _
        have B2 : Below w5.heap.size w5 V2 := B1.trans (b2.mono B1.size)
        have T2 := T1.below b2
        refine anyH_take (i := 11) (v := .bool true) rfl (some 69) rfl (by kernel_rfl) (by kernel_rfl) (by kernel_rfl) (fun _ _ _ h => by cases h.1) (by kernel_rfl) (fun w0 hw0 => ex_equ rfl rfl rfl) S2 ?_
        simp only [Act.put, List.setIfInBounds_toArray, List.set_cons_zero, List.set_cons_succ]
        refine anyH_take (i := 12) (v := .bool true) rfl (some 70) rfl (by kernel_rfl) (by kernel_rfl) (by kernel_rfl) (fun _ _ _ h => by cases h.1) (by kernel_rfl) (fun w0 hw0 => ex_pickT rfl rfl rfl) S2 ?_
        simp only [Act.put, List.setIfInBounds_toArray, List.set_cons_zero, List.set_cons_succ]
        refine anyH_take (i := 13) (v := .bool true) rfl (some 71) rfl (by kernel_rfl) (by kernel_rfl) (by kernel_rfl) (fun _ _ _ h => by cases h.1) (by kernel_rfl) (fun w0 hw0 => by first | rfl | kernel_rfl) S2 ?_
        simp only [Act.put, List.setIfInBounds_toArray, List.set_cons_zero, List.set_cons_succ]
        refine anyH_take (i := 14) (v := .slice ba ln cap) rfl (some 72) rfl (by kernel_rfl) (by kernel_rfl) (by kernel_rfl) (fun _ _ _ h => by cases h.1) (by kernel_rfl) (fun w0 hw0 => by first | rfl | kernel_rfl) S2 ?_
        simp only [Act.put, List.setIfInBounds_toArray, List.set_cons_zero, List.set_cons_succ]
        refine anyH_take (i := 15) (v := .int .i64 ln) rfl (some 73) rfl (by kernel_rfl) (by kernel_rfl) (by kernel_rfl) (fun _ _ _ h => by cases h.1) (by kernel_rfl) (fun w0 hw0 => by first | rfl | kernel_rfl) S2 ?_
        simp only [Act.put, List.setIfInBounds_toArray, List.set_cons_zero, List.set_cons_succ]
        refine anyH_take (i := 16) (v := .pointer (some ⟨qs, 0, none⟩)) rfl (some 74) rfl (by kernel_rfl) (by kernel_rfl) (by kernel_rfl) (fun _ _ _ h => by cases h.1) (by kernel_rfl) (fun w0 hw0 => by first | rfl | kernel_rfl) S2 ?_
        simp only [Act.put, List.setIfInBounds_toArray, List.set_cons_zero, List.set_cons_succ]
        refine anyH_one (i := 17) (by kernel_rfl) ?_
        refine op_call rfl (some 75) rfl (by kernel_rfl) #[.pointer (some ⟨qs, 0, none⟩)] rfl (by simp [Act.eval]) (fun _ _ => rfl) (room_sto T2) ?_
        rintro e V3 ⟨rfl, b3⟩
        have b3 : Below V2.heap.size V2 V3 := b3
        refine ⟨_, rfl, S2.trans (b3.mono S2.size), ?_⟩
        simp only [Act.put, List.setIfInBounds_toArray, List.set_cons_zero, List.set_cons_succ]
        refine anyH_more (fun V => Below V3.heap.size V3 V) (fun V hV => S2.trans ((b3.trans (hV.mono b3.size)).mono S2.size)) ?_
        have S3 : Below V3.heap.size V3 V3 := Below.refl _ _
        have B3 : Below w5.heap.size w5 V3 := B2.trans (b3.mono B2.size)
        have T3 := T2.below b3
        refine anyH_take (i := 18) (v := .bool true) rfl (some 76) rfl (by kernel_rfl) (by kernel_rfl) (by kernel_rfl) (fun _ _ _ h => by cases h.1) (by kernel_rfl) (fun w0 hw0 => ex_leqT rfl rfl rfl (by omega)) S3 ?_
        simp only [Act.put, List.setIfInBounds_toArray, List.set_cons_zero, List.set_cons_succ]
        refine anyH_take (i := 19) (v := .bool true) rfl (some 77) rfl (by kernel_rfl) (by kernel_rfl) (by kernel_rfl) (fun _ _ _ h => by cases h.1) (by kernel_rfl) (fun w0 hw0 => ex_pickT rfl rfl rfl) S3 ?_
        simp only [Act.put, List.setIfInBounds_toArray, List.set_cons_zero, List.set_cons_succ]
        refine anyH_val (i := 20) (by kernel_rfl) rfl (some 6) rfl (by kernel_rfl) (ex_any rfl rfl) S3 ?_
        simp only [Act.put, List.setIfInBounds_toArray, List.set_cons_zero, List.set_cons_succ]
        exact wpAnyH_done (by kernel_rfl) ⟨rfl, fill (B3) (by kernel_rfl)⟩ _
      case fin2 =>
        clear hV0 B0 T0
        rintro a W2 ⟨xx, hB2, rfl⟩
        have HF := hide (H5.out.2.trans (hB2.mono (by omega)))
        clear hB2
        go_wp2_with fail
        go_ret
        exact ⟨rfl, HF.out⟩
end Go.Proofs.Ytfknjmfkkaoggaa
