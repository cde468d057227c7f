/- Both stores tell the same. -/
import Derived.Test.YtfknjmfkkaoggaaS24a
namespace Go.Proofs.Ytfknjmfkkaoggaa
open Go.RowKit Go.Shelf

set_option maxRecDepth 100000 in
set_option maxHeartbeats 4000000 in
theorem same_any (base qs ps qt pt : Nat) (d : Dv) (vl vw ul uw : Value) (w : World) (h : TwoS base qs ps qt pt d vl vw ul uw w) (hd : DvOk d) (h2 : 4 ≤ d.las.length) :
    Calls Try.prog 16 #[.pointer (some ⟨qs, 0, none⟩), .pointer (some ⟨qt, 0, none⟩)] w fun e w' => e = .returned (.bool true) ∧ Below w.heap.size w w' := by
  have h3 := hd.most
  have HH := hide h
  have HD := hide hd
  have hlow := h.low
  have H0 := hide (device_any base qs ps d vl vw w h.sto hd h.low)
  clear h hd
  go_enter Try.func16, Try.ntmps16
  go_wp2_with (first
    | (go_at_call 27; refine H0.out.mono ?_; rintro e w1 ⟨pa, al, aw, rfl, a1, b1, f1⟩; have s1 := b1.size; have H1 := hide (And.intro a1 (And.intro (HH.out.below b1) b1)); clear a1 b1 f1)
    | (go_at_call 37; refine (rdevice_any base qt pt d ul uw w1 H1.out.2.1.ref HD.out H1.out.2.1.low).mono ?_; rintro e w2 ⟨pb, bl, bw, rfl, a2, b2, f2⟩; have s2 := b2.size; have H2 := hide (And.intro (H1.out.1.below b2) (And.intro a2 (And.intro (H1.out.2.1.below b2) (H1.out.2.2.trans (b2.mono s1))))); clear a2 b2 f2; refine stopHere ?_))
  unfold Hid
  go_wp2_with fail
  go_loopw [7] (fun j wr => ∃ k : Nat, k ≤ d.las.length ∧ j = .int .i64 k ∧ Below w2.heap.size w2 wr) (fun j _ => d.las.length - (intOf j).toNat)
  case atStart => exact ⟨0, by omega, rfl, Below.refl _ _⟩
  case round =>
    obtain ⟨k, hk, rfl, hbw⟩ := hrel
    have hws := hbw.size
    have HT := hide (And.intro (H2.out.1.below hbw) (And.intro (H2.out.2.1.below hbw) hbw))
    clear hbw
    have hw1 : IntKind.i64.wrap ((k : Int) + 1) = k + 1 := by rw [IntKind.wrap_i64]; omega
    by_cases hlt : k < d.las.length
    · have hlti : (k : Int) < d.las.length := by omega
      obtain ⟨s, hs⟩ : ∃ s, readS d k = s := ⟨_, rfl⟩
      have h64 : s.length = 64 := hs ▸ readAt_len d HD.out _ _
      have hneq := sec_neq (T := 57) undSecA s s h64 h64
      simp only [decide_true, Bool.not_true] at hneq
      have hra := read_any base pa d al aw k wr HT.out.1 HD.out hlt
      rw [hs] at hra
      have HRA := hide hra
      clear hra
      go_wp2_with (first | (go_at_call 38; refine (rsize_any base pb d bl bw wr HT.out.2.1).mono ?_; rintro e w' ⟨rfl, hw'⟩; rw [hw']; clear hw') | (go_at_call 36; refine HRA.out.mono ?_; rintro e w3 ⟨rfl, b3⟩; have s3 := b3.size; refine stopHere ?_))
      unfold Hid
      obtain ⟨W4, st4, f4, b4, z4⟩ := sec_new w3 s h64
      have H4 := hide (And.intro ((HT.out.2.1.below b3).below b4) (And.intro f4 (HT.out.2.2.trans ((b3.mono hws).trans (b4.mono (by omega))))))
      have HS4 := hide st4
      have hrb := rread_any base pb d bl bw k W4 H4.out.1 HD.out hlt
      rw [hs] at hrb
      have HRB := hide hrb
      clear b3 b4 f4 st4 hrb
      go_wp2_with (first | (refine l_alloc _ infoSecD rfl rfl ?_) | (refine l_store _ HS4.out rfl rfl rfl rfl ?_; refine stopHere ?_))
      unfold Hid
      go_wp2_with (go_at_call 39; refine HRB.out.mono ?_; rintro e w5 ⟨rfl, b5⟩; have s5 := b5.size; refine stopHere ?_)
      unfold Hid
      obtain ⟨W6, st6, f6, b6, z6⟩ := sec_newR w5 s h64
      have g6 : W6.heap[w3.heap.size]? = some (.cells (secA s) 59) := (b6.block _ (by omega)).trans ((b5.block _ (by omega)).trans H4.out.2.1)
      have HL1 := hide (run_load_row (P := Try.prog) (w := W6) (cs := secA s) (g := w3.heap.size) (ty' := 59) infoSecD undSecD rfl (by rw [secA_size, h64]) g6)
      have HL2 := hide (run_load_row (P := Try.prog) (w := W6) (cs := secA s) (g := w5.heap.size) (ty' := 61) infoSecR undSecR rfl (by rw [secA_size, h64]) f6)
      have H6 := hide (H4.out.2.2.trans ((b5.mono (by omega)).trans (b6.mono (by omega))))
      have HS6 := hide st6
      clear b5 b6 f6 g6 st6
      go_wp2_with (first | (refine l_alloc _ infoSecR rfl rfl ?_) | (refine l_store _ HS6.out rfl rfl rfl rfl ?_; refine stopHere ?_))
      unfold Hid
      go_wp2_with (first | (refine l_load _ HL1.out rfl rfl rfl ?_) | (refine l_load _ HL2.out rfl rfl rfl ?_))
      go_roundw
      case rel => exact ⟨k + 1, by omega, by simp, H6.out⟩
      case measure => simp [intOf]; omega
    · have hki : k = d.las.length := by omega
      have hlti : ¬ (k : Int) < d.las.length := by omega
      go_wp2_with (first | (go_at_call 38; refine (rsize_any base pb d bl bw wr HT.out.2.1).mono ?_; rintro e w' ⟨rfl, hw'⟩; rw [hw']; clear hw'))
      have T0 := (H2.out.2.2.1.below HT.out.2.2).below (Below.refl _ wr).drew
      have D0 := HT.out.1.below (Below.refl _ wr).drew
      have E0 := HT.out.2.1.below (Below.refl _ wr).drew
      have B0 : Below w.heap.size w wr.drew := (H2.out.2.2.2.trans (HT.out.2.2.mono (by omega))).trans (Below.refl _ wr).drew
      obtain ⟨V0, hV0⟩ : ∃ V0, wr.drew = V0 := ⟨_, rfl⟩
      rw [hV0] at T0 B0 D0 E0
      obtain ⟨lb, hlb⟩ : ∃ lb : ByteArray, ⟨(theL d).bytes.toArray⟩ = lb := ⟨_, rfl⟩
      have HLB := hide hlb
      clear hlb
      refine region_rel (S := fun V => Below V0.heap.size V0 V) (fun a W => ∃ xx : Nat → Value, (Below w.heap.size w W) ∧ a = { tmps := #[xx 0, xx 1, xx 2, xx 3, .bool true, xx 5, xx 6, xx 7, xx 8, xx 9, xx 10, xx 11, xx 12, xx 13, xx 14, xx 15, xx 16, xx 17, xx 18, xx 19, xx 20, xx 21, xx 22, xx 23, xx 24, xx 25, xx 26, xx 27, xx 28, xx 29, xx 30, xx 31, xx 32, xx 33, xx 34, xx 35, xx 36, xx 37, xx 38, xx 39, xx 40, xx 41, xx 42, xx 43, xx 44, xx 45, xx 46, xx 47, xx 48, xx 49, xx 50, xx 51, xx 52, xx 53, xx 54, xx 55, xx 56, xx 57, xx 58, xx 59, xx 60, xx 61, xx 62, xx 63, xx 64], defers := [] }) (by kernel_rfl) ?any ?fin
      case any =>
        rw [hV0]
        clear hV0 HT H2 H1 H0
        have S0 : Below V0.heap.size V0 V0 := Below.refl _ _
        refine anyH_take (i := 0) (v := .pointer (some ⟨pa, 0, none⟩)) rfl (some 37) rfl (by kernel_rfl) (by kernel_rfl) (by kernel_rfl) (fun _ _ _ h => by cases h.1) rfl (fun w0 hw0 => by first | rfl | kernel_rfl) S0 ?_
        simp only [Act.put, List.setIfInBounds_toArray, List.set_cons_zero, List.set_cons_succ]
        refine anyH_take (i := 2) (v := .pointer (some ⟨pb, 0, none⟩)) rfl (some 39) rfl (by kernel_rfl) (by kernel_rfl) (by kernel_rfl) (fun _ _ _ h => by cases h.1) rfl (fun w0 hw0 => by first | rfl | kernel_rfl) S0 ?_
        simp only [Act.put, List.setIfInBounds_toArray, List.set_cons_zero, List.set_cons_succ]
        refine anyH_one (i := 1) (by kernel_rfl) ?_
        refine op_call rfl (some 38) rfl rfl #[.pointer (some ⟨pa, 0, none⟩)] rfl (by simp [Act.eval]) (fun _ _ => rfl) (size_any base pa d al aw _ D0) ?_
        rintro e V1 ⟨rfl, e1⟩
        have b1 : Below V0.heap.size V0 V1 := by rw [e1]; exact Below.refl _ _
        refine ⟨_, rfl, S0.trans (b1.mono S0.size), ?_⟩
        simp only [Act.put, List.setIfInBounds_toArray, List.set_cons_zero, List.set_cons_succ]
        refine anyH_more (fun V => Below V1.heap.size V1 V) (fun V hV => S0.trans ((b1.trans (hV.mono b1.size)).mono S0.size)) ?_
        have S1 : Below V1.heap.size V1 V1 := Below.refl _ _
        have B1 : Below w.heap.size w V1 := B0.trans (b1.mono B0.size)
        have T1 := T0.below b1
        have D1 := D0.below b1
        have E1 := E0.below b1
        refine anyH_one (i := 3) (by kernel_rfl) ?_
        refine op_call rfl (some 40) rfl rfl #[.pointer (some ⟨pb, 0, none⟩)] rfl (by simp [Act.eval]) (fun _ _ => rfl) (rsize_any base pb d bl bw _ E1) ?_
        rintro e V2 ⟨rfl, e2⟩
        have b2 : Below V1.heap.size V1 V2 := by rw [e2]; exact Below.refl _ _
        refine ⟨_, rfl, S1.trans (b2.mono S1.size), ?_⟩
        simp only [Act.put, List.setIfInBounds_toArray, List.set_cons_zero, List.set_cons_succ]
        refine anyH_more (fun V => Below V2.heap.size V2 V) (fun V hV => S1.trans ((b2.trans (hV.mono b2.size)).mono S1.size)) ?_
        have S2 : Below V2.heap.size V2 V2 := Below.refl _ _
        have B2 : Below w.heap.size w V2 := B1.trans (b2.mono B1.size)
        have T2 := T1.below b2
        have D2 := D1.below b2
        have E2 := E1.below b2
        refine anyH_take (i := 4) (v := .bool true) rfl (some 41) rfl (by kernel_rfl) (by kernel_rfl) (by kernel_rfl) (fun _ _ _ h => by cases h.1) rfl (fun w0 hw0 => ex_eqi rfl rfl rfl) S2 ?_
        simp only [Act.put, List.setIfInBounds_toArray, List.set_cons_zero, List.set_cons_succ]
        refine anyH_take (i := 5) (v := .bool true) rfl (some 42) rfl (by kernel_rfl) (by kernel_rfl) (by kernel_rfl) (fun _ _ _ h => by cases h.1) rfl (fun w0 hw0 => by first | rfl | kernel_rfl) S2 ?_
        simp only [Act.put, List.setIfInBounds_toArray, List.set_cons_zero, List.set_cons_succ]
        refine anyH_take (i := 6) (v := .pointer (some ⟨qs, 0, none⟩)) rfl (some 43) rfl (by kernel_rfl) (by kernel_rfl) (by kernel_rfl) (fun _ _ _ h => by cases h.1) rfl (fun w0 hw0 => by first | rfl | kernel_rfl) S2 ?_
        simp only [Act.put, List.setIfInBounds_toArray, List.set_cons_zero, List.set_cons_succ]
        refine anyH_take (i := 9) (v := .pointer (some ⟨qt, 0, none⟩)) rfl (some 46) rfl (by kernel_rfl) (by kernel_rfl) (by kernel_rfl) (fun _ _ _ h => by cases h.1) rfl (fun w0 hw0 => by first | rfl | kernel_rfl) S2 ?_
        simp only [Act.put, List.setIfInBounds_toArray, List.set_cons_zero, List.set_cons_succ]
        refine anyH_one (i := 7) (by kernel_rfl) ?_
        refine op_call rfl (some 44) rfl rfl #[.pointer (some ⟨qs, 0, none⟩)] rfl (by simp [Act.eval]) (fun _ _ => rfl) (load_any base qs ps d vl vw _ T2.sto HD.out h2 h3) ?_
        rintro e V3 ⟨ga, gc, rfl, r3, b3⟩
        have b3 : Below V2.heap.size V2 V3 := b3
        refine ⟨_, rfl, S2.trans (b3.mono S2.size), ?_⟩
        simp only [Act.put, List.setIfInBounds_toArray, List.set_cons_zero, List.set_cons_succ]
        refine anyH_more (fun V => Below V3.heap.size V3 V) (fun V hV => S2.trans ((b3.trans (hV.mono b3.size)).mono S2.size)) ?_
        have S3 : Below V3.heap.size V3 V3 := Below.refl _ _
        have B3 : Below w.heap.size w V3 := B2.trans (b3.mono B2.size)
        have T3 := T2.below b3
        have D3 := D2.below b3
        have E3 := E2.below b3
        refine anyH_take (i := 8) (v := .string lb) rfl (some 45) rfl (by kernel_rfl) (by kernel_rfl) (by kernel_rfl) (fun _ _ _ h => by cases h.1) rfl (fun w0 hw0 => ex_conv rfl rfl (HLB.out ▸ conv_own (own_same r3 (fun g e => hw0.block g (own_lt r3 g e))))) S3 ?_
        simp only [Act.put, List.setIfInBounds_toArray, List.set_cons_zero, List.set_cons_succ]
        refine anyH_one (i := 10) (by kernel_rfl) ?_
        refine op_call rfl (some 47) rfl rfl #[.pointer (some ⟨qt, 0, none⟩)] rfl (by simp [Act.eval]) (fun _ _ => rfl) (rLoad_any base qt pt d ul uw _ T3.ref HD.out h2 h3) ?_
        rintro e V4 ⟨v4, rfl, r4, b4⟩
        have b4 : Below V3.heap.size V3 V4 := b4
        refine ⟨_, rfl, S3.trans (b4.mono S3.size), ?_⟩
        simp only [Act.put, List.setIfInBounds_toArray, List.set_cons_zero, List.set_cons_succ]
        refine anyH_more (fun V => Below V4.heap.size V4 V) (fun V hV => S3.trans ((b4.trans (hV.mono b4.size)).mono S3.size)) ?_
        have S4 : Below V4.heap.size V4 V4 := Below.refl _ _
        have B4 : Below w.heap.size w V4 := B3.trans (b4.mono B3.size)
        have T4 := T3.below b4
        have D4 := D3.below b4
        have E4 := E3.below b4
        refine anyH_take (i := 11) (v := .string lb) rfl (some 48) rfl (by kernel_rfl) (by kernel_rfl) (by kernel_rfl) (fun _ _ _ h => by cases h.1) rfl (fun w0 hw0 => ex_conv rfl rfl (HLB.out ▸ conv_own (own_same r4 (fun g e => hw0.block g (own_lt r4 g e))))) S4 ?_
        simp only [Act.put, List.setIfInBounds_toArray, List.set_cons_zero, List.set_cons_succ]
        refine anyH_take (i := 12) (v := .bool true) rfl (some 49) rfl (by kernel_rfl) (by kernel_rfl) (by kernel_rfl) (fun _ _ _ h => by cases h.1) rfl (fun w0 hw0 => ex_eqs rfl rfl rfl) S4 ?_
        simp only [Act.put, List.setIfInBounds_toArray, List.set_cons_zero, List.set_cons_succ]
        refine anyH_take (i := 13) (v := .bool true) rfl (some 50) rfl (by kernel_rfl) (by kernel_rfl) (by kernel_rfl) (fun _ _ _ h => by cases h.1) rfl (fun w0 hw0 => ex_pickT rfl rfl rfl) S4 ?_
        simp only [Act.put, List.setIfInBounds_toArray, List.set_cons_zero, List.set_cons_succ]
        refine anyH_take (i := 14) (v := .bool true) rfl (some 51) rfl (by kernel_rfl) (by kernel_rfl) (by kernel_rfl) (fun _ _ _ h => by cases h.1) rfl (fun w0 hw0 => by first | rfl | kernel_rfl) S4 ?_
        simp only [Act.put, List.setIfInBounds_toArray, List.set_cons_zero, List.set_cons_succ]
        refine anyH_take (i := 15) (v := .pointer (some ⟨qs, 0, none⟩)) rfl (some 52) rfl (by kernel_rfl) (by kernel_rfl) (by kernel_rfl) (fun _ _ _ h => by cases h.1) rfl (fun w0 hw0 => by first | rfl | kernel_rfl) S4 ?_
        simp only [Act.put, List.setIfInBounds_toArray, List.set_cons_zero, List.set_cons_succ]
        refine anyH_take (i := 17) (v := .pointer (some ⟨qt, 0, none⟩)) rfl (some 54) rfl (by kernel_rfl) (by kernel_rfl) (by kernel_rfl) (fun _ _ _ h => by cases h.1) rfl (fun w0 hw0 => by first | rfl | kernel_rfl) S4 ?_
        simp only [Act.put, List.setIfInBounds_toArray, List.set_cons_zero, List.set_cons_succ]
        refine anyH_one (i := 16) (by kernel_rfl) ?_
        refine op_call rfl (some 53) rfl rfl #[.pointer (some ⟨qs, 0, none⟩)] rfl (by simp [Act.eval]) (fun _ _ => rfl) (turn_any base qs ps d vl vw _ T4.sto HD.out h2 h3) ?_
        rintro e V5 ⟨rfl, b5⟩
        have b5 : Below V4.heap.size V4 V5 := b5
        refine ⟨_, rfl, S4.trans (b5.mono S4.size), ?_⟩
        simp only [Act.put, List.setIfInBounds_toArray, List.set_cons_zero, List.set_cons_succ]
        refine anyH_more (fun V => Below V5.heap.size V5 V) (fun V hV => S4.trans ((b5.trans (hV.mono b5.size)).mono S4.size)) ?_
        have S5 : Below V5.heap.size V5 V5 := Below.refl _ _
        have B5 : Below w.heap.size w V5 := B4.trans (b5.mono B4.size)
        have T5 := T4.below b5
        have D5 := D4.below b5
        have E5 := E4.below b5
        refine anyH_one (i := 18) (by kernel_rfl) ?_
        refine op_call rfl (some 55) rfl rfl #[.pointer (some ⟨qt, 0, none⟩)] rfl (by simp [Act.eval]) (fun _ _ => rfl) (rTurn_any base qt pt d ul uw _ T5.ref HD.out h2 h3) ?_
        rintro e V6 ⟨rfl, b6⟩
        have b6 : Below V5.heap.size V5 V6 := b6
        refine ⟨_, rfl, S5.trans (b6.mono S5.size), ?_⟩
        simp only [Act.put, List.setIfInBounds_toArray, List.set_cons_zero, List.set_cons_succ]
        refine anyH_more (fun V => Below V6.heap.size V6 V) (fun V hV => S5.trans ((b6.trans (hV.mono b6.size)).mono S5.size)) ?_
        have S6 : Below V6.heap.size V6 V6 := Below.refl _ _
        have B6 : Below w.heap.size w V6 := B5.trans (b6.mono B5.size)
        have T6 := T5.below b6
        have D6 := D5.below b6
        have E6 := E5.below b6
        refine anyH_take (i := 19) (v := .bool true) rfl (some 56) rfl (by kernel_rfl) (by kernel_rfl) (by kernel_rfl) (fun _ _ _ h => by cases h.1) rfl (fun w0 hw0 => ex_equ rfl rfl rfl) S6 ?_
        simp only [Act.put, List.setIfInBounds_toArray, List.set_cons_zero, List.set_cons_succ]
        refine anyH_take (i := 20) (v := .bool true) rfl (some 57) rfl (by kernel_rfl) (by kernel_rfl) (by kernel_rfl) (fun _ _ _ h => by cases h.1) rfl (fun w0 hw0 => ex_pickT rfl rfl rfl) S6 ?_
        simp only [Act.put, List.setIfInBounds_toArray, List.set_cons_zero, List.set_cons_succ]
        refine anyH_take (i := 21) (v := .bool true) rfl (some 58) rfl (by kernel_rfl) (by kernel_rfl) (by kernel_rfl) (fun _ _ _ h => by cases h.1) rfl (fun w0 hw0 => by first | rfl | kernel_rfl) S6 ?_
        simp only [Act.put, List.setIfInBounds_toArray, List.set_cons_zero, List.set_cons_succ]
        refine anyH_take (i := 22) (v := .pointer (some ⟨qs, 0, none⟩)) rfl (some 59) rfl (by kernel_rfl) (by kernel_rfl) (by kernel_rfl) (fun _ _ _ h => by cases h.1) rfl (fun w0 hw0 => by first | rfl | kernel_rfl) S6 ?_
        simp only [Act.put, List.setIfInBounds_toArray, List.set_cons_zero, List.set_cons_succ]
        refine anyH_take (i := 24) (v := .pointer (some ⟨qt, 0, none⟩)) rfl (some 61) rfl (by kernel_rfl) (by kernel_rfl) (by kernel_rfl) (fun _ _ _ h => by cases h.1) rfl (fun w0 hw0 => by first | rfl | kernel_rfl) S6 ?_
        simp only [Act.put, List.setIfInBounds_toArray, List.set_cons_zero, List.set_cons_succ]
        refine anyH_one (i := 23) (by kernel_rfl) ?_
        refine op_call rfl (some 60) rfl rfl #[.pointer (some ⟨qs, 0, none⟩)] rfl (by simp [Act.eval]) (fun _ _ => rfl) (Room_any base qs ps d vl vw _ T6.sto h2 h3) ?_
        rintro e V7 ⟨rfl, b7⟩
        have b7 : Below V6.heap.size V6 V7 := b7
        refine ⟨_, rfl, S6.trans (b7.mono S6.size), ?_⟩
        simp only [Act.put, List.setIfInBounds_toArray, List.set_cons_zero, List.set_cons_succ]
        refine anyH_more (fun V => Below V7.heap.size V7 V) (fun V hV => S6.trans ((b7.trans (hV.mono b7.size)).mono S6.size)) ?_
        have S7 : Below V7.heap.size V7 V7 := Below.refl _ _
        have B7 : Below w.heap.size w V7 := B6.trans (b7.mono B6.size)
        have T7 := T6.below b7
        have D7 := D6.below b7
        have E7 := E6.below b7
        refine anyH_one (i := 25) (by kernel_rfl) ?_
        refine op_call rfl (some 62) rfl rfl #[.pointer (some ⟨qt, 0, none⟩)] rfl (by simp [Act.eval]) (fun _ _ => rfl) (rRoom_any base qt pt d ul uw _ T7.ref h2 h3) ?_
        rintro e V8 ⟨rfl, e8⟩
        have b8 : Below V7.heap.size V7 V8 := by rw [e8]; exact Below.refl _ _
        refine ⟨_, rfl, S7.trans (b8.mono S7.size), ?_⟩
        simp only [Act.put, List.setIfInBounds_toArray, List.set_cons_zero, List.set_cons_succ]
        refine anyH_more (fun V => Below V8.heap.size V8 V) (fun V hV => S7.trans ((b8.trans (hV.mono b8.size)).mono S7.size)) ?_
        have S8 : Below V8.heap.size V8 V8 := Below.refl _ _
        have B8 : Below w.heap.size w V8 := B7.trans (b8.mono B7.size)
        have T8 := T7.below b8
        have D8 := D7.below b8
        have E8 := E7.below b8
        refine anyH_take (i := 26) (v := .bool true) rfl (some 63) rfl (by kernel_rfl) (by kernel_rfl) (by kernel_rfl) (fun _ _ _ h => by cases h.1) rfl (fun w0 hw0 => ex_eqi rfl rfl rfl) S8 ?_
        simp only [Act.put, List.setIfInBounds_toArray, List.set_cons_zero, List.set_cons_succ]
        refine anyH_take (i := 27) (v := .bool true) rfl (some 64) rfl (by kernel_rfl) (by kernel_rfl) (by kernel_rfl) (fun _ _ _ h => by cases h.1) rfl (fun w0 hw0 => ex_pickT rfl rfl rfl) S8 ?_
        simp only [Act.put, List.setIfInBounds_toArray, List.set_cons_zero, List.set_cons_succ]
        refine anyH_val (i := 28) (by kernel_rfl) rfl (some 4) rfl rfl (ex_any rfl rfl) S8 ?_
        simp only [Act.put, List.setIfInBounds_toArray, List.set_cons_zero, List.set_cons_succ]
        exact wpAnyH_done (by kernel_rfl) ⟨rfl, fill (B8) (by kernel_rfl)⟩ _
      case fin =>
        rintro a W ⟨xx, hB, rfl⟩
        have HB := hide hB
        clear hB
        go_wp2_with fail
        go_ret
        exact ⟨rfl, HB.out⟩
end Go.Proofs.Ytfknjmfkkaoggaa
