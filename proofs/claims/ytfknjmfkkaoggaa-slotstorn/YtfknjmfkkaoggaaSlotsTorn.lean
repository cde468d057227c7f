/- SlotsTorn. -/
import Derived.Test.YtfknjmfkkaoggaaS28
namespace Go.Proofs.Ytfknjmfkkaoggaa
open Go.RowKit Go.Shelf

set_option maxRecDepth 100000 in
set_option maxHeartbeats 4000000 in
theorem slotsTorn_any (n : Nat) (hn : n < 256) (ao : Option Addr) (dcap : Nat) (ds : List Sd) (x : Sd) (w : World) (hm : SdMem w.heap.size w ao ds) (hx : SdOk w.heap.size w x) :
    Calls Try.prog 6 #[.int .u8 n, .slice ao ds.length dcap, .agg (sdC x)] w fun e w' => e = .returned (.bool true) ∧ Below w.heap.size w w' := by
  obtain ⟨W, hW, f1, z1, b1⟩ := boxedS w x
  have H0 := hide (play_any n hn ao dcap ds W ((hm.below b1).up (by omega)))
  obtain ⟨m, hmm⟩ : ∃ m, n % 16 + 4 = m := ⟨_, rfl⟩
  have hm1 : 4 ≤ m := by omega
  have hm2 : m ≤ 20 := by omega
  rw [hmm] at H0
  obtain ⟨dn, hdn⟩ : ∃ dn, ds.length = dn := ⟨_, rfl⟩
  obtain ⟨nb, hnb⟩ : ∃ nb, x.b.length = nb := ⟨_, rfl⟩
  obtain ⟨ns, hns⟩ : ∃ ns, x.sv.length = ns := ⟨_, rfl⟩
  rw [hdn] at H0
  rw [hdn]
  have hlen := hx.len
  have hcap := hx.cap
  rw [hnb] at hlen
  have HX := hide hx
  have HL := hide (And.intro hnb hns)
  have hBx : BoxN w.heap.size x nb ns W := ⟨by unfold sdC at f1; rw [hnb, hns] at f1; exact f1⟩
  unfold sdC
  unfold sdC at hW
  rw [hnb, hns] at hW ⊢
  have HB := hide (And.intro hBx b1)
  clear hm hx hdn hmm f1 b1 hBx hnb hns
  go_enter Try.func6, Try.ntmps6
  go_wp2_with (first
    | (go_at_call 14; refine H0.out.mono ?_; rintro e w1 ⟨qs, ps, qt, pt, d, rfl, P1, b1⟩; obtain ⟨vl, vw, k, t, l, t1, jt⟩ := P1.sto hm1 (by omega); have s1 := b1.size; have H1 := hide (And.intro t1 (And.intro (HB.out.1.low b1 (by omega)) (HB.out.2.trans (b1.mono (by omega))))); clear t1 b1 P1)
    | (go_at_call 15; refine (live_any w1).mono ?_; rintro e w2 ⟨rfl, b2⟩; have s2 := b2.size; have H2 := hide (And.intro (H1.out.1.below b2) (And.intro (H1.out.2.1.below b2) (H1.out.2.2.trans (b2.mono (by omega))))); clear b2))
  obtain ⟨ls, hls⟩ : ∃ ls : ByteArray, ⟨l.toArray⟩ = ls := ⟨_, rfl⟩
  have HLS := hide hls
  clear hls
  have T0 := (H2.out.1).below (Below.refl _ w2).drew
  have B0 : Below w2.heap.size w2 w2.drew := (Below.refl _ w2).drew
  obtain ⟨V0, hV0⟩ : ∃ V0, w2.drew = V0 := ⟨_, rfl⟩
  rw [hV0] at B0 T0
  refine region_rel (S := fun V => Below V0.heap.size V0 V) (fun a W => ∃ xx : Nat → Value, (Below w2.heap.size w2 W) ∧ a = { tmps := #[xx 0, xx 1, xx 2, xx 3, xx 4, .pointer (some ⟨w.heap.size, 0, none⟩), .bool false, .pointer (some ⟨qs, 0, none⟩), xx 8, xx 9, .string ls, .int .u64 t.toNat, xx 12, xx 13, xx 14, xx 15, xx 16, xx 17, xx 18, xx 19, xx 20, xx 21, xx 22, xx 23, xx 24, xx 25, xx 26, xx 27, xx 28, xx 29, xx 30, xx 31, xx 32, xx 33, xx 34, xx 35, xx 36, xx 37, xx 38, xx 39, xx 40, xx 41, xx 42, xx 43, xx 44, xx 45, xx 46, xx 47, xx 48, xx 49, xx 50, xx 51, xx 52, xx 53, xx 54, xx 55, xx 56, xx 57, xx 58, xx 59, xx 60, xx 61, xx 62, xx 63, xx 64, xx 65, xx 66, xx 67, xx 68, xx 69, xx 70, xx 71, xx 72, xx 73, xx 74, xx 75, xx 76, xx 77, xx 78, xx 79, xx 80, xx 81, xx 82, xx 83, xx 84, xx 85, xx 86, xx 87, xx 88, xx 89, xx 90, xx 91, xx 92, xx 93, xx 94, xx 95, xx 96, xx 97], defers := [] }) (by kernel_rfl) ?any3 ?fin3
  case any3 =>
    rw [hV0]
    clear hV0
    have S0 : Below V0.heap.size V0 V0 := Below.refl _ _
    refine anyH_take (i := 0) (v := .pointer (some ⟨qs, 0, none⟩)) rfl (some 27) rfl (by kernel_rfl) (by kernel_rfl) (by kernel_rfl) (fun _ _ _ h => by cases h.1) (by kernel_rfl) (fun w0 hw0 => by first | rfl | kernel_rfl) S0 ?_
    simp only [Act.put, List.setIfInBounds_toArray, List.set_cons_zero, List.set_cons_succ]
    refine anyH_take (i := 3) (v := .pointer (some ⟨qs, 0, none⟩)) rfl (some 30) rfl (by kernel_rfl) (by kernel_rfl) (by kernel_rfl) (fun _ _ _ h => by cases h.1) (by kernel_rfl) (fun w0 hw0 => by first | rfl | kernel_rfl) S0 ?_
    simp only [Act.put, List.setIfInBounds_toArray, List.set_cons_zero, List.set_cons_succ]
    refine anyH_one (i := 1) (by kernel_rfl) ?_
    refine op_call rfl (some 28) rfl (by kernel_rfl) #[.pointer (some ⟨qs, 0, none⟩)] rfl (by simp [Act.eval]) (fun _ _ => rfl) (load_sto T0) ?_
    rintro e V1 ⟨ga, gc, rfl, r1, b1⟩
    have b1 : Below V0.heap.size V0 V1 := b1
    refine ⟨_, rfl, S0.trans (b1.mono S0.size), ?_⟩
    simp only [Act.put, List.setIfInBounds_toArray, List.set_cons_zero, List.set_cons_succ]
    refine anyH_more (fun V => Below V1.heap.size V1 V) (fun V hV => S0.trans ((b1.trans (hV.mono b1.size)).mono S0.size)) ?_
    have S1 : Below V1.heap.size V1 V1 := Below.refl _ _
    have B1 : Below w2.heap.size w2 V1 := B0.trans (b1.mono B0.size)
    have T1 := T0.below b1
    refine anyH_take (i := 2) (v := .string ls) rfl (some 29) rfl (by kernel_rfl) (by kernel_rfl) (by kernel_rfl) (fun _ _ _ h => by cases h.1) (by kernel_rfl) (fun w0 hw0 => ex_conv rfl rfl (HLS.out ▸ conv_own (own_same r1 (fun g e => hw0.block g (own_lt r1 g e))))) S1 ?_
    simp only [Act.put, List.setIfInBounds_toArray, List.set_cons_zero, List.set_cons_succ]
    refine anyH_one (i := 4) (by kernel_rfl) ?_
    refine op_call rfl (some 31) rfl (by kernel_rfl) #[.pointer (some ⟨qs, 0, none⟩)] rfl (by simp [Act.eval]) (fun _ _ => rfl) (turn_sto T1) ?_
    rintro e V2 ⟨rfl, b2⟩
    have b2 : Below V1.heap.size V1 V2 := b2
    refine ⟨_, rfl, S1.trans (b2.mono S1.size), ?_⟩
    simp only [Act.put, List.setIfInBounds_toArray, List.set_cons_zero, List.set_cons_succ]
    refine anyH_more (fun V => Below V2.heap.size V2 V) (fun V hV => S1.trans ((b2.trans (hV.mono b2.size)).mono S1.size)) ?_
    have S2 : Below V2.heap.size V2 V2 := Below.refl _ _
    have B2 : Below w2.heap.size w2 V2 := B1.trans (b2.mono B1.size)
    have T2 := T1.below b2
    refine anyH_take (i := 5) (v := .string ls) rfl (some 10) rfl (by kernel_rfl) (by kernel_rfl) (by kernel_rfl) (fun _ _ _ h => by cases h.1) (by kernel_rfl) (fun w0 hw0 => by first | rfl | kernel_rfl) S2 ?_
    simp only [Act.put, List.setIfInBounds_toArray, List.set_cons_zero, List.set_cons_succ]
    refine anyH_val (i := 6) (by kernel_rfl) rfl (some 11) rfl (by kernel_rfl) (ex_any rfl rfl) S2 ?_
    simp only [Act.put, List.setIfInBounds_toArray, List.set_cons_zero, List.set_cons_succ]
    exact wpAnyH_done (by kernel_rfl) ⟨rfl, fill (B2) (by kernel_rfl)⟩ _
  case fin3 =>
    clear hV0 B0 T0
    rintro a W3 ⟨xx, hB3, rfl⟩
    have H3 := hide (And.intro (H2.out.1.below hB3) (And.intro (H2.out.2.1.below hB3) (H2.out.2.2.trans (hB3.mono (by omega)))))
    have s3 := hB3.size
    clear hB3
    obtain ⟨j0, j1, j2, j3⟩ := cellsN H3.out.2.1.here
    have hx3 := HX.out.below H3.out.2.2
    have HX3 := hide (And.intro (hx3.by_.up (show w.heap.size ≤ W.heap.size by omega)) (hx3.sv.up (show w.heap.size ≤ W.heap.size by omega)))
    clear hx3
    by_cases hf : (m - 2) / 2 * 64 < nb
    · have hv := torn_no4 H3.out.1 x.ba nb x.bc x.sa x.wri x.sv x.sc (by omega) (by omega) hf
      rw [HL.out.2] at hv
      have HV := hide hv
      clear hv
      go_wp2_with (first
        | (go_at_call 24; refine HV.out.mono ?_; rintro e w6 ⟨rfl, vl6, vw6, t6, b6⟩; have s6 := b6.size; have H6 := hide (And.intro t6 (And.intro (H3.out.2.1.low b6 (by omega)) (H3.out.2.2.trans (b6.mono (by omega))))); clear t6 b6)
        | (go_at_call 20; refine (load_str H6.out.1 ls HLS.out).mono ?_; rintro e w7 ⟨v7, rfl, cv7, b7⟩; have s7 := b7.size; have H7 := hide (And.intro (H6.out.1.below b7) (And.intro (H6.out.2.1.below b7) (H6.out.2.2.trans (b7.mono (by omega))))); clear b7))
      have T0 := (H7.out.1).below (Below.refl _ w7).drew
      have X0 := (H7.out.2.1).below (Below.refl _ w7).drew
      have B0 : Below w7.heap.size w7 w7.drew := (Below.refl _ w7).drew
      obtain ⟨V0, hV0⟩ : ∃ V0, w7.drew = V0 := ⟨_, rfl⟩
      rw [hV0] at B0 T0 X0
      refine region_rel (S := fun V => Below V0.heap.size V0 V) (fun a W => ∃ xx : Nat → Value, (Below w7.heap.size w7 W) ∧ a = { tmps := #[xx 0, xx 1, xx 2, xx 3, xx 4, xx 5, .bool true, xx 7, xx 8, xx 9, xx 10, xx 11, xx 12, xx 13, xx 14, xx 15, xx 16, xx 17, xx 18, xx 19, xx 20, xx 21, xx 22, xx 23, xx 24, xx 25, xx 26, xx 27, xx 28, xx 29, xx 30, xx 31, xx 32, xx 33, xx 34, xx 35, xx 36, xx 37, xx 38, xx 39, xx 40, xx 41, xx 42, xx 43, xx 44, xx 45, xx 46, xx 47, xx 48, xx 49, xx 50, xx 51, xx 52, xx 53, xx 54, xx 55, xx 56, xx 57, xx 58, xx 59, xx 60, xx 61, xx 62, xx 63, xx 64, xx 65, xx 66, xx 67, xx 68, xx 69, xx 70, xx 71, xx 72, xx 73, xx 74, xx 75, xx 76, xx 77, xx 78, xx 79, xx 80, xx 81, xx 82, xx 83, xx 84, xx 85, xx 86, xx 87, xx 88, xx 89, xx 90, xx 91, xx 92, xx 93, xx 94, xx 95, xx 96, xx 97], defers := [] }) (by kernel_rfl) ?any4 ?fin4
      case any4 =>
        rw [hV0]
        clear hV0
        have S0 : Below V0.heap.size V0 V0 := Below.refl _ _
        refine anyH_take (i := 0) (v := .string ls) rfl (some 45) rfl (by kernel_rfl) (by kernel_rfl) (by kernel_rfl) (fun _ _ _ h => by cases h.1) (by kernel_rfl) (fun w0 hw0 => by first | rfl | kernel_rfl) S0 ?_
        simp only [Act.put, List.setIfInBounds_toArray, List.set_cons_zero, List.set_cons_succ]
        refine anyH_take (i := 1) (v := .string ls) rfl (some 46) rfl (by kernel_rfl) (by kernel_rfl) (by kernel_rfl) (fun _ _ _ h => by cases h.1) (by kernel_rfl) (fun w0 hw0 => by first | rfl | kernel_rfl) S0 ?_
        simp only [Act.put, List.setIfInBounds_toArray, List.set_cons_zero, List.set_cons_succ]
        refine anyH_take (i := 2) (v := .bool true) rfl (some 47) rfl (by kernel_rfl) (by kernel_rfl) (by kernel_rfl) (fun _ _ _ h => by cases h.1) (by kernel_rfl) (fun w0 hw0 => ex_eqs rfl rfl rfl) S0 ?_
        simp only [Act.put, List.setIfInBounds_toArray, List.set_cons_zero, List.set_cons_succ]
        refine anyH_take (i := 3) (v := .bool true) rfl (some 48) rfl (by kernel_rfl) (by kernel_rfl) (by kernel_rfl) (fun _ _ _ h => by cases h.1) (by kernel_rfl) (fun w0 hw0 => by first | rfl | kernel_rfl) S0 ?_
        simp only [Act.put, List.setIfInBounds_toArray, List.set_cons_zero, List.set_cons_succ]
        refine anyH_take (i := 4) (v := .pointer (some ⟨qs, 0, none⟩)) rfl (some 49) rfl (by kernel_rfl) (by kernel_rfl) (by kernel_rfl) (fun _ _ _ h => by cases h.1) (by kernel_rfl) (fun w0 hw0 => by first | rfl | kernel_rfl) S0 ?_
        simp only [Act.put, List.setIfInBounds_toArray, List.set_cons_zero, List.set_cons_succ]
        refine anyH_take (i := 6) (v := .int .u64 t.toNat) rfl (some 51) rfl (by kernel_rfl) (by kernel_rfl) (by kernel_rfl) (fun _ _ _ h => by cases h.1) (by kernel_rfl) (fun w0 hw0 => by first | rfl | kernel_rfl) S0 ?_
        simp only [Act.put, List.setIfInBounds_toArray, List.set_cons_zero, List.set_cons_succ]
        refine anyH_one (i := 5) (by kernel_rfl) ?_
        refine op_call rfl (some 50) rfl (by kernel_rfl) #[.pointer (some ⟨qs, 0, none⟩)] rfl (by simp [Act.eval]) (fun _ _ => rfl) (turn_sto T0) ?_
        rintro e V1 ⟨rfl, b1⟩
        have b1 : Below V0.heap.size V0 V1 := b1
        refine ⟨_, rfl, S0.trans (b1.mono S0.size), ?_⟩
        simp only [Act.put, List.setIfInBounds_toArray, List.set_cons_zero, List.set_cons_succ]
        refine anyH_more (fun V => Below V1.heap.size V1 V) (fun V hV => S0.trans ((b1.trans (hV.mono b1.size)).mono S0.size)) ?_
        have S1 : Below V1.heap.size V1 V1 := Below.refl _ _
        have B1 : Below w7.heap.size w7 V1 := B0.trans (b1.mono B0.size)
        have T1 := T0.below b1
        have X1 := X0.below b1
        refine anyH_take (i := 7) (v := .bool true) rfl (some 52) rfl (by kernel_rfl) (by kernel_rfl) (by kernel_rfl) (fun _ _ _ h => by cases h.1) (by kernel_rfl) (fun w0 hw0 => ex_equ rfl rfl rfl) S1 ?_
        simp only [Act.put, List.setIfInBounds_toArray, List.set_cons_zero, List.set_cons_succ]
        refine anyH_take (i := 8) (v := .bool true) rfl (some 53) rfl (by kernel_rfl) (by kernel_rfl) (by kernel_rfl) (fun _ _ _ h => by cases h.1) (by kernel_rfl) (fun w0 hw0 => ex_pickT rfl rfl rfl) S1 ?_
        simp only [Act.put, List.setIfInBounds_toArray, List.set_cons_zero, List.set_cons_succ]
        refine anyH_take (i := 9) (v := .bool true) rfl (some 54) rfl (by kernel_rfl) (by kernel_rfl) (by kernel_rfl) (fun _ _ _ h => by cases h.1) (by kernel_rfl) (fun w0 hw0 => by first | rfl | kernel_rfl) S1 ?_
        simp only [Act.put, List.setIfInBounds_toArray, List.set_cons_zero, List.set_cons_succ]
        refine anyH_take (i := 10) (v := .int .i64 4) rfl (some 55) rfl (by kernel_rfl) (by kernel_rfl) (by kernel_rfl) (fun _ _ _ h => by cases h.1) (by kernel_rfl) (fun w0 hw0 => by first | rfl | kernel_rfl) S1 ?_
        simp only [Act.put, List.setIfInBounds_toArray, List.set_cons_zero, List.set_cons_succ]
        refine anyH_take (i := 11) (v := .bool true) rfl (some 56) rfl (by kernel_rfl) (by kernel_rfl) (by kernel_rfl) (fun _ _ _ h => by cases h.1) (by kernel_rfl) (fun w0 hw0 => ex_eqe rfl rfl rfl) S1 ?_
        simp only [Act.put, List.setIfInBounds_toArray, List.set_cons_zero, List.set_cons_succ]
        refine anyH_take (i := 12) (v := .bool true) rfl (some 57) rfl (by kernel_rfl) (by kernel_rfl) (by kernel_rfl) (fun _ _ _ h => by cases h.1) (by kernel_rfl) (fun w0 hw0 => by first | rfl | kernel_rfl) S1 ?_
        simp only [Act.put, List.setIfInBounds_toArray, List.set_cons_zero, List.set_cons_succ]
        refine anyH_take (i := 13) (v := .pointer (some ⟨w.heap.size, 1, none⟩)) rfl (some 58) rfl (by kernel_rfl) (by kernel_rfl) (by kernel_rfl) (fun _ _ _ h => by cases h.1) (by kernel_rfl) (fun w0 hw0 => ex_fieldD1 rfl rfl) S1 ?_
        simp only [Act.put, List.setIfInBounds_toArray, List.set_cons_zero, List.set_cons_succ]
        refine anyH_take (i := 14) (v := .slice x.ba nb x.bc) rfl (some 59) rfl (by kernel_rfl) (by kernel_rfl) (by kernel_rfl) (fun _ _ _ h => by cases h.1) (by kernel_rfl) (fun w0 hw0 => ex_load rfl rfl (run_load_cell Try.underlying30 rfl (cellsN (X1.below hw0).here).2.1)) S1 ?_
        simp only [Act.put, List.setIfInBounds_toArray, List.set_cons_zero, List.set_cons_succ]
        refine anyH_take (i := 15) (v := .int .i64 nb) rfl (some 60) rfl (by kernel_rfl) (by kernel_rfl) (by kernel_rfl) (fun _ _ _ h => by cases h.1) (by kernel_rfl) (fun w0 hw0 => by first | rfl | kernel_rfl) S1 ?_
        simp only [Act.put, List.setIfInBounds_toArray, List.set_cons_zero, List.set_cons_succ]
        refine anyH_take (i := 16) (v := .pointer (some ⟨qs, 0, none⟩)) rfl (some 61) rfl (by kernel_rfl) (by kernel_rfl) (by kernel_rfl) (fun _ _ _ h => by cases h.1) (by kernel_rfl) (fun w0 hw0 => by first | rfl | kernel_rfl) S1 ?_
        simp only [Act.put, List.setIfInBounds_toArray, List.set_cons_zero, List.set_cons_succ]
        refine anyH_one (i := 17) (by kernel_rfl) ?_
        refine op_call rfl (some 62) rfl (by kernel_rfl) #[.pointer (some ⟨qs, 0, none⟩)] rfl (by simp [Act.eval]) (fun _ _ => rfl) (room_sto T1) ?_
        rintro e V2 ⟨rfl, b2⟩
        have b2 : Below V1.heap.size V1 V2 := b2
        refine ⟨_, rfl, S1.trans (b2.mono S1.size), ?_⟩
        simp only [Act.put, List.setIfInBounds_toArray, List.set_cons_zero, List.set_cons_succ]
        refine anyH_more (fun V => Below V2.heap.size V2 V) (fun V hV => S1.trans ((b2.trans (hV.mono b2.size)).mono S1.size)) ?_
        have S2 : Below V2.heap.size V2 V2 := Below.refl _ _
        have B2 : Below w7.heap.size w7 V2 := B1.trans (b2.mono B1.size)
        have T2 := T1.below b2
        have X2 := X1.below b2
        refine anyH_take (i := 18) (v := .bool true) rfl (some 63) rfl (by kernel_rfl) (by kernel_rfl) (by kernel_rfl) (fun _ _ _ h => by cases h.1) (by kernel_rfl) (fun w0 hw0 => ex_gtrT rfl rfl rfl (by omega)) S2 ?_
        simp only [Act.put, List.setIfInBounds_toArray, List.set_cons_zero, List.set_cons_succ]
        refine anyH_take (i := 19) (v := .bool true) rfl (some 64) rfl (by kernel_rfl) (by kernel_rfl) (by kernel_rfl) (fun _ _ _ h => by cases h.1) (by kernel_rfl) (fun w0 hw0 => ex_pickT rfl rfl rfl) S2 ?_
        simp only [Act.put, List.setIfInBounds_toArray, List.set_cons_zero, List.set_cons_succ]
        refine anyH_take (i := 20) (v := .bool true) rfl (some 65) rfl (by kernel_rfl) (by kernel_rfl) (by kernel_rfl) (fun _ _ _ h => by cases h.1) (by kernel_rfl) (fun w0 hw0 => by first | rfl | kernel_rfl) S2 ?_
        simp only [Act.put, List.setIfInBounds_toArray, List.set_cons_zero, List.set_cons_succ]
        refine anyH_off (i := 21) rfl (some 66) rfl (by kernel_rfl) (by kernel_rfl) (by kernel_rfl) (fun _ _ _ h => by cases h.1) (by kernel_rfl) S2 ?_
        simp only [Act.put, List.setIfInBounds_toArray, List.set_cons_zero, List.set_cons_succ]
        refine anyH_off (i := 22) rfl (some 67) rfl (by kernel_rfl) (by kernel_rfl) (by kernel_rfl) (fun _ _ _ h => by cases h.1) (by kernel_rfl) S2 ?_
        simp only [Act.put, List.setIfInBounds_toArray, List.set_cons_zero, List.set_cons_succ]
        refine anyH_off (i := 23) rfl (some 68) rfl (by kernel_rfl) (by kernel_rfl) (by kernel_rfl) (fun _ _ _ h => by cases h.1) (by kernel_rfl) S2 ?_
        simp only [Act.put, List.setIfInBounds_toArray, List.set_cons_zero, List.set_cons_succ]
        refine anyH_off (i := 24) rfl (some 69) rfl (by kernel_rfl) (by kernel_rfl) (by kernel_rfl) (fun _ _ _ h => by cases h.1) (by kernel_rfl) S2 ?_
        simp only [Act.put, List.setIfInBounds_toArray, List.set_cons_zero, List.set_cons_succ]
        refine anyH_off (i := 25) rfl (some 70) rfl (by kernel_rfl) (by kernel_rfl) (by kernel_rfl) (fun _ _ _ h => by cases h.1) (by kernel_rfl) S2 ?_
        simp only [Act.put, List.setIfInBounds_toArray, List.set_cons_zero, List.set_cons_succ]
        refine anyH_off (i := 26) rfl (some 71) rfl (by kernel_rfl) (by kernel_rfl) (by kernel_rfl) (fun _ _ _ h => by cases h.1) (by kernel_rfl) S2 ?_
        simp only [Act.put, List.setIfInBounds_toArray, List.set_cons_zero, List.set_cons_succ]
        refine anyH_off (i := 27) rfl (some 72) rfl (by kernel_rfl) (by kernel_rfl) (by kernel_rfl) (fun _ _ _ h => by cases h.1) (by kernel_rfl) S2 ?_
        simp only [Act.put, List.setIfInBounds_toArray, List.set_cons_zero, List.set_cons_succ]
        refine anyH_take (i := 28) (v := .bool true) rfl (some 73) rfl (by kernel_rfl) (by kernel_rfl) (by kernel_rfl) (fun _ _ _ h => by cases h.1) (by kernel_rfl) (fun w0 hw0 => ex_pickT rfl rfl rfl) S2 ?_
        simp only [Act.put, List.setIfInBounds_toArray, List.set_cons_zero, List.set_cons_succ]
        refine anyH_take (i := 29) (v := .bool true) rfl (some 74) rfl (by kernel_rfl) (by kernel_rfl) (by kernel_rfl) (fun _ _ _ h => by cases h.1) (by kernel_rfl) (fun w0 hw0 => ex_pickT rfl rfl rfl) S2 ?_
        simp only [Act.put, List.setIfInBounds_toArray, List.set_cons_zero, List.set_cons_succ]
        refine anyH_val (i := 30) (by kernel_rfl) rfl (some 6) rfl (by kernel_rfl) (ex_any rfl rfl) S2 ?_
        simp only [Act.put, List.setIfInBounds_toArray, List.set_cons_zero, List.set_cons_succ]
        exact wpAnyH_done (by kernel_rfl) ⟨rfl, fill (B2) (by kernel_rfl)⟩ _
      case fin4 =>
        clear hV0 B0 T0 X0
        rintro a W4 ⟨xx, hB4, rfl⟩
        have HF := hide (H7.out.2.2.trans (hB4.mono (by omega)))
        clear hB4
        go_wp2_with fail
        go_ret
        exact ⟨rfl, HF.out⟩
    · by_cases hwn : x.wri < 0
      · have hv := torn_no2 H3.out.1 x.ba nb x.bc x.sa x.wri x.sv x.sc (by omega) (by omega) hwn
        rw [HL.out.2] at hv
        have HV := hide hv
        clear hv
        go_wp2_with (first
          | (go_at_call 24; refine HV.out.mono ?_; rintro e w6 ⟨rfl, vl6, vw6, t6, b6⟩; have s6 := b6.size; have H6 := hide (And.intro t6 (And.intro (H3.out.2.1.low b6 (by omega)) (H3.out.2.2.trans (b6.mono (by omega))))); clear t6 b6)
          | (go_at_call 20; refine (load_str H6.out.1 ls HLS.out).mono ?_; rintro e w7 ⟨v7, rfl, cv7, b7⟩; have s7 := b7.size; have H7 := hide (And.intro (H6.out.1.below b7) (And.intro (H6.out.2.1.below b7) (H6.out.2.2.trans (b7.mono (by omega))))); clear b7))
        have T0 := (H7.out.1).below (Below.refl _ w7).drew
        have X0 := (H7.out.2.1).below (Below.refl _ w7).drew
        have B0 : Below w7.heap.size w7 w7.drew := (Below.refl _ w7).drew
        obtain ⟨V0, hV0⟩ : ∃ V0, w7.drew = V0 := ⟨_, rfl⟩
        rw [hV0] at B0 T0 X0
        refine region_rel (S := fun V => Below V0.heap.size V0 V) (fun a W => ∃ xx : Nat → Value, (Below w7.heap.size w7 W) ∧ a = { tmps := #[xx 0, xx 1, xx 2, xx 3, xx 4, xx 5, .bool true, xx 7, xx 8, xx 9, xx 10, xx 11, xx 12, xx 13, xx 14, xx 15, xx 16, xx 17, xx 18, xx 19, xx 20, xx 21, xx 22, xx 23, xx 24, xx 25, xx 26, xx 27, xx 28, xx 29, xx 30, xx 31, xx 32, xx 33, xx 34, xx 35, xx 36, xx 37, xx 38, xx 39, xx 40, xx 41, xx 42, xx 43, xx 44, xx 45, xx 46, xx 47, xx 48, xx 49, xx 50, xx 51, xx 52, xx 53, xx 54, xx 55, xx 56, xx 57, xx 58, xx 59, xx 60, xx 61, xx 62, xx 63, xx 64, xx 65, xx 66, xx 67, xx 68, xx 69, xx 70, xx 71, xx 72, xx 73, xx 74, xx 75, xx 76, xx 77, xx 78, xx 79, xx 80, xx 81, xx 82, xx 83, xx 84, xx 85, xx 86, xx 87, xx 88, xx 89, xx 90, xx 91, xx 92, xx 93, xx 94, xx 95, xx 96, xx 97], defers := [] }) (by kernel_rfl) ?any5 ?fin5
        case any5 =>
          rw [hV0]
          clear hV0
          have S0 : Below V0.heap.size V0 V0 := Below.refl _ _
          refine anyH_take (i := 0) (v := .string ls) rfl (some 45) rfl (by kernel_rfl) (by kernel_rfl) (by kernel_rfl) (fun _ _ _ h => by cases h.1) (by kernel_rfl) (fun w0 hw0 => by first | rfl | kernel_rfl) S0 ?_
          simp only [Act.put, List.setIfInBounds_toArray, List.set_cons_zero, List.set_cons_succ]
          refine anyH_take (i := 1) (v := .string ls) rfl (some 46) rfl (by kernel_rfl) (by kernel_rfl) (by kernel_rfl) (fun _ _ _ h => by cases h.1) (by kernel_rfl) (fun w0 hw0 => by first | rfl | kernel_rfl) S0 ?_
          simp only [Act.put, List.setIfInBounds_toArray, List.set_cons_zero, List.set_cons_succ]
          refine anyH_take (i := 2) (v := .bool true) rfl (some 47) rfl (by kernel_rfl) (by kernel_rfl) (by kernel_rfl) (fun _ _ _ h => by cases h.1) (by kernel_rfl) (fun w0 hw0 => ex_eqs rfl rfl rfl) S0 ?_
          simp only [Act.put, List.setIfInBounds_toArray, List.set_cons_zero, List.set_cons_succ]
          refine anyH_take (i := 3) (v := .bool true) rfl (some 48) rfl (by kernel_rfl) (by kernel_rfl) (by kernel_rfl) (fun _ _ _ h => by cases h.1) (by kernel_rfl) (fun w0 hw0 => by first | rfl | kernel_rfl) S0 ?_
          simp only [Act.put, List.setIfInBounds_toArray, List.set_cons_zero, List.set_cons_succ]
          refine anyH_take (i := 4) (v := .pointer (some ⟨qs, 0, none⟩)) rfl (some 49) rfl (by kernel_rfl) (by kernel_rfl) (by kernel_rfl) (fun _ _ _ h => by cases h.1) (by kernel_rfl) (fun w0 hw0 => by first | rfl | kernel_rfl) S0 ?_
          simp only [Act.put, List.setIfInBounds_toArray, List.set_cons_zero, List.set_cons_succ]
          refine anyH_take (i := 6) (v := .int .u64 t.toNat) rfl (some 51) rfl (by kernel_rfl) (by kernel_rfl) (by kernel_rfl) (fun _ _ _ h => by cases h.1) (by kernel_rfl) (fun w0 hw0 => by first | rfl | kernel_rfl) S0 ?_
          simp only [Act.put, List.setIfInBounds_toArray, List.set_cons_zero, List.set_cons_succ]
          refine anyH_one (i := 5) (by kernel_rfl) ?_
          refine op_call rfl (some 50) rfl (by kernel_rfl) #[.pointer (some ⟨qs, 0, none⟩)] rfl (by simp [Act.eval]) (fun _ _ => rfl) (turn_sto T0) ?_
          rintro e V1 ⟨rfl, b1⟩
          have b1 : Below V0.heap.size V0 V1 := b1
          refine ⟨_, rfl, S0.trans (b1.mono S0.size), ?_⟩
          simp only [Act.put, List.setIfInBounds_toArray, List.set_cons_zero, List.set_cons_succ]
          refine anyH_more (fun V => Below V1.heap.size V1 V) (fun V hV => S0.trans ((b1.trans (hV.mono b1.size)).mono S0.size)) ?_
          have S1 : Below V1.heap.size V1 V1 := Below.refl _ _
          have B1 : Below w7.heap.size w7 V1 := B0.trans (b1.mono B0.size)
          have T1 := T0.below b1
          have X1 := X0.below b1
          refine anyH_take (i := 7) (v := .bool true) rfl (some 52) rfl (by kernel_rfl) (by kernel_rfl) (by kernel_rfl) (fun _ _ _ h => by cases h.1) (by kernel_rfl) (fun w0 hw0 => ex_equ rfl rfl rfl) S1 ?_
          simp only [Act.put, List.setIfInBounds_toArray, List.set_cons_zero, List.set_cons_succ]
          refine anyH_take (i := 8) (v := .bool true) rfl (some 53) rfl (by kernel_rfl) (by kernel_rfl) (by kernel_rfl) (fun _ _ _ h => by cases h.1) (by kernel_rfl) (fun w0 hw0 => ex_pickT rfl rfl rfl) S1 ?_
          simp only [Act.put, List.setIfInBounds_toArray, List.set_cons_zero, List.set_cons_succ]
          refine anyH_take (i := 9) (v := .bool true) rfl (some 54) rfl (by kernel_rfl) (by kernel_rfl) (by kernel_rfl) (fun _ _ _ h => by cases h.1) (by kernel_rfl) (fun w0 hw0 => by first | rfl | kernel_rfl) S1 ?_
          simp only [Act.put, List.setIfInBounds_toArray, List.set_cons_zero, List.set_cons_succ]
          refine anyH_take (i := 10) (v := .int .i64 2) rfl (some 55) rfl (by kernel_rfl) (by kernel_rfl) (by kernel_rfl) (fun _ _ _ h => by cases h.1) (by kernel_rfl) (fun w0 hw0 => by first | rfl | kernel_rfl) S1 ?_
          simp only [Act.put, List.setIfInBounds_toArray, List.set_cons_zero, List.set_cons_succ]
          refine anyH_take (i := 11) (v := .bool false) rfl (some 56) rfl (by kernel_rfl) (by kernel_rfl) (by kernel_rfl) (fun _ _ _ h => by cases h.1) (by kernel_rfl) (fun w0 hw0 => by first | rfl | kernel_rfl) S1 ?_
          simp only [Act.put, List.setIfInBounds_toArray, List.set_cons_zero, List.set_cons_succ]
          refine anyH_take (i := 12) (v := .bool false) rfl (some 57) rfl (by kernel_rfl) (by kernel_rfl) (by kernel_rfl) (fun _ _ _ h => by cases h.1) (by kernel_rfl) (fun w0 hw0 => by first | rfl | kernel_rfl) S1 ?_
          simp only [Act.put, List.setIfInBounds_toArray, List.set_cons_zero, List.set_cons_succ]
          refine anyH_off (i := 13) rfl (some 58) rfl (by kernel_rfl) (by kernel_rfl) (by kernel_rfl) (fun _ _ _ h => by cases h.1) (by kernel_rfl) S1 ?_
          simp only [Act.put, List.setIfInBounds_toArray, List.set_cons_zero, List.set_cons_succ]
          refine anyH_off (i := 14) rfl (some 59) rfl (by kernel_rfl) (by kernel_rfl) (by kernel_rfl) (fun _ _ _ h => by cases h.1) (by kernel_rfl) S1 ?_
          simp only [Act.put, List.setIfInBounds_toArray, List.set_cons_zero, List.set_cons_succ]
          refine anyH_off (i := 15) rfl (some 60) rfl (by kernel_rfl) (by kernel_rfl) (by kernel_rfl) (fun _ _ _ h => by cases h.1) (by kernel_rfl) S1 ?_
          simp only [Act.put, List.setIfInBounds_toArray, List.set_cons_zero, List.set_cons_succ]
          refine anyH_off (i := 16) rfl (some 61) rfl (by kernel_rfl) (by kernel_rfl) (by kernel_rfl) (fun _ _ _ h => by cases h.1) (by kernel_rfl) S1 ?_
          simp only [Act.put, List.setIfInBounds_toArray, List.set_cons_zero, List.set_cons_succ]
          refine anyH_off (i := 17) rfl (some 62) rfl (by kernel_rfl) (by kernel_rfl) (by kernel_rfl) (fun _ _ _ h => by cases h.1) (by kernel_rfl) S1 ?_
          simp only [Act.put, List.setIfInBounds_toArray, List.set_cons_zero, List.set_cons_succ]
          refine anyH_off (i := 18) rfl (some 63) rfl (by kernel_rfl) (by kernel_rfl) (by kernel_rfl) (fun _ _ _ h => by cases h.1) (by kernel_rfl) S1 ?_
          simp only [Act.put, List.setIfInBounds_toArray, List.set_cons_zero, List.set_cons_succ]
          refine anyH_take (i := 19) (v := .bool false) rfl (some 64) rfl (by kernel_rfl) (by kernel_rfl) (by kernel_rfl) (fun _ _ _ h => by cases h.1) (by kernel_rfl) (fun w0 hw0 => ex_pickF rfl rfl rfl) S1 ?_
          simp only [Act.put, List.setIfInBounds_toArray, List.set_cons_zero, List.set_cons_succ]
          refine anyH_take (i := 20) (v := .bool false) rfl (some 65) rfl (by kernel_rfl) (by kernel_rfl) (by kernel_rfl) (fun _ _ _ h => by cases h.1) (by kernel_rfl) (fun w0 hw0 => by first | rfl | kernel_rfl) S1 ?_
          simp only [Act.put, List.setIfInBounds_toArray, List.set_cons_zero, List.set_cons_succ]
          refine anyH_take (i := 21) (v := .int .i64 2) rfl (some 66) rfl (by kernel_rfl) (by kernel_rfl) (by kernel_rfl) (fun _ _ _ h => by cases h.1) (by kernel_rfl) (fun w0 hw0 => by first | rfl | kernel_rfl) S1 ?_
          simp only [Act.put, List.setIfInBounds_toArray, List.set_cons_zero, List.set_cons_succ]
          refine anyH_take (i := 22) (v := .bool true) rfl (some 67) rfl (by kernel_rfl) (by kernel_rfl) (by kernel_rfl) (fun _ _ _ h => by cases h.1) (by kernel_rfl) (fun w0 hw0 => ex_eqe rfl rfl rfl) S1 ?_
          simp only [Act.put, List.setIfInBounds_toArray, List.set_cons_zero, List.set_cons_succ]
          refine anyH_take (i := 23) (v := .bool true) rfl (some 68) rfl (by kernel_rfl) (by kernel_rfl) (by kernel_rfl) (fun _ _ _ h => by cases h.1) (by kernel_rfl) (fun w0 hw0 => by first | rfl | kernel_rfl) S1 ?_
          simp only [Act.put, List.setIfInBounds_toArray, List.set_cons_zero, List.set_cons_succ]
          refine anyH_take (i := 24) (v := .pointer (some ⟨w.heap.size, 2, none⟩)) rfl (some 69) rfl (by kernel_rfl) (by kernel_rfl) (by kernel_rfl) (fun _ _ _ h => by cases h.1) (by kernel_rfl) (fun w0 hw0 => ex_fieldD2 rfl rfl) S1 ?_
          simp only [Act.put, List.setIfInBounds_toArray, List.set_cons_zero, List.set_cons_succ]
          refine anyH_take (i := 25) (v := .int .i64 x.wri) rfl (some 70) rfl (by kernel_rfl) (by kernel_rfl) (by kernel_rfl) (fun _ _ _ h => by cases h.1) (by kernel_rfl) (fun w0 hw0 => ex_load rfl rfl (run_load_cell Try.underlying3 rfl (cellsN (X1.below hw0).here).2.2.1)) S1 ?_
          simp only [Act.put, List.setIfInBounds_toArray, List.set_cons_zero, List.set_cons_succ]
          refine anyH_take (i := 26) (v := .bool true) rfl (some 71) rfl (by kernel_rfl) (by kernel_rfl) (by kernel_rfl) (fun _ _ _ h => by cases h.1) (by kernel_rfl) (fun w0 hw0 => ex_lssT rfl rfl rfl (by omega)) S1 ?_
          simp only [Act.put, List.setIfInBounds_toArray, List.set_cons_zero, List.set_cons_succ]
          refine anyH_take (i := 27) (v := .bool true) rfl (some 72) rfl (by kernel_rfl) (by kernel_rfl) (by kernel_rfl) (fun _ _ _ h => by cases h.1) (by kernel_rfl) (fun w0 hw0 => ex_pickT rfl rfl rfl) S1 ?_
          simp only [Act.put, List.setIfInBounds_toArray, List.set_cons_zero, List.set_cons_succ]
          refine anyH_take (i := 28) (v := .bool true) rfl (some 73) rfl (by kernel_rfl) (by kernel_rfl) (by kernel_rfl) (fun _ _ _ h => by cases h.1) (by kernel_rfl) (fun w0 hw0 => ex_pickF rfl rfl rfl) S1 ?_
          simp only [Act.put, List.setIfInBounds_toArray, List.set_cons_zero, List.set_cons_succ]
          refine anyH_take (i := 29) (v := .bool true) rfl (some 74) rfl (by kernel_rfl) (by kernel_rfl) (by kernel_rfl) (fun _ _ _ h => by cases h.1) (by kernel_rfl) (fun w0 hw0 => ex_pickT rfl rfl rfl) S1 ?_
          simp only [Act.put, List.setIfInBounds_toArray, List.set_cons_zero, List.set_cons_succ]
          refine anyH_val (i := 30) (by kernel_rfl) rfl (some 6) rfl (by kernel_rfl) (ex_any rfl rfl) S1 ?_
          simp only [Act.put, List.setIfInBounds_toArray, List.set_cons_zero, List.set_cons_succ]
          exact wpAnyH_done (by kernel_rfl) ⟨rfl, fill (B1) (by kernel_rfl)⟩ _
        case fin5 =>
          clear hV0 B0 T0 X0
          rintro a W5 ⟨xx, hB5, rfl⟩
          have HF := hide (H7.out.2.2.trans (hB5.mono (by omega)))
          clear hB5
          go_wp2_with fail
          go_ret
          exact ⟨rfl, HF.out⟩
      · obtain ⟨bs, hbs⟩ : ∃ bs : ByteArray, ⟨x.b.toArray⟩ = bs := ⟨_, rfl⟩
        have HBS := hide hbs
        have HCB := hide fun (V : World) (hV : ByteMem w.heap.size V x.ba x.b) => (show (convert 30 9 (.slice x.ba nb x.bc)).run Try.prog V = .ok (.string bs) V from by
          have := conv_mem hV x.bc
          rwa [HL.out.1, hbs] at this)
        clear hbs
        obtain ⟨tt, htt⟩ : ∃ tt, t.toNat = tt := ⟨_, rfl⟩
        have htp : (t + 1#64).toNat = tt + 1 := by rw [inc_nat (by omega), htt]
        have hu1 : IntKind.u64.wrap ((tt : Int) + 1) = (tt : Int) + 1 := by show ((tt : Int) + 1) % 18446744073709551616 = _; omega
        have hv := torn_yes H3.out.1 HX3.out.1 (by omega) HL.out.1 hlen (by omega) (by omega) (by omega : 0 ≤ x.wri) (cv := x.sc) HX3.out.2
        rw [HL.out.2] at hv
        have HV := hide hv
        clear hv
        rw [htt]
        go_wp2_with (first
          | (go_at_call 24; refine HV.out.mono ?_; rintro e w6 ⟨rfl, hor, b6⟩; have s6 := b6.size; have H6b := hide (And.intro (H3.out.2.1.low b6 (by omega)) (H3.out.2.2.trans (b6.mono (by omega)))); clear b6; refine stopHere ?_))
        unfold Hid
        rcases hor with ⟨vl6, vw6, t6⟩ | ⟨vl6, vw6, t6⟩
        · have H6 := hide (And.intro t6 H6b.out)
          clear t6
          go_wp2_with (first
            | (go_at_call 20; refine (load_str H6.out.1 ls HLS.out).mono ?_; rintro e w7 ⟨v7, rfl, cv7, b7⟩; have s7 := b7.size; have H7 := hide (And.intro (H6.out.1.below b7) (And.intro (H6.out.2.1.below b7) (H6.out.2.2.trans (b7.mono (by omega))))); clear b7)
            | (go_at_call 21; refine (turn_sto H7.out.1).mono ?_; rintro e w8 ⟨rfl, b8⟩; rw [htt]; have H8 := hide (H7.out.2.2.trans (b8.mono (by omega))); clear b8))
          go_ret
          exact ⟨rfl, H8.out⟩
        · have H6 := hide (And.intro t6 H6b.out)
          clear t6
          have hne : ((tt : Int) + 1 == (tt : Int)) = false := by rw [beq_eq_false_iff_ne]; omega
          have hpc : (((t + 1#64).toNat : Nat) : Int) = (tt : Int) + 1 := by rw [htp]; rfl
          by_cases hss : bs = ls
          · subst hss
            go_wp2_with (first
              | (go_at_call 20; refine (load_str H6.out.1 bs HBS.out).mono ?_; rintro e w7 ⟨v7, rfl, cv7, b7⟩; have s7 := b7.size; have H7 := hide (And.intro (H6.out.1.below b7) (And.intro (H6.out.2.1.below b7) (H6.out.2.2.trans (b7.mono (by omega))))); clear b7; refine stopHere ?_))
            unfold Hid
            obtain ⟨i0, i1, i2, i3⟩ := cellsN H7.out.2.1.here
            go_wp2_with (first
              | (go_at_call 21; refine (turn_sto H7.out.1).mono ?_; rintro e w8 ⟨rfl, b8⟩; rw [hpc]; have s8 := b8.size; have H8 := hide (And.intro (H7.out.1.below b8) (And.intro (H7.out.2.1.below b8) (H7.out.2.2.trans (b8.mono (by omega))))); clear b8; refine stopHere ?_))
            unfold Hid
            obtain ⟨y0, y1, y2, y3⟩ := cellsN H8.out.2.1.here
            have cvb := HCB.out w8 (HX.out.by_.below H8.out.2.2)
            go_wp2_with (first
              | (go_at_call 21; refine (turn_sto H8.out.1).mono ?_; rintro e w9 ⟨rfl, b9⟩; rw [hpc]; have H9 := hide (H8.out.2.2.trans (b9.mono (by omega))); clear b9))
            go_ret
            exact ⟨rfl, H9.out⟩
          · have hse := str_ne hss
            go_wp2_with (first
              | (go_at_call 20; refine (load_str H6.out.1 bs HBS.out).mono ?_; rintro e w7 ⟨v7, rfl, cv7, b7⟩; have s7 := b7.size; have H7 := hide (And.intro (H6.out.1.below b7) (And.intro (H6.out.2.1.below b7) (H6.out.2.2.trans (b7.mono (by omega))))); clear b7; refine stopHere ?_))
            unfold Hid
            obtain ⟨y0, y1, y2, y3⟩ := cellsN H7.out.2.1.here
            have cvb := HCB.out w7 (HX.out.by_.below H7.out.2.2)
            go_wp2_with (first
              | (go_at_call 21; refine (turn_sto H7.out.1).mono ?_; rintro e w9 ⟨rfl, b9⟩; rw [hpc]; have H9 := hide (H7.out.2.2.trans (b9.mono (by omega))); clear b9))
            go_ret
            exact ⟨rfl, H9.out⟩
end Go.Proofs.Ytfknjmfkkaoggaa
