/- Both maps tell the same. -/
import Derived.Test.YtjdcgndcljmieaaR8
import Derived.Test.YtjdcgndcljmieaaR5
namespace Go.Proofs.Ytjdcgndcljmieaa
open Go.RowKit

set_option maxRecDepth 100000 in
theorem rsize_any (base p : Nat) (v : Value) (L : List Pr) (w : World) (h : IsR base p v L w) (hG : Good L) :
    Calls Try.prog 28 #[.pointer (some ⟨p, 0, none⟩)] w fun e w' => e = .returned (.int .i64 (sizeM L)) ∧ Below w.heap.size w w' := by
  have HB := hide (rbytes_any base p v L w h hG)
  obtain ⟨m, hm⟩ : ∃ m, (bytesM L).length = m := ⟨_, rfl⟩
  rw [← bytesM_len, hm]
  clear h
  go_enter Try.func28, Try.ntmps28
  go_wp2_with (first
    | (go_at_call 29; refine HB.out.mono ?_; rintro e w1 ⟨u, rfl, r1, b1⟩; unfold Row at r1; rw [hm] at r1; obtain ⟨ga, gc, rfl⟩ := own_shape r1; have H1 := hide b1; clear r1 b1))
  go_ret
  exact ⟨rfl, H1.out⟩
theorem ex_eqs {o : Oper} {a : Act} {w : World} {x y : Operand} {s : ByteArray} (ho : o.op = .binOp .eql 9 x y 9) (hx : a.eval x = .string s) (hy : a.eval y = .string s) : (execOp a.eval o).run Try.prog w = .ok (.value (.bool true)) w := by
  unfold execOp
  simp only [ho, hx, hy]
  go_simp
theorem ex_eqb {o : Oper} {a : Act} {w : World} {x y : Operand} {s : Bool} (ho : o.op = .binOp .eql 4 x y 4) (hx : a.eval x = .bool s) (hy : a.eval y = .bool s) : (execOp a.eval o).run Try.prog w = .ok (.value (.bool true)) w := by
  unfold execOp
  simp only [ho, hx, hy]
  go_simp
theorem ex_eqi {o : Oper} {a : Act} {w : World} {x y : Operand} {s : Int} (ho : o.op = .binOp .eql 3 x y 3) (hx : a.eval x = .int .i64 s) (hy : a.eval y = .int .i64 s) : (execOp a.eval o).run Try.prog w = .ok (.value (.bool true)) w := by
  unfold execOp
  simp only [ho, hx, hy]
  go_simp
theorem ex_conv {o : Oper} {a : Act} {w : World} {x : Operand} {u v : Value} {t t' : TypeId} (ho : o.op = .convert t t' x) (hx : a.eval x = u) (hr : (convert t t' u).run Try.prog w = .ok v w) : (execOp a.eval o).run Try.prog w = .ok (.value v) w := by
  unfold execOp
  simp [ho, hx, hr]
theorem ex_pick {o : Oper} {a : Act} {w : World} {x y z : Operand} {v : Value} (ho : o.op = .pick x y z) (hx : a.eval x = .bool true) (hy : a.eval y = v) : (execOp a.eval o).run Try.prog w = .ok (.value v) w := by
  unfold execOp
  simp only [ho, hx, hy]
  go_simp
set_option maxRecDepth 100000 in
set_option maxHeartbeats 4000000 in
theorem same_any (base p b q : Nat) (L : List Pr) (u : Value) (s : ByteArray) (w : World) (hT : Two base p b q L u w) (hG : Good L) :
    Calls Try.prog 11 #[.pointer (some ⟨p, 0, none⟩), .pointer (some ⟨q, 0, none⟩), .string s] w fun e w' => e = .returned (.bool true) ∧ Below w.heap.size w w' := by
  have HT := hide hT
  have HG := hide hG
  have H1 := hide (get_any base p b L s w hT.dev)
  obtain ⟨g, hg⟩ : ∃ g, (getM L s).getD ⟨#[]⟩ = g := ⟨_, rfl⟩
  obtain ⟨k, hk⟩ : ∃ k, (getM L s).isSome = k := ⟨_, rfl⟩
  rw [hg, hk] at H1
  have HGK := hide (And.intro hg hk)
  clear hT hG hg hk
  go_enter Try.func11, Try.ntmps11
  go_wp2_with (first
    | (go_at_call 15; refine H1.out.mono ?_; rintro e w1 ⟨rfl, c1⟩; have H2 := hide (rget_any base q u L s w1 (HT.out.below c1).ref); rw [HGK.out.1, HGK.out.2] at H2; have HC := hide c1; clear c1)
    | (go_at_call 26; refine H2.out.mono ?_; rintro e w2 ⟨rfl, hw2⟩; rw [hw2]; clear hw2))
  have T0 := (HT.out.below HC.out).below (Below.refl _ w1).drew
  have B0 : Below w.heap.size w w1.drew := HC.out.trans (Below.refl _ w1).drew
  obtain ⟨V0, hV0⟩ : ∃ V0, w1.drew = V0 := ⟨_, rfl⟩
  rw [hV0] at T0 B0
  refine region_rel (S := fun V => Below V0.heap.size V0 V) (fun a W => ∃ x0 x1 x2 x3 x4 x5 x7 x8 x9 x10 x11 x12 x13 x14 x15 x16 x17 x18 x19 x20 x21 x22 x23 x24 x25 x26 x27 x28 x29 x30 x31 x32 x33 x34 x35 x36 x37 x38 x39 x40 x41 x42 x43 x44 x45 x46 x47 x48 x49 x50 x51 x52 x53 x54 x55 x56 x57 x58 x59 x60 x61 x62 : Value, Below w.heap.size w W ∧ a = { tmps := #[x0, x1, x2, x3, x4, x5, .bool true, x7, x8, x9, x10, x11, x12, x13, x14, x15, x16, x17, x18, x19, x20, x21, x22, x23, x24, x25, x26, x27, x28, x29, x30, x31, x32, x33, x34, x35, x36, x37, x38, x39, x40, x41, x42, x43, x44, x45, x46, x47, x48, x49, x50, x51, x52, x53, x54, x55, x56, x57, x58, x59, x60, x61, x62], defers := [] }) (by kernel_rfl) ?any ?fin
  case any =>
    rw [hV0]
    clear hV0 H1 H2 HC
    have S0 : Below V0.heap.size V0 V0 := Below.refl _ _
    refine anyH_take (i := 0) (v := .string g) rfl (some 23) rfl (by kernel_rfl) (by kernel_rfl) (by kernel_rfl) (fun _ _ _ h => by cases h.1) rfl (fun w0 hw0 => by first | rfl | kernel_rfl) S0 ?_
    simp only [Act.put, List.setIfInBounds_toArray, List.set_cons_zero, List.set_cons_succ]
    refine anyH_take (i := 1) (v := .string g) rfl (some 24) rfl (by kernel_rfl) (by kernel_rfl) (by kernel_rfl) (fun _ _ _ h => by cases h.1) rfl (fun w0 hw0 => by first | rfl | kernel_rfl) S0 ?_
    simp only [Act.put, List.setIfInBounds_toArray, List.set_cons_zero, List.set_cons_succ]
    refine anyH_take (i := 2) (v := .bool true) rfl (some 25) rfl (by kernel_rfl) (by kernel_rfl) (by kernel_rfl) (fun _ _ _ h => by cases h.1) rfl (fun w0 hw0 => ex_eqs rfl rfl rfl) S0 ?_
    simp only [Act.put, List.setIfInBounds_toArray, List.set_cons_zero, List.set_cons_succ]
    refine anyH_take (i := 3) (v := .bool true) rfl (some 26) rfl (by kernel_rfl) (by kernel_rfl) (by kernel_rfl) (fun _ _ _ h => by cases h.1) rfl (fun w0 hw0 => by first | rfl | kernel_rfl) S0 ?_
    simp only [Act.put, List.setIfInBounds_toArray, List.set_cons_zero, List.set_cons_succ]
    refine anyH_take (i := 4) (v := .bool k) rfl (some 27) rfl (by kernel_rfl) (by kernel_rfl) (by kernel_rfl) (fun _ _ _ h => by cases h.1) rfl (fun w0 hw0 => by first | rfl | kernel_rfl) S0 ?_
    simp only [Act.put, List.setIfInBounds_toArray, List.set_cons_zero, List.set_cons_succ]
    refine anyH_take (i := 5) (v := .bool k) rfl (some 28) rfl (by kernel_rfl) (by kernel_rfl) (by kernel_rfl) (fun _ _ _ h => by cases h.1) rfl (fun w0 hw0 => by first | rfl | kernel_rfl) S0 ?_
    simp only [Act.put, List.setIfInBounds_toArray, List.set_cons_zero, List.set_cons_succ]
    refine anyH_take (i := 6) (v := .bool true) rfl (some 29) rfl (by kernel_rfl) (by kernel_rfl) (by kernel_rfl) (fun _ _ _ h => by cases h.1) rfl (fun w0 hw0 => ex_eqb rfl rfl rfl) S0 ?_
    simp only [Act.put, List.setIfInBounds_toArray, List.set_cons_zero, List.set_cons_succ]
    refine anyH_take (i := 7) (v := .bool true) rfl (some 30) rfl (by kernel_rfl) (by kernel_rfl) (by kernel_rfl) (fun _ _ _ h => by cases h.1) rfl (fun w0 hw0 => ex_pick rfl rfl rfl) S0 ?_
    simp only [Act.put, List.setIfInBounds_toArray, List.set_cons_zero, List.set_cons_succ]
    refine anyH_take (i := 8) (v := .bool true) rfl (some 31) rfl (by kernel_rfl) (by kernel_rfl) (by kernel_rfl) (fun _ _ _ h => by cases h.1) rfl (fun w0 hw0 => by first | rfl | kernel_rfl) S0 ?_
    simp only [Act.put, List.setIfInBounds_toArray, List.set_cons_zero, List.set_cons_succ]
    refine anyH_take (i := 9) (v := .pointer (some ⟨p, 0, none⟩)) rfl (some 32) rfl (by kernel_rfl) (by kernel_rfl) (by kernel_rfl) (fun _ _ _ h => by cases h.1) rfl (fun w0 hw0 => by first | rfl | kernel_rfl) S0 ?_
    simp only [Act.put, List.setIfInBounds_toArray, List.set_cons_zero, List.set_cons_succ]
    refine anyH_take (i := 11) (v := .pointer (some ⟨q, 0, none⟩)) rfl (some 34) rfl (by kernel_rfl) (by kernel_rfl) (by kernel_rfl) (fun _ _ _ h => by cases h.1) rfl (fun w0 hw0 => by first | rfl | kernel_rfl) S0 ?_
    simp only [Act.put, List.setIfInBounds_toArray, List.set_cons_zero, List.set_cons_succ]
    refine anyH_one (i := 10) (by kernel_rfl) ?_
    refine op_call rfl (some 33) rfl rfl #[.pointer (some ⟨p, 0, none⟩)] rfl (by simp [Act.eval]) (fun _ _ => rfl) (len_any base p b L _ T0.dev) ?_
    rintro e V1 ⟨rfl, e1⟩
    have b1 : Below V0.heap.size V0 V1 := by rw [e1]; exact Below.refl _ _
    refine ⟨_, rfl, S0.trans (b1.mono S0.size), ?_⟩
    simp only [Act.put, List.setIfInBounds_toArray, List.set_cons_zero, List.set_cons_succ]
    refine anyH_more (fun V => Below V1.heap.size V1 V) (fun V hV => S0.trans ((b1.trans (hV.mono b1.size)).mono S0.size)) ?_
    have S1 : Below V1.heap.size V1 V1 := Below.refl _ _
    have T1 := T0.below b1
    have B1 : Below w.heap.size w V1 := B0.trans (b1.mono B0.size)
    refine anyH_one (i := 12) (by kernel_rfl) ?_
    refine op_call rfl (some 35) rfl rfl #[.pointer (some ⟨q, 0, none⟩)] rfl (by simp [Act.eval]) (fun _ _ => rfl) (rlen_any base q u L _ T1.ref) ?_
    rintro e V2 ⟨rfl, e2⟩
    have b2 : Below V1.heap.size V1 V2 := by rw [e2]; exact Below.refl _ _
    refine ⟨_, rfl, S1.trans (b2.mono S1.size), ?_⟩
    simp only [Act.put, List.setIfInBounds_toArray, List.set_cons_zero, List.set_cons_succ]
    refine anyH_more (fun V => Below V2.heap.size V2 V) (fun V hV => S1.trans ((b2.trans (hV.mono b2.size)).mono S1.size)) ?_
    have S2 : Below V2.heap.size V2 V2 := Below.refl _ _
    have T2 := T1.below b2
    have B2 : Below w.heap.size w V2 := B1.trans (b2.mono B1.size)
    refine anyH_take (i := 13) (v := .bool true) rfl (some 36) rfl (by kernel_rfl) (by kernel_rfl) (by kernel_rfl) (fun _ _ _ h => by cases h.1) rfl (fun w0 hw0 => ex_eqi rfl rfl rfl) S2 ?_
    simp only [Act.put, List.setIfInBounds_toArray, List.set_cons_zero, List.set_cons_succ]
    refine anyH_take (i := 14) (v := .bool true) rfl (some 37) rfl (by kernel_rfl) (by kernel_rfl) (by kernel_rfl) (fun _ _ _ h => by cases h.1) rfl (fun w0 hw0 => ex_pick rfl rfl rfl) S2 ?_
    simp only [Act.put, List.setIfInBounds_toArray, List.set_cons_zero, List.set_cons_succ]
    refine anyH_take (i := 15) (v := .bool true) rfl (some 38) rfl (by kernel_rfl) (by kernel_rfl) (by kernel_rfl) (fun _ _ _ h => by cases h.1) rfl (fun w0 hw0 => by first | rfl | kernel_rfl) S2 ?_
    simp only [Act.put, List.setIfInBounds_toArray, List.set_cons_zero, List.set_cons_succ]
    refine anyH_take (i := 16) (v := .pointer (some ⟨p, 0, none⟩)) rfl (some 39) rfl (by kernel_rfl) (by kernel_rfl) (by kernel_rfl) (fun _ _ _ h => by cases h.1) rfl (fun w0 hw0 => by first | rfl | kernel_rfl) S2 ?_
    simp only [Act.put, List.setIfInBounds_toArray, List.set_cons_zero, List.set_cons_succ]
    refine anyH_take (i := 18) (v := .pointer (some ⟨q, 0, none⟩)) rfl (some 41) rfl (by kernel_rfl) (by kernel_rfl) (by kernel_rfl) (fun _ _ _ h => by cases h.1) rfl (fun w0 hw0 => by first | rfl | kernel_rfl) S2 ?_
    simp only [Act.put, List.setIfInBounds_toArray, List.set_cons_zero, List.set_cons_succ]
    refine anyH_one (i := 17) (by kernel_rfl) ?_
    refine op_call rfl (some 40) rfl rfl #[.pointer (some ⟨p, 0, none⟩)] rfl (by simp [Act.eval]) (fun _ _ => rfl) (size_any base p b L _ T2.dev HG.out) ?_
    rintro e V3 ⟨rfl, b3⟩
    have b3 : Below V2.heap.size V2 V3 := b3
    refine ⟨_, rfl, S2.trans (b3.mono S2.size), ?_⟩
    simp only [Act.put, List.setIfInBounds_toArray, List.set_cons_zero, List.set_cons_succ]
    refine anyH_more (fun V => Below V3.heap.size V3 V) (fun V hV => S2.trans ((b3.trans (hV.mono b3.size)).mono S2.size)) ?_
    have S3 : Below V3.heap.size V3 V3 := Below.refl _ _
    have T3 := T2.below b3
    have B3 : Below w.heap.size w V3 := B2.trans (b3.mono B2.size)
    refine anyH_one (i := 19) (by kernel_rfl) ?_
    refine op_call rfl (some 42) rfl rfl #[.pointer (some ⟨q, 0, none⟩)] rfl (by simp [Act.eval]) (fun _ _ => rfl) (rsize_any base q u L _ T3.ref HG.out) ?_
    rintro e V4 ⟨rfl, b4⟩
    have b4 : Below V3.heap.size V3 V4 := b4
    refine ⟨_, rfl, S3.trans (b4.mono S3.size), ?_⟩
    simp only [Act.put, List.setIfInBounds_toArray, List.set_cons_zero, List.set_cons_succ]
    refine anyH_more (fun V => Below V4.heap.size V4 V) (fun V hV => S3.trans ((b4.trans (hV.mono b4.size)).mono S3.size)) ?_
    have S4 : Below V4.heap.size V4 V4 := Below.refl _ _
    have T4 := T3.below b4
    have B4 : Below w.heap.size w V4 := B3.trans (b4.mono B3.size)
    refine anyH_take (i := 20) (v := .bool true) rfl (some 43) rfl (by kernel_rfl) (by kernel_rfl) (by kernel_rfl) (fun _ _ _ h => by cases h.1) rfl (fun w0 hw0 => ex_eqi rfl rfl rfl) S4 ?_
    simp only [Act.put, List.setIfInBounds_toArray, List.set_cons_zero, List.set_cons_succ]
    refine anyH_take (i := 21) (v := .bool true) rfl (some 44) rfl (by kernel_rfl) (by kernel_rfl) (by kernel_rfl) (fun _ _ _ h => by cases h.1) rfl (fun w0 hw0 => ex_pick rfl rfl rfl) S4 ?_
    simp only [Act.put, List.setIfInBounds_toArray, List.set_cons_zero, List.set_cons_succ]
    refine anyH_take (i := 22) (v := .bool true) rfl (some 45) rfl (by kernel_rfl) (by kernel_rfl) (by kernel_rfl) (fun _ _ _ h => by cases h.1) rfl (fun w0 hw0 => by first | rfl | kernel_rfl) S4 ?_
    simp only [Act.put, List.setIfInBounds_toArray, List.set_cons_zero, List.set_cons_succ]
    refine anyH_take (i := 23) (v := .pointer (some ⟨p, 0, none⟩)) rfl (some 46) rfl (by kernel_rfl) (by kernel_rfl) (by kernel_rfl) (fun _ _ _ h => by cases h.1) rfl (fun w0 hw0 => by first | rfl | kernel_rfl) S4 ?_
    simp only [Act.put, List.setIfInBounds_toArray, List.set_cons_zero, List.set_cons_succ]
    refine anyH_take (i := 26) (v := .pointer (some ⟨q, 0, none⟩)) rfl (some 49) rfl (by kernel_rfl) (by kernel_rfl) (by kernel_rfl) (fun _ _ _ h => by cases h.1) rfl (fun w0 hw0 => by first | rfl | kernel_rfl) S4 ?_
    simp only [Act.put, List.setIfInBounds_toArray, List.set_cons_zero, List.set_cons_succ]
    refine anyH_one (i := 24) (by kernel_rfl) ?_
    refine op_call rfl (some 47) rfl rfl #[.pointer (some ⟨p, 0, none⟩)] rfl (by simp [Act.eval]) (fun _ _ => rfl) (bytes_any base p b L _ T4.dev HG.out) ?_
    rintro e V5 ⟨v5, rfl, r5, b5⟩
    have b5 : Below V4.heap.size V4 V5 := b5
    refine ⟨_, rfl, S4.trans (b5.mono S4.size), ?_⟩
    simp only [Act.put, List.setIfInBounds_toArray, List.set_cons_zero, List.set_cons_succ]
    refine anyH_more (fun V => Below V5.heap.size V5 V) (fun V hV => S4.trans ((b5.trans (hV.mono b5.size)).mono S4.size)) ?_
    have S5 : Below V5.heap.size V5 V5 := Below.refl _ _
    have T5 := T4.below b5
    have B5 : Below w.heap.size w V5 := B4.trans (b5.mono B4.size)
    refine anyH_take (i := 25) (v := .string (ofS (bytesM L))) rfl (some 48) rfl (by kernel_rfl) (by kernel_rfl) (by kernel_rfl) (fun _ _ _ h => by cases h.1) rfl (fun w0 hw0 => ex_conv rfl rfl (conv_row (own_same r5 (fun g e => hw0.block g (own_lt r5 g e))))) S5 ?_
    simp only [Act.put, List.setIfInBounds_toArray, List.set_cons_zero, List.set_cons_succ]
    refine anyH_one (i := 27) (by kernel_rfl) ?_
    refine op_call rfl (some 50) rfl rfl #[.pointer (some ⟨q, 0, none⟩)] rfl (by simp [Act.eval]) (fun _ _ => rfl) (rbytes_any base q u L _ T5.ref HG.out) ?_
    rintro e V6 ⟨v6, rfl, r6, b6⟩
    have b6 : Below V5.heap.size V5 V6 := b6
    refine ⟨_, rfl, S5.trans (b6.mono S5.size), ?_⟩
    simp only [Act.put, List.setIfInBounds_toArray, List.set_cons_zero, List.set_cons_succ]
    refine anyH_more (fun V => Below V6.heap.size V6 V) (fun V hV => S5.trans ((b6.trans (hV.mono b6.size)).mono S5.size)) ?_
    have S6 : Below V6.heap.size V6 V6 := Below.refl _ _
    have T6 := T5.below b6
    have B6 : Below w.heap.size w V6 := B5.trans (b6.mono B5.size)
    refine anyH_take (i := 28) (v := .string (ofS (bytesM L))) rfl (some 51) rfl (by kernel_rfl) (by kernel_rfl) (by kernel_rfl) (fun _ _ _ h => by cases h.1) rfl (fun w0 hw0 => ex_conv rfl rfl (conv_row (own_same r6 (fun g e => hw0.block g (own_lt r6 g e))))) S6 ?_
    simp only [Act.put, List.setIfInBounds_toArray, List.set_cons_zero, List.set_cons_succ]
    refine anyH_take (i := 29) (v := .bool true) rfl (some 52) rfl (by kernel_rfl) (by kernel_rfl) (by kernel_rfl) (fun _ _ _ h => by cases h.1) rfl (fun w0 hw0 => ex_eqs rfl rfl rfl) S6 ?_
    simp only [Act.put, List.setIfInBounds_toArray, List.set_cons_zero, List.set_cons_succ]
    refine anyH_take (i := 30) (v := .bool true) rfl (some 53) rfl (by kernel_rfl) (by kernel_rfl) (by kernel_rfl) (fun _ _ _ h => by cases h.1) rfl (fun w0 hw0 => ex_pick rfl rfl rfl) S6 ?_
    simp only [Act.put, List.setIfInBounds_toArray, List.set_cons_zero, List.set_cons_succ]
    refine anyH_take (i := 31) (v := .bool true) rfl (some 54) rfl (by kernel_rfl) (by kernel_rfl) (by kernel_rfl) (fun _ _ _ h => by cases h.1) rfl (fun w0 hw0 => by first | rfl | kernel_rfl) S6 ?_
    simp only [Act.put, List.setIfInBounds_toArray, List.set_cons_zero, List.set_cons_succ]
    refine anyH_take (i := 32) (v := .pointer (some ⟨p, 0, none⟩)) rfl (some 55) rfl (by kernel_rfl) (by kernel_rfl) (by kernel_rfl) (fun _ _ _ h => by cases h.1) rfl (fun w0 hw0 => by first | rfl | kernel_rfl) S6 ?_
    simp only [Act.put, List.setIfInBounds_toArray, List.set_cons_zero, List.set_cons_succ]
    refine anyH_take (i := 33) (v := .string s) rfl (some 56) rfl (by kernel_rfl) (by kernel_rfl) (by kernel_rfl) (fun _ _ _ h => by cases h.1) rfl (fun w0 hw0 => by first | rfl | kernel_rfl) S6 ?_
    simp only [Act.put, List.setIfInBounds_toArray, List.set_cons_zero, List.set_cons_succ]
    refine anyH_take (i := 35) (v := .pointer (some ⟨q, 0, none⟩)) rfl (some 58) rfl (by kernel_rfl) (by kernel_rfl) (by kernel_rfl) (fun _ _ _ h => by cases h.1) rfl (fun w0 hw0 => by first | rfl | kernel_rfl) S6 ?_
    simp only [Act.put, List.setIfInBounds_toArray, List.set_cons_zero, List.set_cons_succ]
    refine anyH_take (i := 36) (v := .string s) rfl (some 59) rfl (by kernel_rfl) (by kernel_rfl) (by kernel_rfl) (fun _ _ _ h => by cases h.1) rfl (fun w0 hw0 => by first | rfl | kernel_rfl) S6 ?_
    simp only [Act.put, List.setIfInBounds_toArray, List.set_cons_zero, List.set_cons_succ]
    refine anyH_one (i := 34) (by kernel_rfl) ?_
    refine op_call rfl (some 57) rfl rfl #[.pointer (some ⟨p, 0, none⟩), .string s] rfl (by simp [Act.eval]) (fun _ _ => rfl) (scan_any base p b L s _ T6.dev HG.out.few) ?_
    rintro e V7 ⟨v7, rfl, r7, b7⟩
    have b7 : Below V6.heap.size V6 V7 := b7
    refine ⟨_, rfl, S6.trans (b7.mono S6.size), ?_⟩
    simp only [Act.put, List.setIfInBounds_toArray, List.set_cons_zero, List.set_cons_succ]
    refine anyH_more (fun V => Below V7.heap.size V7 V) (fun V hV => S6.trans ((b7.trans (hV.mono b7.size)).mono S6.size)) ?_
    have S7 : Below V7.heap.size V7 V7 := Below.refl _ _
    have T7 := T6.below b7
    have B7 : Below w.heap.size w V7 := B6.trans (b7.mono B6.size)
    refine anyH_one (i := 37) (by kernel_rfl) ?_
    refine op_call rfl (some 60) rfl rfl #[.pointer (some ⟨q, 0, none⟩), .string s] rfl (by simp [Act.eval]) (fun _ _ => rfl) (rscan_any base q u L s _ T7.ref) ?_
    rintro e V8 ⟨v8, rfl, r8, b8⟩
    have b8 : Below V7.heap.size V7 V8 := b8
    refine ⟨_, rfl, S7.trans (b8.mono S7.size), ?_⟩
    simp only [Act.put, List.setIfInBounds_toArray, List.set_cons_zero, List.set_cons_succ]
    refine anyH_more (fun V => Below V8.heap.size V8 V) (fun V hV => S7.trans ((b8.trans (hV.mono b8.size)).mono S7.size)) ?_
    have S8 : Below V8.heap.size V8 V8 := Below.refl _ _
    have T8 := T7.below b8
    have B8 : Below w.heap.size w V8 := B7.trans (b8.mono B7.size)
    have r7' : Prs V8 V6.heap.size v7 (scanM L s) := own_same r7 (fun g e => b8.block g (own_lt r7 g e))
    refine anyH_one (i := 38) (by kernel_rfl) ?_
    refine op_call rfl (some 61) rfl rfl #[v7, v8] rfl (by simp [Act.eval]) (fun _ _ => rfl) (rsame_any _ _ v7 v8 (scanM L s) _ r7' r8 (Nat.le_trans (scanM_le L s) HG.out.few)) ?_
    rintro e V9 ⟨rfl, b9⟩
    have b9 : Below V8.heap.size V8 V9 := b9
    refine ⟨_, rfl, S8.trans (b9.mono S8.size), ?_⟩
    simp only [Act.put, List.setIfInBounds_toArray, List.set_cons_zero, List.set_cons_succ]
    refine anyH_more (fun V => Below V9.heap.size V9 V) (fun V hV => S8.trans ((b9.trans (hV.mono b9.size)).mono S8.size)) ?_
    have S9 : Below V9.heap.size V9 V9 := Below.refl _ _
    have T9 := T8.below b9
    have B9 : Below w.heap.size w V9 := B8.trans (b9.mono B8.size)
    refine anyH_take (i := 39) (v := .bool true) rfl (some 62) rfl (by kernel_rfl) (by kernel_rfl) (by kernel_rfl) (fun _ _ _ h => by cases h.1) rfl (fun w0 hw0 => ex_pick rfl rfl rfl) S9 ?_
    simp only [Act.put, List.setIfInBounds_toArray, List.set_cons_zero, List.set_cons_succ]
    refine anyH_val (i := 40) (by kernel_rfl) rfl (some 6) rfl rfl (ex_any rfl rfl) S9 ?_
    simp only [Act.put, List.setIfInBounds_toArray, List.set_cons_zero, List.set_cons_succ]
    exact wpAnyH_done (by kernel_rfl) ⟨rfl, _, _, _, _, _, _, _, _, _, _, _, _, _, _, _, _, _, _, _, _, _, _, _, _, _, _, _, _, _, _, _, _, _, _, _, _, _, _, _, _, _, _, _, _, _, _, _, _, _, _, _, _, _, _, _, _, _, _, _, _, _, _, B9, rfl⟩ _
  case fin =>
    rintro a W ⟨x0, x1, x2, x3, x4, x5, x7, x8, x9, x10, x11, x12, x13, x14, x15, x16, x17, x18, x19, x20, x21, x22, x23, x24, x25, x26, x27, x28, x29, x30, x31, x32, x33, x34, x35, x36, x37, x38, x39, x40, x41, x42, x43, x44, x45, x46, x47, x48, x49, x50, x51, x52, x53, x54, x55, x56, x57, x58, x59, x60, x61, x62, hB, rfl⟩
    have HB := hide hB
    clear hB
    go_wp2_with fail
    go_ret
    exact ⟨rfl, HB.out⟩
end Go.Proofs.Ytjdcgndcljmieaa
