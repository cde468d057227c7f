/- StanzaWrites: a stanza's tokens, or the error, and whether it is right, are the document's. -/
import Derived.Test.YtpknifioflagaaaDoorXM
import Derived.Test.YtpknifioflagaaaDoorXS
namespace Go.Proofs.YtpknifioflagaaaDoor
open Go.RowKit Go.Shelf

set_option maxRecDepth 100000 in
set_option maxHeartbeats 8000000 in
theorem stanzaWrites_any (k : Int) (ty fr tt id : ByteArray) (pa : Option Addr) (pc : Nat) (ts : List Tok) (av : Nat → Option Addr × Nat) (w : World) (hT1 : TokMem w.heap.size w pa ts av) (hav : ∀ i t, ts[i]? = some t → (av i).1 = none → (av i).2 = 0) (hc1 : ts.length ≤ pc) (hz : ty.size ≤ 4611686018427387903 ∧ fr.size ≤ 4611686018427387903 ∧ tt.size ≤ 4611686018427387903 ∧ id.size ≤ 4611686018427387903) (hE : Env6 w) :
    Calls Tryd.prog 3 #[.agg #[.int .u8 k, .string ty, .string fr, .string tt, .string id, .slice pa ts.length pc]] w fun e w' => e = .returned (.bool true) ∧ Below w.heap.size w w' := by
  have mem1 : ∀ V, Below w.heap.size w V → TokMem V.heap.size V pa (ts.take 70) av := fun V hV => ((hT1.below hV).raise hV.size).take 70
  have hav1 := take_av (n := 70) hav
  have hs1 : (ts.take 70).length ≤ 70 := by rw [List.length_take]; omega
  have HF := hide fun (V : World) => few6_any k ty fr tt id pa pc ts V hc1 hT1.1
  have HLV := hide fun (V : World) (hV : Env6 V) => live_any V hV
  obtain ⟨us, hus⟩ : ∃ us, ts.take 70 = us := ⟨_, rfl⟩
  rw [hus] at hs1 HF mem1 hav1
  obtain ⟨q, hq⟩ := bool_of (StOk k ty fr tt id us)
  have hz' := wide4 hz
  have HRt := hide fun (V : World) (hV : Below w.heap.size w V) => (stRight_any k ty fr tt id pa pc us av V (mem1 V hV) (by omega) hz' (hE.below hV).1 (hE.below hV).2.1 (hE.below hV).2.2.2).mono (R' := fun e w' => e = .returned (.bool q) ∧ Below V.heap.size V w') (fun e w' h => ⟨tells_is h.1 hq, h.2⟩)
  have HRr := hide fun (V : World) (hV : Below w.heap.size w V) => (rright6_any k ty fr tt id pa pc us av V (mem1 V hV) hav1 (by omega) hz (hE.below hV)).mono (R' := fun e w' => e = .returned (.bool q) ∧ Below V.heap.size V w') (fun e w' h => ⟨tells_is h.1 hq, h.2⟩)
  obtain ⟨xs, ec, hx⟩ := enc_what k ty fr tt id us
  have HEn := hide fun (V : World) (hV : Below w.heap.size w V) => enc_u (pc := pc) (mem1 V hV) (by omega) hz' (hE.below hV) hx
  have HEr := hide fun (V : World) (hV : Below w.heap.size w V) => renc_u (pc := pc) (mem1 V hV) hav1 (by omega) hz (hE.below hV) hx
  obtain ⟨m1, hm1⟩ : ∃ m1, ts.length = m1 := ⟨_, rfl⟩
  obtain ⟨n1, hn1⟩ : ∃ n1, us.length = n1 := ⟨_, rfl⟩
  obtain ⟨n2, hn2⟩ : ∃ n2, xs.length = n2 := ⟨_, rfl⟩
  rw [hm1, hn1] at HF
  rw [hn1] at HRt HRr
  rw [hn1, hn2] at HEn HEr
  rw [hm1]
  obtain ⟨Wa, hWa, aa, ba, za⟩ := newV w 25 #[.int .u8 k, .string ty, .string fr, .string tt, .string id, .slice pa m1 pc]
  obtain ⟨x0, x1, x2, x3, x4, x5⟩ := cells6 aa
  have HG := hide (And.intro hn2 (And.intro hn1 (And.intro hE hs1)))
  have H0 := hide (And.intro aa ba)
  clear aa ba mem1 hE hz hz' hs1 hn1 hn2 hT1 hc1 hm1 hus hav hav1 hq hx
  go_enter Tryd.func3, Tryd.ntmps3
  go_wp2_with (go_at_call 9; refine (HF.out _).mono ?_; rintro e w1 ⟨rfl, b1⟩; refine stopHere ?_)
  unfold Hid
  have g1 := (b1.block w.heap.size (hp_lt H0.out.1)).trans H0.out.1
  have B1 : Below w.heap.size w w1 := H0.out.2.trans (b1.mono H0.out.2.size)
  obtain ⟨V, hV⟩ : ∃ W, ((((((w1.setCell ⟨w.heap.size, 0, none⟩ (.int .u8 k)).setCell ⟨w.heap.size, 1, none⟩ (.string ty)).setCell ⟨w.heap.size, 2, none⟩ (.string fr)).setCell ⟨w.heap.size, 3, none⟩ (.string tt)).setCell ⟨w.heap.size, 4, none⟩ (.string id)).setCell ⟨w.heap.size, 5, none⟩ (.slice pa n1 pc)) = W := ⟨_, rfl⟩
  have HS := hide (run_store_st g1 k ty fr tt id pa n1 pc)
  have gV : V.heap[w.heap.size]? = some (.cells #[.int .u8 k, .string ty, .string fr, .string tt, .string id, .slice pa n1 pc] 25) := by rw [← hV]; exact set6 g1 _ _ _ _ _ _
  have BV : Below w.heap.size w V := by rw [← hV]; exact below6 B1 (Nat.le_refl _) _ _ _ _ _ _
  obtain ⟨y0, y1, y2, y3, y4, y5⟩ := cells6 gV
  have HBV := hide (And.intro gV BV)
  rw [hV] at HS
  have HEn' := hide (HEn.out V BV)
  clear gV BV g1 B1 b1 x0 x1 x2 x3 x4 x5 HF hV HEn
  go_wp2_with (first
    | (refine l_store 25 HS.out rfl rfl rfl rfl ?_)
    | (go_at_call 10; refine HEn'.out.mono ?_; rintro e w2 ⟨ga, gc, av2, rfl, hT2, b2⟩; refine stopHere ?_))
  unfold Hid
  have g2 := (b2.block w.heap.size (hp_lt HBV.out.1)).trans HBV.out.1
  have B2 : Below w.heap.size w w2 := HBV.out.2.trans (b2.mono HBV.out.2.size)
  clear y0 y1 y2 y3 y4 y5
  obtain ⟨y0, y1, y2, y3, y4, y5⟩ := cells6 g2
  have HEr' := hide (HEr.out w2 B2)
  have H2 := hide (And.intro g2 (And.intro B2 hT2))
  clear g2 B2 hT2 b2 HEr HEn' HS HBV
  go_wp2_with (go_at_call 11; refine HEr'.out.mono ?_; rintro e w3 ⟨gb, gd, av3, rfl, hT3, b3⟩; refine stopHere ?_)
  unfold Hid
  have g3 := (b3.block w.heap.size (hp_lt H2.out.1)).trans H2.out.1
  have B3 : Below w.heap.size w w3 := H2.out.2.1.trans (b3.mono H2.out.2.1.size)
  have hT2 := (H2.out.2.2.below b3).raise b3.size
  have H3 := hide (And.intro g3 (And.intro B3 (And.intro hT2 hT3)))
  clear y0 y1 y2 y3 y4 y5 g3 B3 hT2 hT3 b3 H2 HEr'
  go_wp2_with fail
  obtain ⟨X0, hX0⟩ : ∃ X0, w3.drew = X0 := ⟨_, rfl⟩
  have E0 : Below w.heap.size w X0 := by rw [← hX0]; exact H3.out.2.1.drew
  have ja : X0.heap[w.heap.size]? = some (.cells #[.int .u8 k, .string ty, .string fr, .string tt, .string id, .slice pa n1 pc] 25) := by rw [← hX0]; exact H3.out.1
  have D0 : Below w3.heap.size w3 X0 := by rw [← hX0]; exact (Below.refl _ _).drew
  have HSm := hide fun (U : World) (hU : Below X0.heap.size X0 U) => (refSame_any ga gb gc gd xs xs av2 av3 U ((H3.out.2.2.1.below (D0.trans (hU.mono D0.size))).raise (Nat.le_trans D0.size hU.size)) ((H3.out.2.2.2.below (D0.trans (hU.mono D0.size))).raise (Nat.le_trans D0.size hU.size))).mono (R' := fun e w' => e = .returned (.bool true) ∧ Below U.heap.size U w') (fun e w' h => ⟨tells_is h.1 (by simp), h.2⟩)
  rw [HG.out.1] at HSm
  refine region_rel (S := fun W => Below X0.heap.size X0 W) (fun a W => ∃ y0 y1 y3 y4 y5 y6 y7 y8 y9 y10 y11 y12 y13 y14 y15 y16 y17 y18 y19 y20 y21 y22 y23 y24 y25 y26 y27 y28 y29 y30 y31 y32 y33 y34 y35 y36 : Value, Below w.heap.size w W ∧ a = { tmps := #[y0, y1, .bool true, y3, y4, y5, y6, y7, y8, y9, y10, y11, y12, y13, y14, y15, y16, y17, y18, y19, y20, y21, y22, y23, y24, y25, y26, y27, y28, y29, y30, y31, y32, y33, y34, y35, y36], defers := [] }) (by kernel_rfl) ?reg2 ?beh2
  case reg2 =>
    rw [hX0]
    have T0 : Below X0.heap.size X0 X0 := Below.refl _ _
    refine anyH_one (i := 0) (by kernel_rfl) ?_
    refine op_call rfl (some 19) rfl rfl #[] rfl (by simp) (fun _ _ => rfl) (HLV.out X0 (HG.out.2.2.1.below E0)) ?_
    rintro e X1 ⟨rfl, d1⟩
    refine ⟨_, rfl, T0.trans (d1.mono T0.size), ?_⟩
    simp only [Act.put, List.setIfInBounds_toArray, List.set_cons_zero, List.set_cons_succ]
    have T1 : Below X0.heap.size X0 X1 := T0.trans (d1.mono T0.size)
    have E1 : Below w.heap.size w X1 := E0.trans (T1.mono E0.size)
    refine anyH_take (i := 1) (v := .bool true) rfl (some 20) rfl (by kernel_rfl) (by kernel_rfl) (by kernel_rfl) (fun _ _ _ h => by cases h.1) rfl (fun w0 hw0 => by first | rfl | kernel_rfl) T1 ?_
    simp only [Act.put, List.setIfInBounds_toArray, List.set_cons_zero, List.set_cons_succ]
    refine anyH_take (i := 2) (v := .slice ga n2 gc) rfl (some 21) rfl (by kernel_rfl) (by kernel_rfl) (by kernel_rfl) (fun _ _ _ h => by cases h.1) rfl (fun w0 hw0 => by first | rfl | kernel_rfl) T1 ?_
    simp only [Act.put, List.setIfInBounds_toArray, List.set_cons_zero, List.set_cons_succ]
    refine anyH_take (i := 3) (v := .slice gb n2 gd) rfl (some 22) rfl (by kernel_rfl) (by kernel_rfl) (by kernel_rfl) (fun _ _ _ h => by cases h.1) rfl (fun w0 hw0 => by first | rfl | kernel_rfl) T1 ?_
    simp only [Act.put, List.setIfInBounds_toArray, List.set_cons_zero, List.set_cons_succ]
    refine anyH_one (i := 4) (by kernel_rfl) ?_
    refine op_call rfl (some 23) rfl rfl #[.slice ga n2 gc, .slice gb n2 gd] rfl (by simp [Act.eval]) (fun _ _ => rfl) (HSm.out X1 T1) ?_
    rintro e X2 ⟨rfl, d2⟩
    refine ⟨_, rfl, T1.trans (d2.mono T1.size), ?_⟩
    simp only [Act.put, List.setIfInBounds_toArray, List.set_cons_zero, List.set_cons_succ]
    have T2 : Below X0.heap.size X0 X2 := T1.trans (d2.mono T1.size)
    have E2 : Below w.heap.size w X2 := E0.trans (T2.mono E0.size)
    refine anyH_take (i := 5) (v := .bool true) rfl (some 24) rfl (by kernel_rfl) (by kernel_rfl) (by kernel_rfl) (fun _ _ _ h => by cases h.1) rfl (fun w0 hw0 => ex_pickT rfl rfl rfl) T2 ?_
    simp only [Act.put, List.setIfInBounds_toArray, List.set_cons_zero, List.set_cons_succ]
    refine anyH_take (i := 6) (v := .bool true) rfl (some 25) rfl (by kernel_rfl) (by kernel_rfl) (by kernel_rfl) (fun _ _ _ h => by cases h.1) rfl (fun w0 hw0 => by first | rfl | kernel_rfl) T2 ?_
    simp only [Act.put, List.setIfInBounds_toArray, List.set_cons_zero, List.set_cons_succ]
    refine anyH_take (i := 7) (v := .int .i64 ec) rfl (some 26) rfl (by kernel_rfl) (by kernel_rfl) (by kernel_rfl) (fun _ _ _ h => by cases h.1) rfl (fun w0 hw0 => by first | rfl | kernel_rfl) T2 ?_
    simp only [Act.put, List.setIfInBounds_toArray, List.set_cons_zero, List.set_cons_succ]
    refine anyH_take (i := 8) (v := .int .i64 ec) rfl (some 27) rfl (by kernel_rfl) (by kernel_rfl) (by kernel_rfl) (fun _ _ _ h => by cases h.1) rfl (fun w0 hw0 => by first | rfl | kernel_rfl) T2 ?_
    simp only [Act.put, List.setIfInBounds_toArray, List.set_cons_zero, List.set_cons_succ]
    refine anyH_take (i := 9) (v := .bool true) rfl (some 28) rfl (by kernel_rfl) (by kernel_rfl) (by kernel_rfl) (fun _ _ _ h => by cases h.1) rfl (fun w0 hw0 => ex_eqi rfl rfl rfl) T2 ?_
    simp only [Act.put, List.setIfInBounds_toArray, List.set_cons_zero, List.set_cons_succ]
    refine anyH_take (i := 10) (v := .bool true) rfl (some 29) rfl (by kernel_rfl) (by kernel_rfl) (by kernel_rfl) (fun _ _ _ h => by cases h.1) rfl (fun w0 hw0 => ex_pickT rfl rfl rfl) T2 ?_
    simp only [Act.put, List.setIfInBounds_toArray, List.set_cons_zero, List.set_cons_succ]
    refine anyH_take (i := 11) (v := .bool true) rfl (some 30) rfl (by kernel_rfl) (by kernel_rfl) (by kernel_rfl) (fun _ _ _ h => by cases h.1) rfl (fun w0 hw0 => by first | rfl | kernel_rfl) T2 ?_
    simp only [Act.put, List.setIfInBounds_toArray, List.set_cons_zero, List.set_cons_succ]
    refine anyH_take (i := 12) (v := .agg #[.int .u8 k, .string ty, .string fr, .string tt, .string id, .slice pa n1 pc]) rfl (some 31) rfl (by kernel_rfl) (by kernel_rfl) (by kernel_rfl) (fun _ _ _ h => by cases h.1) rfl (fun w0 hw0 => ex_load rfl rfl (run_load_st ((hw0.block _ (hp_lt ja)).trans ja))) T2 ?_
    simp only [Act.put, List.setIfInBounds_toArray, List.set_cons_zero, List.set_cons_succ]
    refine anyH_take (i := 14) (v := .agg #[.int .u8 k, .string ty, .string fr, .string tt, .string id, .slice pa n1 pc]) rfl (some 33) rfl (by kernel_rfl) (by kernel_rfl) (by kernel_rfl) (fun _ _ _ h => by cases h.1) rfl (fun w0 hw0 => ex_load rfl rfl (run_load_st ((hw0.block _ (hp_lt ja)).trans ja))) T2 ?_
    simp only [Act.put, List.setIfInBounds_toArray, List.set_cons_zero, List.set_cons_succ]
    refine anyH_one (i := 13) (by kernel_rfl) ?_
    refine op_call rfl (some 32) rfl rfl #[.agg #[.int .u8 k, .string ty, .string fr, .string tt, .string id, .slice pa n1 pc]] rfl (by simp [Act.eval]) (fun _ _ => rfl) (HRt.out X2 E2) ?_
    rintro e X3 ⟨rfl, d3⟩
    refine ⟨_, rfl, T2.trans (d3.mono T2.size), ?_⟩
    simp only [Act.put, List.setIfInBounds_toArray, List.set_cons_zero, List.set_cons_succ]
    have T3 : Below X0.heap.size X0 X3 := T2.trans (d3.mono T2.size)
    have E3 : Below w.heap.size w X3 := E0.trans (T3.mono E0.size)
    refine anyH_one (i := 15) (by kernel_rfl) ?_
    refine op_call rfl (some 34) rfl rfl #[.agg #[.int .u8 k, .string ty, .string fr, .string tt, .string id, .slice pa n1 pc]] rfl (by simp [Act.eval]) (fun _ _ => rfl) (HRr.out X3 E3) ?_
    rintro e X4 ⟨rfl, d4⟩
    refine ⟨_, rfl, T3.trans (d4.mono T3.size), ?_⟩
    simp only [Act.put, List.setIfInBounds_toArray, List.set_cons_zero, List.set_cons_succ]
    have T4 : Below X0.heap.size X0 X4 := T3.trans (d4.mono T3.size)
    have E4 : Below w.heap.size w X4 := E0.trans (T4.mono E0.size)
    refine anyH_take (i := 16) (v := .bool true) rfl (some 35) rfl (by kernel_rfl) (by kernel_rfl) (by kernel_rfl) (fun _ _ _ h => by cases h.1) rfl (fun w0 hw0 => ex_eqb rfl rfl rfl) T4 ?_
    simp only [Act.put, List.setIfInBounds_toArray, List.set_cons_zero, List.set_cons_succ]
    refine anyH_take (i := 17) (v := .bool true) rfl (some 36) rfl (by kernel_rfl) (by kernel_rfl) (by kernel_rfl) (fun _ _ _ h => by cases h.1) rfl (fun w0 hw0 => ex_pickT rfl rfl rfl) T4 ?_
    simp only [Act.put, List.setIfInBounds_toArray, List.set_cons_zero, List.set_cons_succ]
    refine anyH_val (i := 18) (by kernel_rfl) rfl (some 2) rfl rfl (ex_any rfl rfl) T4 ?_
    simp only [Act.put, List.setIfInBounds_toArray, List.set_cons_zero, List.set_cons_succ]
    exact wpAnyH_done (by kernel_rfl) ⟨rfl, _, _, _, _, _, _, _, _, _, _, _, _, _, _, _, _, _, _, _, _, _, _, _, _, _, _, _, _, _, _, _, _, _, _, _, _, E4, rfl⟩ _
  case beh2 =>
    rintro a W' ⟨y0, y1, y3, y4, y5, y6, y7, y8, y9, y10, y11, y12, y13, y14, y15, y16, y17, y18, y19, y20, y21, y22, y23, y24, y25, y26, y27, y28, y29, y30, y31, y32, y33, y34, y35, y36, hB, rfl⟩
    have HB := hide hB
    clear hB
    go_wp2_with fail
    go_ret
    exact ⟨rfl, HB.out⟩
end Go.Proofs.YtpknifioflagaaaDoor
